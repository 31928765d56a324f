/-
  What FirstOut is handed is right: lists of values, alarms; alarms copied.
-/
import Derived.Test.YtnfdamkjkclnmaaAlI1
import Derived.Lib.SliceRun
namespace Go.Proofs.Ytnfdamkjkclnmaa
open Go.RowKit Go.Deep

/-- A list of values is right. -/
def VsOk (n : Nat) (f : Nat → Int) : Prop := n ≤ 300 ∧ ∀ j, j < n → Al.V (f j)
set_option maxRecDepth 100000 in
set_option maxHeartbeats 4000000 in
theorem values_any (la : Option Addr) (n c : Nat) (f : Nat → Int) (w : World) (h : IsAt la n f w) (hs : n ≤ 1048576) :
    Calls Try.prog 50 #[.slice la n c] w fun e w' => e = .returned (.bool (Mt.dB (VsOk n f))) ∧ Below w.heap.size w w' := by
  have H := Lib.hid h
  clear h
  by_cases c1 : (n : Int) ≤ 300
  case neg =>
    have HE := Lib.hid (Mt.dB_ff (show ¬ VsOk n f from fun k => by have := k.1; omega))
    go_enter Try.func50, Try.ntmps50
    go_wp2_with fail
    go_ret
    exact ⟨by rw [HE.out]; rfl, Below.refl _ _⟩
  have HN : Hid (n ≤ 300) := by show n ≤ 300; omega
  go_enter Try.func50, Try.ntmps50
  go_wp2_with fail
  refine (ivall_any la n c f _ H.out hs).mono ?_
  rintro e w1 ⟨rfl, hb⟩
  have HB := Lib.hid hb
  clear hb
  by_cases c : ∀ i, i < n → Al.V (f i)
  · have HE := Lib.hid (Mt.dB_tt (show VsOk n f from ⟨HN.out, c⟩))
    rw [Mt.dB_tt c]
    clear c
    go_wp2_with fail
    go_ret
    exact ⟨by rw [HE.out]; rfl, HB.out⟩
  · have HE := Lib.hid (Mt.dB_ff (show ¬ VsOk n f from fun k => c k.2))
    rw [Mt.dB_ff c]
    clear c
    go_wp2_with fail
    go_ret
    exact ⟨by rw [HE.out]; rfl, HB.out⟩
set_option maxRecDepth 100000 in
set_option maxHeartbeats 4000000 in
theorem lsclose_any (g : Nat) (ai : Option Addr) (m ci : Nat) (f : Nat → Int) (w : World) (h : IsAt ai m f w) (hs : m ≤ 1048576) (hg : w.rowIs g 91 1 (rowN [(.func (.func 50) #[] #[])])) :
    Calls Try.prog 58 #[.slice ai m ci, .pointer (some ⟨g, 0, none⟩)] w fun e w' => e = .returned (.bool (!Mt.dB (VsOk m f))) ∧ Below w.heap.size w w' := by
  have H := Lib.hid h
  have g1 : w.cell? ⟨g, 0, none⟩ = some (.func (.func 50) #[] #[]) := hg.cell (i := 0) (by omega)
  clear hg h
  go_enter Try.func58, Try.ntmps58
  go_wp2_with fail
  refine (values_any ai m ci f _ H.out hs).mono ?_
  rintro e w1 ⟨rfl, hb⟩
  have HB1 := Lib.hid hb
  clear hb
  by_cases c : VsOk m f
  · have HE := Lib.hid (Mt.dB_tt c)
    rw [Mt.dB_tt c]
    clear c
    go_wp2_with fail
    go_ret
    exact ⟨by rw [HE.out]; rfl, HB1.out⟩
  · have HE := Lib.hid (Mt.dB_ff c)
    rw [Mt.dB_ff c]
    clear c
    go_wp2_with fail
    go_ret
    exact ⟨by rw [HE.out]; rfl, HB1.out⟩
set_option maxRecDepth 100000 in
set_option maxHeartbeats 4000000 in
theorem lsindex_any (la : Option Addr) (n lk g : Nat) (LN : Nat → Nat) (L : Nat → Nat → Int) (w : World) (h : LsAt la n LN L w) (hs : n ≤ 1048576) (hls : ∀ i, i < n → LN i ≤ 1048576) (hg : w.rowIs g 91 1 (rowN [(.func (.func 50) #[] #[])])) :
    Calls Try.prog 63 #[.slice la n lk, .func (.func 58) #[] #[.pointer (some ⟨g, 0, none⟩)]] w fun e w' => (∃ z : Int, e = .returned (.int .i64 z) ∧ (0 ≤ z ↔ ¬ ∀ i, i < n → VsOk (LN i) (L i))) ∧ Below w.heap.size w w' := by
  have H := Lib.hid h
  have HL := Lib.hid hls
  have HG := Lib.hid hg
  clear h hg hls
  go_enter Try.func63, Try.ntmps63
  go_wp2_with fail
  go_loopw [5, 8] (fun _ iv wr => ∃ (i : Nat), i ≤ n ∧ iv = .int .i64 i ∧ Hid (Below w.heap.size w wr) ∧ Hid (∀ i', i' < i → VsOk (LN i') (L i'))) (fun _ iv _ => n - (intOf iv).toNat)
  case atStart => exact ⟨0, Nat.zero_le _, rfl, Below.refl _ _, fun j hj => absurd hj (Nat.not_lt_zero _)⟩
  case round =>
    obtain ⟨i, hi, rfl, hB, hP⟩ := hrel
    by_cases hlt : i < n
    · have hltz : (i : Int) < (n : Int) := by omega
      obtain ⟨b, e, ai, ci, c0, hat⟩ := (H.out.below hB.out).one hlt
      subst e
      have HAT := Lib.hid hat
      obtain ⟨m, hm⟩ : ∃ m, m = LN i := ⟨_, rfl⟩
      obtain ⟨f, hf⟩ : ∃ f, f = L i := ⟨_, rfl⟩
      rw [← hm] at c0
      rw [← hm, ← hf] at HAT
      have HM := Lib.hid hm
      have HF := Lib.hid hf
      clear hat hm hf
      go_wp2_with fail
      refine (lsclose_any g ai m ci f _ HAT.out (by rw [HM.out]; exact HL.out i hlt) (nrow_below HG.out hB.out)).mono ?_
      rintro e w1 ⟨rfl, hb⟩
      have HB1 : Hid (Below w.heap.size w w1) := hB.out.trans (hb.mono hB.out.size)
      clear hb c0
      by_cases c : VsOk m f
      · rw [show (!Mt.dB (VsOk m f)) = false by rw [Mt.dB_tt c]; rfl]
        have HC : Hid (VsOk (LN i) (L i)) := by show VsOk _ _; rw [← HM.out, ← HF.out]; exact c
        clear c
        go_wp2_with fail
        go_roundw
        case rel => exact ⟨i + 1, by omega, by go_num, HB1, fun j hj => by
          by_cases e : j = i
          · subst e; exact HC.out
          · exact hP.out j (by omega)⟩
        case measure => simp [intOf]; omega
      · rw [show (!Mt.dB (VsOk m f)) = true by rw [Mt.dB_ff c]; rfl]
        have HC : Hid (¬ ∀ i, i < n → VsOk (LN i) (L i)) := fun x => c (by rw [HM.out, HF.out]; exact x i hlt)
        clear c
        go_wp2_with fail
        go_ret
        exact ⟨⟨_, rfl, ⟨fun _ => HC.out, fun _ => by omega⟩⟩, HB1.out⟩
    · obtain rfl : i = n := by omega
      go_wp2_with fail
      go_ret
      exact ⟨⟨_, rfl, ⟨fun x => absurd x (by omega), fun x => absurd hP.out x⟩⟩, hB.out⟩
set_option maxRecDepth 100000 in
set_option maxHeartbeats 4000000 in
theorem lsall_any (la : Option Addr) (n lk : Nat) (LN : Nat → Nat) (L : Nat → Nat → Int) (w : World) (h : LsAt la n LN L w) (hs : n ≤ 1048576) (hls : ∀ i, i < n → LN i ≤ 1048576) :
    Calls Try.prog 49 #[.slice la n lk, (.func (.func 50) #[] #[])] w fun e w' => e = .returned (.bool (Mt.dB (∀ i, i < n → VsOk (LN i) (L i)))) ∧ Below w.heap.size w w' := by
  have hmf : ∀ (fn : Fn) (first cap : Array Value) (w : World), (Instr.makeFunc fn first cap).run Try.prog w = .ok (.func fn first cap) w := fun _ _ _ _ => rfl
  obtain ⟨W, hW⟩ : ∃ W, W = w.alloc (.cells #[(.func (.func 50) #[] #[])] 91) := ⟨_, rfl⟩
  obtain ⟨g, hgg⟩ : ∃ g, g = w.heap.size := ⟨_, rfl⟩
  have R1 : Hid (W.rowIs g 91 1 (rowN [(.func (.func 50) #[] #[])])) := by show World.rowIs _ _ _ _ _; rw [hW, hgg]; exact rowN_alloc w _ _
  have HB : Hid (Below w.heap.size w W) := by show Below _ _ _; rw [hW]; exact nbel_alloc _ _
  have H := Lib.hid (h.below HB.out)
  have HL := Lib.hid hls
  have HW := Lib.hid hW
  have HGG := Lib.hid hgg
  clear hW h hgg hls
  have HC0 : Calls Try.prog 57 #[.slice la n lk, .func (.func 58) #[] #[.pointer (some ⟨g, 0, none⟩)]] W fun e w' => e = .returned (.bool (Mt.dB (¬ ∀ i, i < n → VsOk (LN i) (L i)))) ∧ Below W.heap.size W w' := by
    go_enter Try.func57, Try.ntmps57
    go_wp2_with fail
    refine (lsindex_any la n lk g LN L _ H.out hs HL.out R1.out).mono ?_
    rintro e w1 ⟨⟨z, rfl, hz⟩, hb⟩
    have HB := Lib.hid hb
    have HZ := Lib.hid hz
    clear hb hz
    by_cases c : 0 ≤ z
    · have HE := Lib.hid (Mt.dB_tt (HZ.out.1 c))
      go_wp2_with fail
      go_ret
      exact ⟨by rw [HE.out]; simp <;> omega, HB.out⟩
    · have HE := Lib.hid (Mt.dB_ff (fun x => c (HZ.out.2 x)))
      go_wp2_with fail
      go_ret
      exact ⟨by rw [HE.out]; simp <;> omega, HB.out⟩
  have HC := Lib.hid HC0
  clear HC0
  go_enter Try.func49, Try.ntmps49
  go_wp2_with fail
  rw [← HGG.out, ← HW.out]
  clear HW HGG
  refine HC.out.mono ?_
  rintro e w1 ⟨rfl, hb⟩
  have HB1 : Hid (Below w.heap.size w w1) := HB.out.trans (hb.mono HB.out.size)
  clear hb
  by_cases c : ∀ i, i < n → VsOk (LN i) (L i)
  · have HE := Lib.hid (Mt.dB_tt c)
    rw [Mt.dB_ff (fun x => x c)]
    clear c
    go_wp2_with fail
    go_ret
    exact ⟨by rw [HE.out]; rfl, HB1.out⟩
  · have HE := Lib.hid (Mt.dB_ff c)
    rw [Mt.dB_tt c]
    clear c
    go_wp2_with fail
    go_ret
    exact ⟨by rw [HE.out]; rfl, HB1.out⟩
theorem panel_iff {Q : Nat → Int} {N : Nat} {LN : Nat → Nat} {L : Nat → Nat → Int} {M : Nat} : Al.PanelOk Q N LN L M ↔ N ≤ 20 ∧ M = N ∧ (∀ i, i < N → Al.Right (Al.al Q i)) ∧ ∀ i, i < M → VsOk (LN i) (L i) :=
  ⟨fun h => ⟨h.1, h.2.1, h.2.2.1, fun i hi => h.2.2.2 i (by have := h.2.1; omega)⟩, fun h => ⟨h.1, h.2.1, h.2.2.1, fun i hi => h.2.2.2 i (by have := h.2.1; omega)⟩⟩
set_option maxRecDepth 100000 in
set_option maxHeartbeats 4000000 in
theorem panelRight_any (la : Option Addr) (N lk : Nat) (Q : Nat → Int) (va : Option Addr) (M vk : Nat) (LN : Nat → Nat) (L : Nat → Nat → Int) (w : World) (h : IsAt la (N * 6) Q w) (hN : N ≤ 1048576) (hv : LsAt va M LN L w) (hM : M ≤ 1048576) (hls : ∀ i, i < M → LN i ≤ 1048576) :
    Calls Try.prog 37 #[.slice la N lk, .slice va M vk] w fun e w' => e = .returned (.bool (Mt.dB (Al.PanelOk Q N LN L M))) ∧ Below w.heap.size w w' := by
  have H := Lib.hid h
  have HV := Lib.hid hv
  have HL := Lib.hid hls
  clear h hv hls
  by_cases c1 : (N : Int) ≤ 20
  case neg =>
    have HE := Lib.hid (Mt.dB_ff (show ¬ Al.PanelOk Q N LN L M from fun k => by have := k.1; omega))
    go_enter Try.func37, Try.ntmps37
    go_wp2_with fail
    go_ret
    exact ⟨by rw [HE.out]; rfl, Below.refl _ _⟩
  by_cases c2 : M = N
  case neg =>
    have HE := Lib.hid (Mt.dB_ff (show ¬ Al.PanelOk Q N LN L M from fun k => c2 k.2.1))
    have z1 : ((M : Int) == (N : Int)) = false := by simp; omega
    clear c2
    go_enter Try.func37, Try.ntmps37
    go_wp2_with fail
    go_ret
    exact ⟨by rw [HE.out]; rfl, Below.refl _ _⟩
  have z1 : ((M : Int) == (N : Int)) = true := by simp; omega
  have HC : Hid (N ≤ 20 ∧ M = N) := ⟨by omega, c2⟩
  clear c2
  go_enter Try.func37, Try.ntmps37
  go_wp2_with fail
  refine (alall_any la N lk Q _ H.out hN).mono ?_
  rintro e w1 ⟨rfl, hb⟩
  have HB := Lib.hid hb
  clear hb
  by_cases c : ∀ i, i < N → Al.Right (Al.al Q i)
  case neg =>
    have HE := Lib.hid (Mt.dB_ff (show ¬ Al.PanelOk Q N LN L M from fun k => c k.2.2.1))
    rw [Mt.dB_ff c]
    clear c
    go_wp2_with fail
    go_ret
    exact ⟨by rw [HE.out]; rfl, HB.out⟩
  rw [Mt.dB_tt c]
  have HA := Lib.hid c
  clear c
  go_wp2_with fail
  refine (lsall_any va M vk LN L _ (HV.out.below HB.out) hM HL.out).mono ?_
  rintro e w2 ⟨rfl, hb⟩
  have HB2 : Hid (Below w.heap.size w w2) := HB.out.trans (hb.mono HB.out.size)
  clear hb
  by_cases c : ∀ i, i < M → VsOk (LN i) (L i)
  · have HE := Lib.hid (Mt.dB_tt (panel_iff.2 ⟨HC.out.1, HC.out.2, HA.out, c⟩))
    rw [Mt.dB_tt c]
    clear c
    go_wp2_with fail
    go_ret
    exact ⟨by rw [HE.out]; rfl, HB2.out⟩
  · have HE := Lib.hid (Mt.dB_ff (show ¬ Al.PanelOk Q N LN L M from fun k => c (panel_iff.1 k).2.2.2))
    rw [Mt.dB_ff c]
    clear c
    go_wp2_with fail
    go_ret
    exact ⟨by rw [HE.out]; rfl, HB2.out⟩
theorem pinfo : (Try.prog.info? 25).map (fun i => (i.zero, i.size, i.bytes)) = some (some (.agg #[.int .i64 0, .int .i64 0, .int .i64 0, .int .i64 0, .int .i64 0, .int .i64 0]), 6, 48) := by kernel_rfl
/-- So many numbers as cells. -/
def alvs (f : Nat → Int) (N : Nat) : List Value := (List.range N).map fun j => .int .i64 (f j)
theorem alvs_len (f : Nat → Int) (N : Nat) : (alvs f N).length = N := by simp [alvs]
theorem alvs_get (f : Nat → Int) (N : Nat) {j : Nat} (hj : j < N) : (alvs f N)[j]? = some (.int .i64 (f j)) := by simp [alvs, hj]
set_option maxRecDepth 100000 in
set_option maxHeartbeats 4000000 in
theorem alclone_any (b n cap : Nat) (f : Nat → Int) (w : World) (h : IsBlk 25 b (n * 6) f w) (hn2 : n ≤ 20) :
    Calls Try.prog 51 #[.slice (some ⟨b, 0, none⟩) n cap] w fun e w' => (∃ g c, e = .returned (.slice (some ⟨g, 0, none⟩) n c) ∧ w.heap.size ≤ g ∧ ∃ m F, n * 6 ≤ m ∧ w'.rowIs g 25 m F ∧ ∀ j, j < n * 6 → F j = .int .i64 (f j)) ∧ Below w.heap.size w w' := by
  obtain ⟨i0, hi, hz0, hz1, hz2⟩ := info_parts pinfo
  have q22 : ∀ (w : World) (a : Option Addr) (n c n' c' : Nat), (binOp .eql 40 (.slice a n c) (.slice none n' c')).run Try.prog w = .ok (.bool a.isNone) w := fun w a n c n' c' => Lib.run_eql_slice_nil w _ _ a n c n' c' Try.underlying40
  have H := Lib.hid h
  clear h
  go_enter Try.func51, Try.ntmps51
  go_wp2_with (at_builtin; refine wpList_append_own _ rfl _ _ 40 rfl w.heap.size 25 i0 (.agg #[.int .i64 0, .int .i64 0, .int .i64 0, .int .i64 0, .int .i64 0, .int .i64 0]) 6 48 Try.underlying40 hi hz0 hz1 hz2 rfl (by decide) _ _ _ rfl (World.ownsRow_made w #[] 0 (Nat.le_refl _) (Nat.zero_le _) rfl) ⟨b, 0, none⟩ n cap (alvs f (n * 6)) rfl ?qc1 ?qc2 ?qc3 ?qc4 ?qc5 ?qc6 ?_)
  case qc1 => rw [alvs_len]
  case qc2 =>
    intro j u hj
    have hjn : j < n * 6 := by
      have := (List.getElem?_eq_some_iff.1 hj).1
      rw [alvs_len] at this
      exact this
    rw [Addr.add_lit]
    refine Lib.cell?_alloc_some _ ?_
    rw [Nat.zero_add, H.out.cell hjn]
    rw [alvs_get _ _ hjn] at hj
    rw [← hj]
  case qc3 =>
    intro u hu
    obtain ⟨x, _, rfl⟩ := List.mem_map.1 hu
    rfl
  case qc4 => unfold maxLen; omega
  case qc5 => omega
  case qc6 => simp
  intro v' w1 hown hgrow hnil
  have HB : Hid (Below w.heap.size w w1) := ((Below.refl _ w).alloc (Nat.le_refl _) _).grown hgrow (by simp) (by intro k hk; simp [Value.ownBlock] at hk; omega)
  have HO : Hid (∃ g c, v' = .slice (some ⟨g, 0, none⟩) n c ∧ w.heap.size ≤ g ∧ ∃ m F, n * 6 ≤ m ∧ w1.rowIs g 25 m F ∧ ∀ j, j < n * 6 → F j = .int .i64 (f j)) := by
    rcases hown.2 with ⟨e, _⟩ | ⟨g, cp, cur, e1, e2, e3, e4, e5, e6, e7⟩
    · exact (hnil e).elim
    · refine ⟨g, cp, e1, e2, cp * 6, fun i => cur[i]?.getD undef, by omega, ⟨cur, e3, e6, fun i hi => ?_⟩, fun j hj => ?_⟩
      · show cur[i]? = some (cur[i]?.getD undef)
        rw [Array.getElem?_eq_getElem (by omega)]
        rfl
      · have q : (cur.toList.take (n * 6))[j]? = (alvs f (n * 6))[j]? := by first | rw [e7] | (rw [e7]; simp)
        rw [List.getElem?_take, if_pos hj, Array.getElem?_toList, alvs_get f _ hj] at q
        show cur[j]?.getD undef = _
        rw [q]; rfl
  clear hown hgrow hnil
  obtain ⟨g, cp, rfl, h2, h3⟩ := HO.out
  have H2 := Lib.hid h2
  have H3 := Lib.hid h3
  clear h2 h3 HO
  go_wp2_with fail
  go_ret
  exact ⟨⟨g, cp, rfl, H2.out, H3.out⟩, HB.out⟩
end Go.Proofs.Ytnfdamkjkclnmaa
