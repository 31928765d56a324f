/-
  The program's room between two places, and its copy of a list.
-/
import Derived.Test.YtipmjobhegpdgaaGreatDoorPlB0
import Derived.Test.YtipmjobhegpdgaaGreatDoorPlQ0
import Derived.Test.YtipmjobhegpdgaaGreatDoorPlY0
namespace Go.Proofs.YtipmjobhegpdgaaGreatDoor
open Go Go.RowKit Go.Deep

/-- A flow as it is met from the one place to the other. -/
def dirF (a b f : Int) : Int := if b < a then -f else f
/-- A map of bundles of which lengths, marks and flows are known. -/
def RoomS (b cnt : Nat) (kf : Nat → Int × Int) (gl : Nat → Nat) (hb : Nat → Bool) (fl : Nat → Int) (W : World) : Prop := ∃ (ga : Nat → Option Addr) (gc : Nat → Nat), LMap b cnt kf (fun j => bu (.slice (ga j) (gl j) (gc j)) (hb j) (fl j)) W
theorem RoomS.below {b cnt : Nat} {kf : Nat → Int × Int} {gl : Nat → Nat} {hb : Nat → Bool} {fl : Nat → Int} {W W' : World} (h : RoomS b cnt kf gl hb fl W) (k : Below W.heap.size W W') : RoomS b cnt kf gl hb fl W' := by
  obtain ⟨ga, gc, h⟩ := h; exact ⟨ga, gc, h.below k⟩
theorem RoomS.lt {b cnt : Nat} {kf : Nat → Int × Int} {gl : Nat → Nat} {hb : Nat → Bool} {fl : Nat → Int} {W : World} (h : RoomS b cnt kf gl hb fl W) : b < W.heap.size := by
  obtain ⟨ga, gc, h⟩ := h; exact h.lt
theorem RoomS.of_block {b cnt : Nat} {kf : Nat → Int × Int} {gl : Nat → Nat} {hb : Nat → Bool} {fl : Nat → Int} {W W' : World} (h : RoomS b cnt kf gl hb fl W) (e : W'.heap[b]? = W.heap[b]?) : RoomS b cnt kf gl hb fl W' := by
  obtain ⟨ga, gc, h⟩ := h; exact ⟨ga, gc, h.of_block e⟩
set_option maxRecDepth 100000 in
set_option maxHeartbeats 1000000 in
theorem hasRoom_any (b cnt : Nat) (kf : Nat → Int × Int) (gl : Nat → Nat) (hb : Nat → Bool) (fl : Nat → Int) (x y : Int) (j : Nat) (w : World) (h : RoomS b cnt kf gl hb fl w) (hj : j < cnt) (hk : kf j = (Pl.lo x y, Pl.hi x y)) (hf1 : -1000000 ≤ fl j) (hf2 : fl j ≤ 1000000) (_hg : gl j ≤ 1000000) :
    Calls Tryz.prog 82 #[.map (some b), .int .i64 x, .int .i64 y] w fun e w' => e = .returned (.bool (dB (hb j = true ∨ dirF x y (fl j) < gl j))) ∧ Below w.heap.size w w' := by
  have H := Lib.hid h
  have HK := Lib.hid hk
  clear h hk
  go_enter Tryz.func82, Tryz.ntmps82
  go_wp2_with fail
  refine (ppair_any _ _ _).mono ?_
  rintro e w1 ⟨rfl, hb1⟩
  obtain ⟨ga, gc, hM⟩ := H.out.below hb1
  have hlk := hM.look_hit hj
  rw [HK.out] at hlk
  have hlk2 : (Instr.lookup 79 (.map (some b)) (.agg #[.int .i64 (Pl.lo x y), .int .i64 (Pl.hi x y)]) false).run Tryz.prog w1 = .ok (.agg #[.slice (ga j) (gl j) (gc j), .bool (hb j), .int .i64 (fl j)]) w1 := hlk
  have HB1 := Lib.hid hb1
  have HBA : Hid (∀ o, Below w.heap.size w (w1.alloc o)) := fun o => HB1.out.alloc HB1.out.size o
  clear hlk hM hb1
  by_cases c : y < x
  · have HD : Hid (dirF x y (fl j) = -fl j) := if_pos c
    by_cases hh : hb j = true
    · rw [hh] at hlk2
      have HE : Hid (dB (hb j = true ∨ dirF x y (fl j) < gl j) = true) := dB_tt (Or.inl hh)
      clear hh
      go_wp2_with fail
      go_ret
      exact ⟨by rw [HE.out]; rfl, HBA.out _⟩
    · have hf : hb j = false := by simpa using hh
      rw [hf] at hlk2
      by_cases c2 : -fl j < (gl j : Int)
      · have HE : Hid (dB (hb j = true ∨ dirF x y (fl j) < gl j) = true) := dB_tt (Or.inr (by rw [HD.out]; exact c2))
        clear hh hf
        go_wp2_with fail
        go_ret
        exact ⟨by rw [HE.out]; simp <;> omega, HBA.out _⟩
      · have HE : Hid (dB (hb j = true ∨ dirF x y (fl j) < gl j) = false) := dB_ff (fun h => by
          rcases h with h | h
          · exact hh h
          · rw [HD.out] at h; exact c2 h)
        clear hh hf
        go_wp2_with fail
        go_ret
        exact ⟨by rw [HE.out]; simp <;> omega, HBA.out _⟩
  · have HD : Hid (dirF x y (fl j) = fl j) := if_neg c
    by_cases hh : hb j = true
    · rw [hh] at hlk2
      have HE : Hid (dB (hb j = true ∨ dirF x y (fl j) < gl j) = true) := dB_tt (Or.inl hh)
      clear hh
      go_wp2_with fail
      go_ret
      exact ⟨by rw [HE.out]; rfl, HBA.out _⟩
    · have hf : hb j = false := by simpa using hh
      rw [hf] at hlk2
      by_cases c2 : fl j < (gl j : Int)
      · have HE : Hid (dB (hb j = true ∨ dirF x y (fl j) < gl j) = true) := dB_tt (Or.inr (by rw [HD.out]; exact c2))
        clear hh hf
        go_wp2_with fail
        go_ret
        exact ⟨by rw [HE.out]; simp <;> omega, HBA.out _⟩
      · have HE : Hid (dB (hb j = true ∨ dirF x y (fl j) < gl j) = false) := dB_ff (fun h => by
          rcases h with h | h
          · exact hh h
          · rw [HD.out] at h; exact c2 h)
        clear hh hf
        go_wp2_with fail
        go_ret
        exact ⟨by rw [HE.out]; simp <;> omega, HBA.out _⟩
theorem sorted_any' (b cnt : Nat) (kf : Nat → Int × Int) (gl : Nat → Nat) (hb : Nat → Bool) (fl : Nat → Int) (w : World) (h : RoomS b cnt kf gl hb fl w) (hc : cnt ≤ 1000) :
    Calls Tryz.prog 79 #[.map (some b)] w fun e w' => (∃ g c f, e = .returned (.slice (some ⟨g, 0, none⟩) cnt c) ∧ w.heap.size ≤ g ∧ IsAt (some ⟨g, 0, none⟩) (cnt * 2) f w' ∧ (∀ i, i < cnt → ∃ j, j < cnt ∧ kf j = (f (i * 2), f (i * 2 + 1))) ∧ ∀ j, j < cnt → ∃ i, i < cnt ∧ kf j = (f (i * 2), f (i * 2 + 1))) ∧ Below w.heap.size w w' := by
  obtain ⟨ga, gc, h⟩ := h
  exact sorted_any b cnt kf _ w h hc
/-- A queue, or nothing. -/
def QueN (v : Value) (l : List Int) (B : Nat) (W : World) : Prop := (v = .slice none 0 0 ∧ l = []) ∨ Que v l B W
def listOf (f : Nat → Int) (m : Nat) : List Int := (List.range m).map f
set_option maxRecDepth 100000 in
set_option maxHeartbeats 1000000 in
theorem pclone_any (a : Option Addr) (m cap : Nat) (f : Nat → Int) (w : World) (h : IsAt a m f w) (hm : m ≤ 1000) (ha : a = none → m = 0) :
    Calls Tryz.prog 80 #[.slice a m cap] w fun e w' => (∃ v, e = .returned v ∧ QueN v (listOf f m) w.heap.size w') ∧ Below w.heap.size w w' := by
  obtain ⟨i0, hi, hz0, hz1, hz2⟩ := info_parts rinfo_i64
  have q22 : ∀ (w : World) (a : Option Addr) (n c n' c' : Nat), (binOp .eql 23 (.slice a n c) (.slice none n' c')).run Tryz.prog w = .ok (.bool a.isNone) w := fun w a n c n' c' => Lib.run_eql_slice_nil w _ _ a n c n' c' Tryz.underlying23
  have H := Lib.hid h
  clear h
  cases a with
  | none =>
    have HM := Lib.hid (ha rfl)
    clear ha
    go_enter Tryz.func80, Tryz.ntmps80
    go_wp2_with fail
    go_ret
    exact ⟨⟨_, rfl, Or.inl ⟨rfl, by rw [HM.out]; rfl⟩⟩, Below.refl _ _⟩
  | some ad =>
    clear ha
    go_enter Tryz.func80, Tryz.ntmps80
    go_wp2_with (at_builtin; refine wpList_append_own _ rfl _ _ 23 rfl w.heap.size 2 i0 (.int .i64 0) 1 8 Tryz.underlying23 hi hz0 hz1 hz2 rfl (by decide) _ _ _ rfl (World.ownsRow_made w #[] 0 (Nat.le_refl _) (Nat.zero_le _) rfl) ad m cap ((listOf f m).map (Value.int .i64)) rfl ?qc1 ?qc2 ?qc3 ?qc4 ?qc5 ?qc6 ?_)
    case qc1 => simp [listOf]
    case qc2 =>
      intro j u hj
      have hjn : j < m := by
        have := (List.getElem?_eq_some_iff.1 hj).1
        simpa [listOf] using this
      obtain ⟨b, e, hc⟩ := H.out.at1 hjn
      simp at e
      subst e
      have hj2 : u = .int .i64 (f j) := by simp [listOf, hjn] at hj; exact hj.symm
      rw [Addr.add_lit, hj2]
      refine Lib.cell?_alloc_some _ ?_
      rw [Nat.zero_add]
      exact hc
    case qc3 =>
      intro u hu
      obtain ⟨x, _, rfl⟩ := List.mem_map.1 hu
      rfl
    case qc4 => unfold maxLen; omega
    case qc5 => omega
    case qc6 => simp
    intro v' w1 hown hgrow hnil
    have HB : Hid (Below w.heap.size w w1) := ((Below.refl _ w).alloc (Nat.le_refl _) _).grown hgrow (by simp) (by intro k hk; simp [Value.ownBlock] at hk; omega)
    have HQ : Hid (QueN v' (listOf f m) w.heap.size w1) := by
      rcases hown.2 with ⟨h1, h2⟩ | ⟨g, c, cur, h1, h2, h3, h4, h5, h6, h7⟩
      · left
        have : m = 0 := by omega
        subst this
        exact ⟨h1, rfl⟩
      · right
        refine ⟨g, 0, c, cur, by rw [h1]; simp [listOf], h2, h3, by simp [listOf]; omega, h5, fun _ => by omega, fun i z hz => ?_⟩
        have hlt : i < m := by have := (List.getElem?_eq_some_iff.1 hz).1; simpa [listOf] using this
        have e1 : (cur.toList.take (m * 1))[i]? = some (.int .i64 z) := by
          rw [h7]
          simp only [List.getElem?_map, hz]
          rfl
        rw [List.getElem?_take_of_lt (by omega), Array.getElem?_toList] at e1
        rw [Nat.zero_add]
        exact e1
    clear hown hgrow hnil
    go_wp2_with fail
    go_ret
    exact ⟨⟨_, rfl, HQ.out⟩, HB.out⟩
end Go.Proofs.YtipmjobhegpdgaaGreatDoor
