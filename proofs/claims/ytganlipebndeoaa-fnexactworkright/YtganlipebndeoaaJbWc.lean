/-
  The pairs that clash: the program's and the model's.
-/
import Derived.Test.YtganlipebndeoaaJbRo
import Derived.Test.YtganlipebndeoaaJbPr
namespace Go.Proofs.Ytganlipebndeoaa
open Go.RowKit Go.Deep

/-- Two places clash. -/
def Jb.cl (bs : Nat → Je) (s : Nat → Int) (i k : Nat) : Prop := Jb.clash (bs i) (s i) (bs k) (s k)
/-- The pairs that are told. -/
noncomputable def Jb.prs (m : Nat) (bs : Nat → Je) (n : Nat) (s : Nat → Int) : List (Nat × Nat) := if dB (Jb.RosOk m bs n s) = true then Jb.out (Jb.cl bs s) m m else []
/-- An answer of pairs. -/
def PcEnd (B : Nat) (L : List (Nat × Nat)) (e : Ending) (W : World) : Prop := ∃ a k, e = .returned (.slice a L.length k) ∧ PrO B W.heap.size L.length a k (Jb.prF L) W
theorem PrO.low {B B' hi n : Nat} {a : Option Addr} {k : Nat} {P : Nat → Nat → Int} {W : World} (h : PrO B hi n a k P W) (hb : B' ≤ B) : PrO B' hi n a k P W := by
  rcases h with h | ⟨g, gs, e, h1, h2, h3, h4⟩
  · exact Or.inl h
  · exact Or.inr ⟨g, gs, e, ⟨Nat.le_trans hb h1.1, h1.2⟩, h2, fun j hj => ⟨(h3 j hj).1, Nat.le_trans hb (h3 j hj).2.1, (h3 j hj).2.2⟩, h4⟩
theorem info_Is : (Try.prog.info? 29).map (fun i => (i.zero, i.size, i.bytes)) = some (some (.slice none 0 0), 1, 24) := by kernel_rfl
theorem Jb.prs_len (m : Nat) (bs : Nat → Je) (n : Nat) (s : Nat → Int) : (Jb.prs m bs n s).length ≤ 900 := by
  unfold Jb.prs
  by_cases c : Jb.RosOk m bs n s
  · rw [if_pos (dB_tt c)]
    have h1 := Jb.out_len (Jb.cl bs s) m m
    have h2 := c.1.1
    have : m * m ≤ 30 * 30 := Nat.mul_le_mul h2 h2
    omega
  · rw [dB_ff c]; simp
theorem Jb.part_len (C : Nat → Nat → Prop) {m i k : Nat} (hm : m ≤ 30) (hi : i < m) (hk : k ≤ m) : (Jb.out C m i ++ Jb.inn C i k).length ≤ 1000 := by
  have h1 := Jb.out_len C m i
  have h2 := Jb.inn_len C i k
  have : i * m ≤ 30 * 30 := Nat.mul_le_mul (by omega) hm
  rw [List.length_append]
  omega
set_option maxRecDepth 100000 in
set_option maxHeartbeats 4000000 in
theorem implClash_any (a : Option Addr) (m k : Nat) (bs : Nat → Je) (c : Option Addr) (n ck : Nat) (s : Nat → Int) (w : World) (h : JbsAt a m bs w) (hs : JSm m bs) (hc : IsAt c n s w) (hn : n ≤ 1048576) :
    Calls Try.prog 16 #[.slice a m k, .slice c n ck] w fun e w' => PcEnd w.heap.size (Jb.prs m bs n s) e w' ∧ Below w.heap.size w w' := by
  obtain ⟨i1, hi1, hy0, hy1, hy2⟩ := info_parts info_Is
  have H := Lib.hid h
  have HS := Lib.hid hs
  have HC := Lib.hid hc
  clear h hs hc
  go_enter Try.func16, Try.ntmps16
  go_wp2_with fail
  refine (rosterOf_any a m k bs c n ck s _ H.out HS.out HC.out hn).mono ?_
  rintro e WB ⟨hE, hb⟩
  have HBW := Lib.hid hb
  have HJ := Lib.hid (H.out.below hb)
  clear hb H HC
  rcases hE with ⟨hr, a', rfl, hsh⟩ | ⟨hr, rfl⟩
  · have HRES : Hid (Jb.prs m bs n s = Jb.out (Jb.cl bs s) m m) := by show _ = _; unfold Jb.prs; rw [if_pos (dB_tt hr)]
    have HBN := Lib.hid hr.bnd
    have HRI : Hid (∀ i, i < m → Pl.Rising (bs i).rn (bs i).R 100) := fun i hi => (hr.1.2 i hi).r
    have hm := hr.1.1
    have HSH := Lib.hid hsh
    obtain ⟨B, hBd⟩ : ∃ B, B = WB.heap.size := ⟨_, rfl⟩
    obtain ⟨C, hC⟩ : ∃ C, C = Jb.cl bs s := ⟨_, rfl⟩
    rw [← hC] at HRES
    have HCE := Lib.hid hC
    have HBD := Lib.hid hBd
    clear hr hsh hC hBd
    go_wp2_with fail
    go_loopw [7, 8, 9, 20] (fun pv _ _ iv wr => ∃ (i : Nat), i ≤ m ∧ iv = .int .i64 i ∧ Hid (PrL B pv (Jb.out C m i) wr) ∧ Hid (Below B WB wr)) (fun _ _ _ iv _ => m - (intOf iv).toNat)
    case atStart => exact ⟨0, Nat.zero_le _, rfl, PrL.nil _ _, by rw [HBD.out]; exact Below.refl _ _⟩
    case round =>
      obtain ⟨i, hi, rfl, hO, hB⟩ := hrel
      by_cases hlt : i < m
      · have hltz : (i : Int) < (m : Int) := by omega
        have H1 : Hid (Jb.inn C i (i + 1) = []) := Jb.inn_nil C i _ (Nat.le_refl _)
        obtain ⟨av, kv, rfl⟩ := hO.out.shape
        go_wp2_with fail
        go_loopw [7, 9] (fun pv jv wr => ∃ (j : Nat), i + 1 ≤ j ∧ j ≤ m ∧ jv = .int .i64 j ∧ Hid (PrL B pv (Jb.out C m i ++ Jb.inn C i j) wr) ∧ Hid (Below B WB wr)) (fun _ jv _ => m - (intOf jv).toNat)
        case atStart => exact ⟨i + 1, Nat.le_refl _, by omega, by go_num, by rw [H1.out]; simpa using hO, hB⟩
        case round =>
          obtain ⟨j, hj1, hj, rfl, hO2, hB2⟩ := hrel
          clear hO hB
          have hO := hO2
          have hB := hB2
          clear hO2 hB2
          obtain ⟨LL, hLL⟩ : ∃ LL, LL = Jb.out C m i ++ Jb.inn C i j := ⟨_, rfl⟩
          rw [← hLL] at hO
          have HLL := Lib.hid hLL
          clear hLL
          obtain ⟨av, kv, rfl⟩ := hO.out.shape
          by_cases hjt : j < m
          · have hjtz : (j : Int) < (m : Int) := by omega
            obtain ⟨b, eb, ⟨x0, x1, x2, x3, x4⟩⟩ := (HSH.out.below (by have q := hB.out; rw [HBD.out] at q; exact q)).at_ hlt
            obtain ⟨b', eb', ⟨y0, y1, y2, y3, y4⟩⟩ := (HSH.out.below (by have q := hB.out; rw [HBD.out] at q; exact q)).at_ hjt
            subst eb
            have e' : b = b' := by simpa using eb'
            subst e'
            have HJL := Lib.hid (HJ.out.below (by have q := hB.out; rw [HBD.out] at q; exact q))
            obtain ⟨p1, p2, p3⟩ := HBN.out i hlt
            obtain ⟨q1, q2, q3⟩ := HBN.out j hjt
            have HLE : Hid (LL.length ≤ 1000) := by show _ ≤ _; rw [HLL.out]; exact Jb.part_len C hm hlt hj
            clear eb'
            go_wp2_with fail
            refine wp_region_held_drew (S := fun V => Below wr.heap.size wr V) (by kernel_rfl) (Below.refl _ _).drew (fun hHeld => ?_)
            have HX : Hid (∀ V, Below wr.heap.size wr V → ShCells b (i * 5) (bs i) (s i) V ∧ ShCells b (j * 5) (bs j) (s j) V) := fun V hV => ⟨ShCells.block ⟨x0, x1, x2, x3, x4⟩ (hV.block _ (World.block_lt_of_cell? _ _ x0)), ShCells.block ⟨y0, y1, y2, y3, y4⟩ (hV.block _ (World.block_lt_of_cell? _ _ y0))⟩
            clear x0 x1 x2 x3 x4 y0 y1 y2 y3 y4
            refine take_do (i := 0) (v := (.slice (some ⟨b, 0, none⟩) m m)) rfl (by kernel_rfl) (by kernel_rfl) (by kernel_rfl) (fun _ _ _ h => h) (by rfl) ?_ (by assumption) ?_
            · intro w hSw
              skip
              go_simp
            simp only [Act.put, List.setIfInBounds_toArray, List.set_cons_zero, List.set_cons_succ]
            refine take_do (i := 1) (v := (.int .i64 i)) rfl (by kernel_rfl) (by kernel_rfl) (by kernel_rfl) (fun _ _ _ h => h) (by rfl) ?_ (by assumption) ?_
            · intro w hSw
              skip
              go_simp
            simp only [Act.put, List.setIfInBounds_toArray, List.set_cons_zero, List.set_cons_succ]
            refine take_do (i := 2) (v := (.pointer (some ⟨b, i * 5, none⟩))) rfl (by kernel_rfl) (by kernel_rfl) (by kernel_rfl) (fun _ _ _ h => h) (by rfl) ?_ (by assumption) ?_
            · intro w hSw
              skip
              go_simp
            simp only [Act.put, List.setIfInBounds_toArray, List.set_cons_zero, List.set_cons_succ]
            refine take_do (i := 3) (v := (shV (bs i) (s i))) rfl (by kernel_rfl) (by kernel_rfl) (by kernel_rfl) (fun _ _ _ h => h) (by rfl) ?_ (by assumption) ?_
            · intro w hSw
              obtain ⟨⟨x0, x1, x2, x3, x4⟩, y0, y1, y2, y3, y4⟩ := HX.out w hSw
              go_simp
            simp only [Act.put, List.setIfInBounds_toArray, List.set_cons_zero, List.set_cons_succ]
            refine take_do (i := 4) (v := (.slice (some ⟨b, 0, none⟩) m m)) rfl (by kernel_rfl) (by kernel_rfl) (by kernel_rfl) (fun _ _ _ h => h) (by rfl) ?_ (by assumption) ?_
            · intro w hSw
              skip
              go_simp
            simp only [Act.put, List.setIfInBounds_toArray, List.set_cons_zero, List.set_cons_succ]
            refine take_do (i := 5) (v := (.int .i64 j)) rfl (by kernel_rfl) (by kernel_rfl) (by kernel_rfl) (fun _ _ _ h => h) (by rfl) ?_ (by assumption) ?_
            · intro w hSw
              skip
              go_simp
            simp only [Act.put, List.setIfInBounds_toArray, List.set_cons_zero, List.set_cons_succ]
            refine take_do (i := 6) (v := (.pointer (some ⟨b, j * 5, none⟩))) rfl (by kernel_rfl) (by kernel_rfl) (by kernel_rfl) (fun _ _ _ h => h) (by rfl) ?_ (by assumption) ?_
            · intro w hSw
              skip
              go_simp
            simp only [Act.put, List.setIfInBounds_toArray, List.set_cons_zero, List.set_cons_succ]
            refine take_do (i := 7) (v := (shV (bs j) (s j))) rfl (by kernel_rfl) (by kernel_rfl) (by kernel_rfl) (fun _ _ _ h => h) (by rfl) ?_ (by assumption) ?_
            · intro w hSw
              obtain ⟨⟨x0, x1, x2, x3, x4⟩, y0, y1, y2, y3, y4⟩ := HX.out w hSw
              go_simp
            simp only [Act.put, List.setIfInBounds_toArray, List.set_cons_zero, List.set_cons_succ]
            refine take_call (i := 8) rfl (by kernel_rfl) (fun K2 hK => ?_)
            go_simp
            refine (clashes_any (bs i) (bs j) (s i) (s j) _ ((HJL.out.mem hlt).2.below hHeld) (HS.out i hlt).2 ((HJL.out.mem hjt).2.below hHeld) (HS.out j hjt).2 (HRI.out j hjt) (by omega) (by omega) (by omega) (by omega)).mono ?_
            rintro e wc ⟨rfl, hb⟩
            go_wp2_with fail
            refine hK.out _ _ (hHeld.trans (hb.mono hHeld.size)) (fun hHeld2 => ?_)
            clear hK hHeld hb
            refine wpAnyH_done (by kernel_rfl) ?_ _
            replace hO := Lib.hid (hO.out.below hHeld2)
            replace hB : Hid (Below B WB wc) := hB.out.trans (hHeld2.mono (by have := hB.out.size; have := HBD.out; omega))
            clear hHeld2 HX HJL p1 p2 p3 q1 q2 q3
            have hBs : B ≤ wc.heap.size := by have := hB.out.size; have := HBD.out; omega
            have hle := HLE.out
            by_cases cc : Jb.clash (bs i) (s i) (bs j) (s j)
            · rw [dB_tt cc]
              have HI : Hid (Jb.out C m i ++ Jb.inn C i (j + 1) = LL ++ [(i, j)]) := by
                show _ = _
                rw [Jb.inn_yes (by omega) (by rw [HCE.out]; exact cc), HLL.out, List.append_assoc]
              clear cc
              obtain ⟨gs, hgs⟩ := hO.out
              go_wp2_with (at_builtin; refine wpList_append_lies _ rfl _ _ 34 rfl B 29 i1 (.slice none 0 0) 1 24 Try.underlying34 hi1 hy0 hy1 hy2 rfl (by decide) _ _ _ rfl ((hgs.1.alloc _).alloc _) ⟨wc.heap.size + 1, 0, none⟩ 1 1 [.slice (some ⟨wc.heap.size, 0, none⟩) 2 2] rfl rfl ?a1 ?a2 ?a3 ?a4 ?a5 ?a6 (wc.heap.size + 2) ?a7 ?_)
              try (case a1 => (intro j u hj; match j, hj with
                | 0, hj => (simp at hj; subst hj; simp [Addr.add])))
              try (case a2 => first | rfl | (intro u hu; simp at hu; subst hu; rfl))
              try (case a3 => omega)
              try (case a4 => (unfold maxLen; omega))
              try (case a5 => omega)
              try (case a6 => first | omega | (simp; omega))
              try (case a7 => simp)
              intro g cap W3 hown hgrow hat hlt3
              have HO3 : Hid (PrL B (.slice (some ⟨g, 0, none⟩) (LL.length + 1) cap) (LL ++ [(i, j)]) W3) := PrL.push (by omega) rfl hgs hgrow (by simpa using hown)
              have HB3 : Hid (Below B WB W3) := ((hB.out.alloc hBs _).alloc (by simp; omega) _).grown hgrow (by simp; omega) (fun q hq => (hgs.1.lt q hq).1)
              clear hown hgrow hat hlt3 hO hB hgs
              go_wp2_with fail
              go_roundw
              case rel => exact ⟨j + 1, by omega, by omega, by go_num, by rw [HI.out]; exact HO3, HB3⟩
              case measure => simp [intOf]; omega
            · rw [dB_ff cc]
              have HI : Hid (Jb.inn C i (j + 1) = Jb.inn C i j) := Jb.inn_no (by rw [HCE.out]; exact cc)
              clear cc
              go_wp2_with fail
              go_roundw
              case rel => exact ⟨j + 1, by omega, by omega, by go_num, by rw [HI.out, ← HLL.out]; exact hO, hB⟩
              case measure => simp [intOf]; omega
          · obtain rfl : j = m := by omega
            go_wp2_with fail
            go_roundw
            case rel => exact ⟨i + 1, by omega, by go_num, by show Hid (PrL B _ (Jb.out C j i ++ Jb.inn C i j) _); rw [← HLL.out]; exact hO, hB⟩
            case measure => simp [intOf]; omega
      · obtain rfl : i = m := by omega
        obtain ⟨av, kv, rfl⟩ := hO.out.shape
        go_wp2_with fail
        go_ret
        refine ⟨⟨av, kv, by rw [HRES.out]; rfl, by rw [HRES.out]; exact hO.out.own.low (by have := HBW.out.size; have := HBD.out; omega)⟩, HBW.out.trans (hB.out.mono (by have := HBW.out.size; have := HBD.out; omega))⟩
  · have HRES : Hid (Jb.prs m bs n s = []) := by show _ = _; unfold Jb.prs; rw [dB_ff hr]; rfl
    clear hr
    go_wp2_with fail
    go_ret
    exact ⟨⟨none, 0, by rw [HRES.out]; rfl, by rw [HRES.out]; exact Or.inl ⟨rfl, rfl, rfl⟩⟩, HBW.out⟩
set_option maxRecDepth 100000 in
set_option maxHeartbeats 4000000 in
theorem specClash_yes (a : Option Addr) (m k : Nat) (bs : Nat → Je) (c : Option Addr) (ck : Nat) (s : Nat → Int) (w : World) (h : JbsAt a m bs w) (hs : JSm m bs) (hc : IsAt c m s w) (hr : Jb.RosOk m bs m s) :
    Calls Try.prog 15 #[.slice a m k, .slice c m ck] w fun e w' => PcEnd w.heap.size (Jb.out (Jb.cl bs s) m m) e w' ∧ Below w.heap.size w w' := by
  obtain ⟨i1, hi1, hy0, hy1, hy2⟩ := info_parts info_Is
  have H := Lib.hid h
  have HS := Lib.hid hs
  have HCC := Lib.hid hc
  have HN := Lib.hid (dB_tt hr.1)
  have HN2 := Lib.hid (dB_tt hr.2.2)
  have HBN := Lib.hid hr.bnd
  have hm := hr.1.1
  have hz : ¬ (400 : Int) < (m : Int) := by omega
  have hzz : ((m : Int) == (m : Int)) = true := by simp
  obtain ⟨C, hC⟩ : ∃ C, C = Jb.cl bs s := ⟨_, rfl⟩
  have HCE := Lib.hid hC
  obtain ⟨W, hW⟩ : ∃ W, W = w.alloc (.cells #[] 29) := ⟨_, rfl⟩
  have HBW : Hid (Below w.heap.size w W) := by show Below _ _ _; rw [hW]; exact nbel_alloc _ _
  have O0 : Hid (PrL w.heap.size (.slice (some ⟨w.heap.size, 0, none⟩) 0 0) [] W) := by
    rw [hW]
    exact ⟨fun _ => 0, World.ownsRow_made (e := 29) (size := 1) (base := w.heap.size) w #[] 0 (Nat.le_refl _) (Nat.zero_le _) rfl, fun _ hj => absurd hj (Nat.not_lt_zero _), fun _ _ _ hj => absurd hj (Nat.not_lt_zero _)⟩
  have HW := Lib.hid hW
  rw [← hC]
  clear h hs hc hr hW hC
  go_enter Try.func15, Try.ntmps15
  go_wp2_with fail
  rw [← HW.out]
  clear HW
  refine (specJobs_any a m k bs _ (H.out.below HBW.out) HS.out).mono ?_
  rintro e w1 ⟨rfl, hb⟩
  rw [HN.out]
  replace HBW : Hid (Below w.heap.size w w1) := HBW.out.trans (hb.mono HBW.out.size)
  replace O0 := Lib.hid (O0.out.below hb)
  clear hb
  go_wp2_with fail
  refine (sallS_any c m ck s _ (HCC.out.below HBW.out) (by omega)).mono ?_
  rintro e w2 ⟨rfl, hb⟩
  rw [HN2.out]
  replace HBW : Hid (Below w.heap.size w w2) := HBW.out.trans (hb.mono HBW.out.size)
  replace O0 := Lib.hid (O0.out.below hb)
  obtain ⟨WB, hWB⟩ : ∃ WB, WB = w := ⟨_, rfl⟩
  obtain ⟨B, hBd⟩ : ∃ B, B = WB.heap.size := ⟨_, rfl⟩
  have hBw : w.heap.size = B := by rw [hBd, hWB]
  have HBB : Hid (Below B WB w2) := by show Below _ _ _; rw [hBd, hWB]; exact HBW.out
  have O1 : Hid (PrL B (.slice (some ⟨w.heap.size, 0, none⟩) 0 0) [] w2) := by rw [← hBw]; exact O0
  have HHW : Hid (w.heap.size = B ∧ WB = w) := ⟨hBw, hWB⟩
  have HJ0 : Hid (∀ V, Below B WB V → JbsAt a m bs V ∧ IsAt c m s V) := fun V hV => by
    rw [hBd, hWB] at hV
    exact ⟨H.out.below hV, HCC.out.below hV⟩
  have HBD := Lib.hid hBd
  clear hb HBW O0 hBw hWB H HCC hBd
  go_wp2_with fail
  go_loopw [5, 6, 7] (fun pv iv _ wr => ∃ (i : Nat), i ≤ m ∧ iv = .int .i64 i ∧ Hid (PrL B pv (Jb.out C m i) wr) ∧ Hid (Below B WB wr)) (fun _ iv _ _ => m - (intOf iv).toNat)
  case atStart => exact ⟨0, Nat.zero_le _, rfl, O1, HBB⟩
  case round =>
    obtain ⟨i, hi, rfl, hO, hB⟩ := hrel
    clear O1 HBB
    by_cases hlt : i < m
    · have hltz : (i : Int) < (m : Int) := by omega
      have H1 : Hid (Jb.inn C i (i + 1) = []) := Jb.inn_nil C i _ (Nat.le_refl _)
      obtain ⟨av, kv, rfl⟩ := hO.out.shape
      go_wp2_with fail
      go_loopw [5, 7] (fun pv jv wr => ∃ (j : Nat), i + 1 ≤ j ∧ j ≤ m ∧ jv = .int .i64 j ∧ Hid (PrL B pv (Jb.out C m i ++ Jb.inn C i j) wr) ∧ Hid (Below B WB wr)) (fun _ jv _ => m - (intOf jv).toNat)
      case atStart => exact ⟨i + 1, Nat.le_refl _, by omega, by go_num, by rw [H1.out]; simpa using hO, hB⟩
      case round =>
        obtain ⟨j, hj1, hj, rfl, hO2, hB2⟩ := hrel
        clear hO hB
        have hO := hO2
        have hB := hB2
        clear hO2 hB2
        obtain ⟨LL, hLL⟩ : ∃ LL, LL = Jb.out C m i ++ Jb.inn C i j := ⟨_, rfl⟩
        rw [← hLL] at hO
        have HLL := Lib.hid hLL
        clear hLL
        obtain ⟨av, kv, rfl⟩ := hO.out.shape
        by_cases hjt : j < m
        · have hjtz : (j : Int) < (m : Int) := by omega
          obtain ⟨hJB, hCB⟩ := HJ0.out _ hB.out
          obtain ⟨b, eb, ⟨x0, x1, x2, x3⟩, hLi⟩ := hJB.at_ hlt
          obtain ⟨b', eb', ⟨y0, y1, y2, y3⟩, hLj⟩ := hJB.at_ hjt
          subst eb
          have e' : b = b' := by simpa using eb'
          subst e'
          obtain ⟨d, ed, u0⟩ := hCB.at1 hlt
          obtain ⟨d', ed', v0⟩ := hCB.at1 hjt
          subst ed
          have e' : d = d' := by simpa using ed'
          subst e'
          have HLI := Lib.hid hLi
          have HLJ := Lib.hid hLj
          obtain ⟨p1, p2, p3⟩ := HBN.out i hlt
          obtain ⟨q1, q2, q3⟩ := HBN.out j hjt
          have HLE : Hid (LL.length ≤ 1000) := by show _ ≤ _; rw [HLL.out]; exact Jb.part_len C hm hlt hj
          clear eb' ed' hJB hCB hLi hLj
          have HX : Hid (∀ V, Below wr.heap.size wr V → (JeCells b (i * 4) (bs i) V ∧ JeCells b (j * 4) (bs j) V) ∧ V.cell? ⟨d, i, none⟩ = some (.int .i64 (s i)) ∧ V.cell? ⟨d, j, none⟩ = some (.int .i64 (s j))) := fun V hV => ⟨⟨JeCells.block ⟨x0, x1, x2, x3⟩ (hV.block _ (World.block_lt_of_cell? _ _ x0)), JeCells.block ⟨y0, y1, y2, y3⟩ (hV.block _ (World.block_lt_of_cell? _ _ y0))⟩, (hV.cell (World.block_lt_of_cell? _ _ u0)).trans u0, (hV.cell (World.block_lt_of_cell? _ _ v0)).trans v0⟩
          by_cases sh : (bs i).share (bs j)
          · have HSHB := Lib.hid (dB_tt sh)
            have HSH := Lib.hid sh
            clear sh
            go_wp2_with fail
            refine wp_region_held_drew (S := fun V => Below wr.heap.size wr V) (by kernel_rfl) (Below.refl _ _).drew (fun hHeld => ?_)
            clear x0 x1 x2 x3 y0 y1 y2 y3 u0 v0
            refine take_do (i := 0) (v := (.slice (some ⟨b, 0, none⟩) m k)) rfl (by kernel_rfl) (by kernel_rfl) (by kernel_rfl) (fun _ _ _ h => h) (by rfl) ?_ (by assumption) ?_
            · intro w hSw
              skip
              go_simp
            simp only [Act.put, List.setIfInBounds_toArray, List.set_cons_zero, List.set_cons_succ]
            refine take_do (i := 1) (v := (.int .i64 i)) rfl (by kernel_rfl) (by kernel_rfl) (by kernel_rfl) (fun _ _ _ h => h) (by rfl) ?_ (by assumption) ?_
            · intro w hSw
              skip
              go_simp
            simp only [Act.put, List.setIfInBounds_toArray, List.set_cons_zero, List.set_cons_succ]
            refine take_do (i := 2) (v := (.pointer (some ⟨b, i * 4, none⟩))) rfl (by kernel_rfl) (by kernel_rfl) (by kernel_rfl) (fun _ _ _ h => h) (by rfl) ?_ (by assumption) ?_
            · intro w hSw
              skip
              go_simp
            simp only [Act.put, List.setIfInBounds_toArray, List.set_cons_zero, List.set_cons_succ]
            refine take_do (i := 3) (v := (jbV (bs i))) rfl (by kernel_rfl) (by kernel_rfl) (by kernel_rfl) (fun _ _ _ h => h) (by rfl) ?_ (by assumption) ?_
            · intro w hSw
              obtain ⟨⟨⟨x0, x1, x2, x3⟩, y0, y1, y2, y3⟩, u0, v0⟩ := HX.out w hSw
              go_simp
            simp only [Act.put, List.setIfInBounds_toArray, List.set_cons_zero, List.set_cons_succ]
            refine take_do (i := 4) (v := (.slice (some ⟨b, 0, none⟩) m k)) rfl (by kernel_rfl) (by kernel_rfl) (by kernel_rfl) (fun _ _ _ h => h) (by rfl) ?_ (by assumption) ?_
            · intro w hSw
              skip
              go_simp
            simp only [Act.put, List.setIfInBounds_toArray, List.set_cons_zero, List.set_cons_succ]
            refine take_do (i := 5) (v := (.int .i64 j)) rfl (by kernel_rfl) (by kernel_rfl) (by kernel_rfl) (fun _ _ _ h => h) (by rfl) ?_ (by assumption) ?_
            · intro w hSw
              skip
              go_simp
            simp only [Act.put, List.setIfInBounds_toArray, List.set_cons_zero, List.set_cons_succ]
            refine take_do (i := 6) (v := (.pointer (some ⟨b, j * 4, none⟩))) rfl (by kernel_rfl) (by kernel_rfl) (by kernel_rfl) (fun _ _ _ h => h) (by rfl) ?_ (by assumption) ?_
            · intro w hSw
              skip
              go_simp
            simp only [Act.put, List.setIfInBounds_toArray, List.set_cons_zero, List.set_cons_succ]
            refine take_do (i := 7) (v := (jbV (bs j))) rfl (by kernel_rfl) (by kernel_rfl) (by kernel_rfl) (fun _ _ _ h => h) (by rfl) ?_ (by assumption) ?_
            · intro w hSw
              obtain ⟨⟨⟨x0, x1, x2, x3⟩, y0, y1, y2, y3⟩, u0, v0⟩ := HX.out w hSw
              go_simp
            simp only [Act.put, List.setIfInBounds_toArray, List.set_cons_zero, List.set_cons_succ]
            refine take_call (i := 8) rfl (by kernel_rfl) (fun K2 hK => ?_)
            go_simp
            refine (sshare_any (bs i) (bs j) _ (HLI.out.2.below hHeld) (HS.out i hlt).2 (HLJ.out.2.below hHeld) (HS.out j hjt).2).mono ?_
            rintro e wb ⟨rfl, hb⟩
            rw [HSHB.out]
            go_wp2_with fail
            refine hK.out _ _ (hHeld.trans (hb.mono hHeld.size)) (fun hHeld2 => ?_)
            clear hK hHeld hb
            have hHeld := hHeld2
            clear hHeld2
            refine take_do (i := 9) (v := (.bool true)) rfl (by kernel_rfl) (by kernel_rfl) (by kernel_rfl) (fun _ _ _ h => h) (by rfl) ?_ (by assumption) ?_
            · intro w hSw
              skip
              go_simp
            simp only [Act.put, List.setIfInBounds_toArray, List.set_cons_zero, List.set_cons_succ]
            refine take_do (i := 10) (v := (.slice (some ⟨b, 0, none⟩) m k)) rfl (by kernel_rfl) (by kernel_rfl) (by kernel_rfl) (fun _ _ _ h => h) (by rfl) ?_ (by assumption) ?_
            · intro w hSw
              skip
              go_simp
            simp only [Act.put, List.setIfInBounds_toArray, List.set_cons_zero, List.set_cons_succ]
            refine take_do (i := 11) (v := (.int .i64 i)) rfl (by kernel_rfl) (by kernel_rfl) (by kernel_rfl) (fun _ _ _ h => h) (by rfl) ?_ (by assumption) ?_
            · intro w hSw
              skip
              go_simp
            simp only [Act.put, List.setIfInBounds_toArray, List.set_cons_zero, List.set_cons_succ]
            refine take_do (i := 12) (v := (.pointer (some ⟨b, i * 4, none⟩))) rfl (by kernel_rfl) (by kernel_rfl) (by kernel_rfl) (fun _ _ _ h => h) (by rfl) ?_ (by assumption) ?_
            · intro w hSw
              skip
              go_simp
            simp only [Act.put, List.setIfInBounds_toArray, List.set_cons_zero, List.set_cons_succ]
            refine take_do (i := 13) (v := (jbV (bs i))) rfl (by kernel_rfl) (by kernel_rfl) (by kernel_rfl) (fun _ _ _ h => h) (by rfl) ?_ (by assumption) ?_
            · intro w hSw
              obtain ⟨⟨⟨x0, x1, x2, x3⟩, y0, y1, y2, y3⟩, u0, v0⟩ := HX.out w hSw
              go_simp
            simp only [Act.put, List.setIfInBounds_toArray, List.set_cons_zero, List.set_cons_succ]
            refine take_do (i := 14) (v := (.slice (some ⟨d, 0, none⟩) m ck)) rfl (by kernel_rfl) (by kernel_rfl) (by kernel_rfl) (fun _ _ _ h => h) (by rfl) ?_ (by assumption) ?_
            · intro w hSw
              skip
              go_simp
            simp only [Act.put, List.setIfInBounds_toArray, List.set_cons_zero, List.set_cons_succ]
            refine take_do (i := 15) (v := (.int .i64 i)) rfl (by kernel_rfl) (by kernel_rfl) (by kernel_rfl) (fun _ _ _ h => h) (by rfl) ?_ (by assumption) ?_
            · intro w hSw
              skip
              go_simp
            simp only [Act.put, List.setIfInBounds_toArray, List.set_cons_zero, List.set_cons_succ]
            refine take_do (i := 16) (v := (.pointer (some ⟨d, i, none⟩))) rfl (by kernel_rfl) (by kernel_rfl) (by kernel_rfl) (fun _ _ _ h => h) (by rfl) ?_ (by assumption) ?_
            · intro w hSw
              skip
              go_simp
            simp only [Act.put, List.setIfInBounds_toArray, List.set_cons_zero, List.set_cons_succ]
            refine take_do (i := 17) (v := (.int .i64 (s i))) rfl (by kernel_rfl) (by kernel_rfl) (by kernel_rfl) (fun _ _ _ h => h) (by rfl) ?_ (by assumption) ?_
            · intro w hSw
              obtain ⟨⟨⟨x0, x1, x2, x3⟩, y0, y1, y2, y3⟩, u0, v0⟩ := HX.out w hSw
              go_simp
            simp only [Act.put, List.setIfInBounds_toArray, List.set_cons_zero, List.set_cons_succ]
            refine take_do (i := 18) (v := (.slice (some ⟨b, 0, none⟩) m k)) rfl (by kernel_rfl) (by kernel_rfl) (by kernel_rfl) (fun _ _ _ h => h) (by rfl) ?_ (by assumption) ?_
            · intro w hSw
              skip
              go_simp
            simp only [Act.put, List.setIfInBounds_toArray, List.set_cons_zero, List.set_cons_succ]
            refine take_do (i := 19) (v := (.int .i64 j)) rfl (by kernel_rfl) (by kernel_rfl) (by kernel_rfl) (fun _ _ _ h => h) (by rfl) ?_ (by assumption) ?_
            · intro w hSw
              skip
              go_simp
            simp only [Act.put, List.setIfInBounds_toArray, List.set_cons_zero, List.set_cons_succ]
            refine take_do (i := 20) (v := (.pointer (some ⟨b, j * 4, none⟩))) rfl (by kernel_rfl) (by kernel_rfl) (by kernel_rfl) (fun _ _ _ h => h) (by rfl) ?_ (by assumption) ?_
            · intro w hSw
              skip
              go_simp
            simp only [Act.put, List.setIfInBounds_toArray, List.set_cons_zero, List.set_cons_succ]
            refine take_do (i := 21) (v := (jbV (bs j))) rfl (by kernel_rfl) (by kernel_rfl) (by kernel_rfl) (fun _ _ _ h => h) (by rfl) ?_ (by assumption) ?_
            · intro w hSw
              obtain ⟨⟨⟨x0, x1, x2, x3⟩, y0, y1, y2, y3⟩, u0, v0⟩ := HX.out w hSw
              go_simp
            simp only [Act.put, List.setIfInBounds_toArray, List.set_cons_zero, List.set_cons_succ]
            refine take_do (i := 22) (v := (.slice (some ⟨d, 0, none⟩) m ck)) rfl (by kernel_rfl) (by kernel_rfl) (by kernel_rfl) (fun _ _ _ h => h) (by rfl) ?_ (by assumption) ?_
            · intro w hSw
              skip
              go_simp
            simp only [Act.put, List.setIfInBounds_toArray, List.set_cons_zero, List.set_cons_succ]
            refine take_do (i := 23) (v := (.int .i64 j)) rfl (by kernel_rfl) (by kernel_rfl) (by kernel_rfl) (fun _ _ _ h => h) (by rfl) ?_ (by assumption) ?_
            · intro w hSw
              skip
              go_simp
            simp only [Act.put, List.setIfInBounds_toArray, List.set_cons_zero, List.set_cons_succ]
            refine take_do (i := 24) (v := (.pointer (some ⟨d, j, none⟩))) rfl (by kernel_rfl) (by kernel_rfl) (by kernel_rfl) (fun _ _ _ h => h) (by rfl) ?_ (by assumption) ?_
            · intro w hSw
              skip
              go_simp
            simp only [Act.put, List.setIfInBounds_toArray, List.set_cons_zero, List.set_cons_succ]
            refine take_do (i := 25) (v := (.int .i64 (s j))) rfl (by kernel_rfl) (by kernel_rfl) (by kernel_rfl) (fun _ _ _ h => h) (by rfl) ?_ (by assumption) ?_
            · intro w hSw
              obtain ⟨⟨⟨x0, x1, x2, x3⟩, y0, y1, y2, y3⟩, u0, v0⟩ := HX.out w hSw
              go_simp
            simp only [Act.put, List.setIfInBounds_toArray, List.set_cons_zero, List.set_cons_succ]
            refine take_call (i := 26) rfl (by kernel_rfl) (fun K2 hK => ?_)
            go_simp
            refine (sboth_any (bs i) (bs j) (s i) (s j) _ (by omega) (by omega) (by omega) (by omega)).mono ?_
            rintro e wc ⟨rfl, hb⟩
            go_wp2_with fail
            refine hK.out _ _ (hHeld.trans (hb.mono hHeld.size)) (fun hHeld2 => ?_)
            clear hK hHeld hb
            have hHeld := hHeld2
            clear hHeld2
            refine take_do (i := 27) (v := (.bool (dB (s i < s j + (bs j).dy ∧ s j < s i + (bs i).dy)))) rfl (by kernel_rfl) (by kernel_rfl) (by kernel_rfl) (fun _ _ _ h => h) (by rfl) ?_ (by assumption) ?_
            · intro w hSw
              skip
              go_simp
            simp only [Act.put, List.setIfInBounds_toArray, List.set_cons_zero, List.set_cons_succ]
            refine wpAnyH_done (by kernel_rfl) ?_ _
            replace hO := Lib.hid (hO.out.below hHeld)
            replace hB : Hid (Below B WB wc) := hB.out.trans (hHeld.mono (by have := hB.out.size; have := HBD.out; omega))
            clear hHeld HX p1 p2 p3 q1 q2 q3 HSHB HLI HLJ
            have hBs : B ≤ wc.heap.size := by have := hB.out.size; have := HBD.out; omega
            have hle := HLE.out
            by_cases cc : s i < s j + (bs j).dy ∧ s j < s i + (bs i).dy
            · rw [dB_tt cc]
              have HI : Hid (Jb.out C m i ++ Jb.inn C i (j + 1) = LL ++ [(i, j)]) := by
                show _ = _
                rw [Jb.inn_yes (by omega) (by rw [HCE.out]; exact ⟨cc, HSH.out⟩), HLL.out, List.append_assoc]
              clear cc
              obtain ⟨gs, hgs⟩ := hO.out
              go_wp2_with (at_builtin; refine wpList_append_lies _ rfl _ _ 34 rfl B 29 i1 (.slice none 0 0) 1 24 Try.underlying34 hi1 hy0 hy1 hy2 rfl (by decide) _ _ _ rfl ((hgs.1.alloc _).alloc _) ⟨wc.heap.size + 1, 0, none⟩ 1 1 [.slice (some ⟨wc.heap.size, 0, none⟩) 2 2] rfl rfl ?a1 ?a2 ?a3 ?a4 ?a5 ?a6 (wc.heap.size + 2) ?a7 ?_)
              try (case a1 => (intro j u hj; match j, hj with
                | 0, hj => (simp at hj; subst hj; simp [Addr.add])))
              try (case a2 => first | rfl | (intro u hu; simp at hu; subst hu; rfl))
              try (case a3 => omega)
              try (case a4 => (unfold maxLen; omega))
              try (case a5 => omega)
              try (case a6 => first | omega | (simp; omega))
              try (case a7 => simp)
              intro g cap W3 hown hgrow hat hlt3
              have HO3 : Hid (PrL B (.slice (some ⟨g, 0, none⟩) (LL.length + 1) cap) (LL ++ [(i, j)]) W3) := PrL.push (by omega) rfl hgs hgrow (by simpa using hown)
              have HB3 : Hid (Below B WB W3) := ((hB.out.alloc hBs _).alloc (by simp; omega) _).grown hgrow (by simp; omega) (fun q hq => (hgs.1.lt q hq).1)
              clear hown hgrow hat hlt3 hO hB hgs
              go_wp2_with fail
              go_roundw
              case rel => exact ⟨j + 1, by omega, by omega, by go_num, by rw [HI.out]; exact HO3, HB3⟩
              case measure => simp [intOf]; omega
            · rw [dB_ff cc]
              have HI : Hid (Jb.inn C i (j + 1) = Jb.inn C i j) := Jb.inn_no (by rw [HCE.out]; exact fun k => cc k.1)
              clear cc
              go_wp2_with fail
              go_roundw
              case rel => exact ⟨j + 1, by omega, by omega, by go_num, by rw [HI.out, ← HLL.out]; exact hO, hB⟩
              case measure => simp [intOf]; omega
          · have HSHB := Lib.hid (dB_ff sh)
            have HI : Hid (Jb.inn C i (j + 1) = Jb.inn C i j) := Jb.inn_no (by rw [HCE.out]; exact fun k => sh k.2)
            clear sh
            go_wp2_with fail
            refine wp_region_held_drew (S := fun V => Below wr.heap.size wr V) (by kernel_rfl) (Below.refl _ _).drew (fun hHeld => ?_)
            clear x0 x1 x2 x3 y0 y1 y2 y3 u0 v0
            refine take_do (i := 0) (v := (.slice (some ⟨b, 0, none⟩) m k)) rfl (by kernel_rfl) (by kernel_rfl) (by kernel_rfl) (fun _ _ _ h => h) (by rfl) ?_ (by assumption) ?_
            · intro w hSw
              skip
              go_simp
            simp only [Act.put, List.setIfInBounds_toArray, List.set_cons_zero, List.set_cons_succ]
            refine take_do (i := 1) (v := (.int .i64 i)) rfl (by kernel_rfl) (by kernel_rfl) (by kernel_rfl) (fun _ _ _ h => h) (by rfl) ?_ (by assumption) ?_
            · intro w hSw
              skip
              go_simp
            simp only [Act.put, List.setIfInBounds_toArray, List.set_cons_zero, List.set_cons_succ]
            refine take_do (i := 2) (v := (.pointer (some ⟨b, i * 4, none⟩))) rfl (by kernel_rfl) (by kernel_rfl) (by kernel_rfl) (fun _ _ _ h => h) (by rfl) ?_ (by assumption) ?_
            · intro w hSw
              skip
              go_simp
            simp only [Act.put, List.setIfInBounds_toArray, List.set_cons_zero, List.set_cons_succ]
            refine take_do (i := 3) (v := (jbV (bs i))) rfl (by kernel_rfl) (by kernel_rfl) (by kernel_rfl) (fun _ _ _ h => h) (by rfl) ?_ (by assumption) ?_
            · intro w hSw
              obtain ⟨⟨⟨x0, x1, x2, x3⟩, y0, y1, y2, y3⟩, u0, v0⟩ := HX.out w hSw
              go_simp
            simp only [Act.put, List.setIfInBounds_toArray, List.set_cons_zero, List.set_cons_succ]
            refine take_do (i := 4) (v := (.slice (some ⟨b, 0, none⟩) m k)) rfl (by kernel_rfl) (by kernel_rfl) (by kernel_rfl) (fun _ _ _ h => h) (by rfl) ?_ (by assumption) ?_
            · intro w hSw
              skip
              go_simp
            simp only [Act.put, List.setIfInBounds_toArray, List.set_cons_zero, List.set_cons_succ]
            refine take_do (i := 5) (v := (.int .i64 j)) rfl (by kernel_rfl) (by kernel_rfl) (by kernel_rfl) (fun _ _ _ h => h) (by rfl) ?_ (by assumption) ?_
            · intro w hSw
              skip
              go_simp
            simp only [Act.put, List.setIfInBounds_toArray, List.set_cons_zero, List.set_cons_succ]
            refine take_do (i := 6) (v := (.pointer (some ⟨b, j * 4, none⟩))) rfl (by kernel_rfl) (by kernel_rfl) (by kernel_rfl) (fun _ _ _ h => h) (by rfl) ?_ (by assumption) ?_
            · intro w hSw
              skip
              go_simp
            simp only [Act.put, List.setIfInBounds_toArray, List.set_cons_zero, List.set_cons_succ]
            refine take_do (i := 7) (v := (jbV (bs j))) rfl (by kernel_rfl) (by kernel_rfl) (by kernel_rfl) (fun _ _ _ h => h) (by rfl) ?_ (by assumption) ?_
            · intro w hSw
              obtain ⟨⟨⟨x0, x1, x2, x3⟩, y0, y1, y2, y3⟩, u0, v0⟩ := HX.out w hSw
              go_simp
            simp only [Act.put, List.setIfInBounds_toArray, List.set_cons_zero, List.set_cons_succ]
            refine take_call (i := 8) rfl (by kernel_rfl) (fun K2 hK => ?_)
            go_simp
            refine (sshare_any (bs i) (bs j) _ (HLI.out.2.below hHeld) (HS.out i hlt).2 (HLJ.out.2.below hHeld) (HS.out j hjt).2).mono ?_
            rintro e wb ⟨rfl, hb⟩
            rw [HSHB.out]
            go_wp2_with fail
            refine hK.out _ _ (hHeld.trans (hb.mono hHeld.size)) (fun hHeld2 => ?_)
            clear hK hHeld hb
            have hHeld := hHeld2
            clear hHeld2
            refine take_do (i := 9) (v := (.bool false)) rfl (by kernel_rfl) (by kernel_rfl) (by kernel_rfl) (fun _ _ _ h => h) (by rfl) ?_ (by assumption) ?_
            · intro w hSw
              skip
              go_simp
            simp only [Act.put, List.setIfInBounds_toArray, List.set_cons_zero, List.set_cons_succ]
            refine take_skip (i := 10) rfl (by kernel_rfl) (by kernel_rfl) (by kernel_rfl) (fun _ _ _ h => h) (by rfl) (by assumption) ?_
            simp only [Act.put, List.setIfInBounds_toArray, List.set_cons_zero, List.set_cons_succ]
            refine take_skip (i := 11) rfl (by kernel_rfl) (by kernel_rfl) (by kernel_rfl) (fun _ _ _ h => h) (by rfl) (by assumption) ?_
            simp only [Act.put, List.setIfInBounds_toArray, List.set_cons_zero, List.set_cons_succ]
            refine take_skip (i := 12) rfl (by kernel_rfl) (by kernel_rfl) (by kernel_rfl) (fun _ _ _ h => h) (by rfl) (by assumption) ?_
            simp only [Act.put, List.setIfInBounds_toArray, List.set_cons_zero, List.set_cons_succ]
            refine take_skip (i := 13) rfl (by kernel_rfl) (by kernel_rfl) (by kernel_rfl) (fun _ _ _ h => h) (by rfl) (by assumption) ?_
            simp only [Act.put, List.setIfInBounds_toArray, List.set_cons_zero, List.set_cons_succ]
            refine take_skip (i := 14) rfl (by kernel_rfl) (by kernel_rfl) (by kernel_rfl) (fun _ _ _ h => h) (by rfl) (by assumption) ?_
            simp only [Act.put, List.setIfInBounds_toArray, List.set_cons_zero, List.set_cons_succ]
            refine take_skip (i := 15) rfl (by kernel_rfl) (by kernel_rfl) (by kernel_rfl) (fun _ _ _ h => h) (by rfl) (by assumption) ?_
            simp only [Act.put, List.setIfInBounds_toArray, List.set_cons_zero, List.set_cons_succ]
            refine take_skip (i := 16) rfl (by kernel_rfl) (by kernel_rfl) (by kernel_rfl) (fun _ _ _ h => h) (by rfl) (by assumption) ?_
            simp only [Act.put, List.setIfInBounds_toArray, List.set_cons_zero, List.set_cons_succ]
            refine take_skip (i := 17) rfl (by kernel_rfl) (by kernel_rfl) (by kernel_rfl) (fun _ _ _ h => h) (by rfl) (by assumption) ?_
            simp only [Act.put, List.setIfInBounds_toArray, List.set_cons_zero, List.set_cons_succ]
            refine take_skip (i := 18) rfl (by kernel_rfl) (by kernel_rfl) (by kernel_rfl) (fun _ _ _ h => h) (by rfl) (by assumption) ?_
            simp only [Act.put, List.setIfInBounds_toArray, List.set_cons_zero, List.set_cons_succ]
            refine take_skip (i := 19) rfl (by kernel_rfl) (by kernel_rfl) (by kernel_rfl) (fun _ _ _ h => h) (by rfl) (by assumption) ?_
            simp only [Act.put, List.setIfInBounds_toArray, List.set_cons_zero, List.set_cons_succ]
            refine take_skip (i := 20) rfl (by kernel_rfl) (by kernel_rfl) (by kernel_rfl) (fun _ _ _ h => h) (by rfl) (by assumption) ?_
            simp only [Act.put, List.setIfInBounds_toArray, List.set_cons_zero, List.set_cons_succ]
            refine take_skip (i := 21) rfl (by kernel_rfl) (by kernel_rfl) (by kernel_rfl) (fun _ _ _ h => h) (by rfl) (by assumption) ?_
            simp only [Act.put, List.setIfInBounds_toArray, List.set_cons_zero, List.set_cons_succ]
            refine take_skip (i := 22) rfl (by kernel_rfl) (by kernel_rfl) (by kernel_rfl) (fun _ _ _ h => h) (by rfl) (by assumption) ?_
            simp only [Act.put, List.setIfInBounds_toArray, List.set_cons_zero, List.set_cons_succ]
            refine take_skip (i := 23) rfl (by kernel_rfl) (by kernel_rfl) (by kernel_rfl) (fun _ _ _ h => h) (by rfl) (by assumption) ?_
            simp only [Act.put, List.setIfInBounds_toArray, List.set_cons_zero, List.set_cons_succ]
            refine take_skip (i := 24) rfl (by kernel_rfl) (by kernel_rfl) (by kernel_rfl) (fun _ _ _ h => h) (by rfl) (by assumption) ?_
            simp only [Act.put, List.setIfInBounds_toArray, List.set_cons_zero, List.set_cons_succ]
            refine take_skip (i := 25) rfl (by kernel_rfl) (by kernel_rfl) (by kernel_rfl) (fun _ _ _ h => h) (by rfl) (by assumption) ?_
            simp only [Act.put, List.setIfInBounds_toArray, List.set_cons_zero, List.set_cons_succ]
            refine take_skip (i := 26) rfl (by kernel_rfl) (by kernel_rfl) (by kernel_rfl) (fun _ _ _ h => h) (by rfl) (by assumption) ?_
            simp only [Act.put, List.setIfInBounds_toArray, List.set_cons_zero, List.set_cons_succ]
            refine take_do (i := 27) (v := (.bool false)) rfl (by kernel_rfl) (by kernel_rfl) (by kernel_rfl) (fun _ _ _ h => h) (by rfl) ?_ (by assumption) ?_
            · intro w hSw
              skip
              go_simp
            simp only [Act.put, List.setIfInBounds_toArray, List.set_cons_zero, List.set_cons_succ]
            refine wpAnyH_done (by kernel_rfl) ?_ _
            replace hO := Lib.hid (hO.out.below hHeld)
            replace hB : Hid (Below B WB wb) := hB.out.trans (hHeld.mono (by have := hB.out.size; have := HBD.out; omega))
            clear hHeld HX p1 p2 p3 q1 q2 q3 HSHB HLI HLJ
            go_wp2_with fail
            go_roundw
            case rel => exact ⟨j + 1, by omega, by omega, by go_num, by rw [HI.out, ← HLL.out]; exact hO, hB⟩
            case measure => simp [intOf]; omega
        · obtain rfl : j = m := by omega
          go_wp2_with fail
          go_roundw
          case rel => exact ⟨i + 1, by omega, by go_num, by show Hid (PrL B _ (Jb.out C j i ++ Jb.inn C i j) _); rw [← HLL.out]; exact hO, hB⟩
          case measure => simp [intOf]; omega
    · obtain rfl : i = m := by omega
      obtain ⟨av, kv, rfl⟩ := hO.out.shape
      go_wp2_with fail
      go_ret
      obtain ⟨e1, e2⟩ := HHW.out
      subst e2
      refine ⟨⟨av, kv, rfl, by rw [e1]; exact hO.out.own⟩, by rw [e1]; exact hB.out⟩
set_option maxRecDepth 100000 in
set_option maxHeartbeats 4000000 in
theorem specClash_no (a : Option Addr) (m k : Nat) (bs : Nat → Je) (c : Option Addr) (n ck : Nat) (s : Nat → Int) (w : World) (h : JbsAt a m bs w) (hs : JSm m bs) (hc : IsAt c n s w) (hn : n ≤ 1048576) (hr : ¬ Jb.RosOk m bs n s) :
    Calls Try.prog 15 #[.slice a m k, .slice c n ck] w fun e w' => PcEnd w.heap.size [] e w' ∧ Below w.heap.size w w' := by
  have H := Lib.hid h
  have HS := Lib.hid hs
  have HCC := Lib.hid hc
  obtain ⟨W, hW⟩ : ∃ W, W = w.alloc (.cells #[] 29) := ⟨_, rfl⟩
  have HBW : Hid (Below w.heap.size w W) := by show Below _ _ _; rw [hW]; exact nbel_alloc _ _
  have O0 : Hid (PrL w.heap.size (.slice (some ⟨w.heap.size, 0, none⟩) 0 0) [] W) := by
    rw [hW]
    exact ⟨fun _ => 0, World.ownsRow_made (e := 29) (size := 1) (base := w.heap.size) w #[] 0 (Nat.le_refl _) (Nat.zero_le _) rfl, fun _ hj => absurd hj (Nat.not_lt_zero _), fun _ _ _ hj => absurd hj (Nat.not_lt_zero _)⟩
  have HW := Lib.hid hW
  clear h hs hc hW
  by_cases c1 : 400 < m
  · have hz : (400 : Int) < (m : Int) := by omega
    clear c1 hr
    go_enter Try.func15, Try.ntmps15
    go_wp2_with fail
    rw [← HW.out]
    go_ret
    exact ⟨⟨_, _, rfl, O0.out.own⟩, HBW.out⟩
  have hz : ¬ (400 : Int) < (m : Int) := by omega
  by_cases c2 : 400 < n
  · have hz2 : (400 : Int) < (n : Int) := by omega
    clear c1 c2 hr
    go_enter Try.func15, Try.ntmps15
    go_wp2_with fail
    rw [← HW.out]
    go_ret
    exact ⟨⟨_, _, rfl, O0.out.own⟩, HBW.out⟩
  have hz2 : ¬ (400 : Int) < (n : Int) := by omega
  go_enter Try.func15, Try.ntmps15
  go_wp2_with fail
  rw [← HW.out]
  clear HW c1 c2
  refine (specJobs_any a m k bs _ (H.out.below HBW.out) HS.out).mono ?_
  rintro e w1 ⟨rfl, hb⟩
  replace HBW : Hid (Below w.heap.size w w1) := HBW.out.trans (hb.mono HBW.out.size)
  replace O0 := Lib.hid (O0.out.below hb)
  clear hb
  by_cases c3 : JRight m bs
  · rw [dB_tt c3]
    by_cases c4 : n = m
    · subst c4
      have hzz : ((n : Int) == (n : Int)) = true := by simp
      have HR : Hid (¬ Jb.StOk n s) := fun k => hr ⟨c3, rfl, k⟩
      clear c3 hr
      go_wp2_with fail
      refine (sallS_any c n ck s _ (HCC.out.below HBW.out) (by omega)).mono ?_
      rintro e w2 ⟨rfl, hb⟩
      rw [dB_ff HR.out]
      replace HBW : Hid (Below w.heap.size w w2) := HBW.out.trans (hb.mono HBW.out.size)
      replace O0 := Lib.hid (O0.out.below hb)
      clear hb
      go_wp2_with fail
      go_ret
      exact ⟨⟨_, _, rfl, O0.out.own⟩, HBW.out⟩
    · have c4z : ¬ ((n : Int) = (m : Int)) := by omega
      clear c3 hr c4
      go_wp2_with fail
      go_ret
      exact ⟨⟨_, _, rfl, O0.out.own⟩, HBW.out⟩
  · rw [dB_ff c3]
    clear c3 hr
    go_wp2_with fail
    go_ret
    exact ⟨⟨_, _, rfl, O0.out.own⟩, HBW.out⟩
theorem specClash_any (a : Option Addr) (m k : Nat) (bs : Nat → Je) (c : Option Addr) (n ck : Nat) (s : Nat → Int) (w : World) (h : JbsAt a m bs w) (hs : JSm m bs) (hc : IsAt c n s w) (hn : n ≤ 1048576) :
    Calls Try.prog 15 #[.slice a m k, .slice c n ck] w fun e w' => PcEnd w.heap.size (Jb.prs m bs n s) e w' ∧ Below w.heap.size w w' := by
  by_cases hr : Jb.RosOk m bs n s
  · have e : n = m := hr.2.1
    subst e
    have e2 : Jb.prs n bs n s = Jb.out (Jb.cl bs s) n n := by unfold Jb.prs; rw [if_pos (dB_tt hr)]
    rw [e2]
    exact specClash_yes a n k bs c ck s w h hs hc hr
  · have e2 : Jb.prs m bs n s = [] := by unfold Jb.prs; rw [dB_ff hr]; rfl
    rw [e2]
    exact specClash_no a m k bs c n ck s w h hs hc hn hr
end Go.Proofs.Ytganlipebndeoaa
