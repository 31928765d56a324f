/-
  The program's reading: its days, what is usual, its kind, its tests.
-/
import Derived.Test.YtmejmpdljckfgaaDoorMtI1
import Derived.Test.YtmejmpdljckfgaaDoorReg
import Derived.Test.YtmejmpdljckfgaaDoorWkErr
namespace Go.Proofs.YtmejmpdljckfgaaDoor
open Go.RowKit Go.Deep

/-- The value of a reading. -/
abbrev rgV (m : Mt.M) (rd rs : Int) : Value := .agg #[.int .i64 m.d, .int .i64 m.u, .int .i64 m.day, .int .i64 m.s, .int .i64 rd, .int .i64 rs]
abbrev rgL (m : Mt.M) (rd rs : Int) : List Value := [.int .i64 m.d, .int .i64 m.u, .int .i64 m.day, .int .i64 m.s, .int .i64 rd, .int .i64 rs]
/-- What stands in a call that was handed a reading. -/
structure RgS (w : World) (m : Mt.M) (rd rs : Int) (W : World) : Prop where
  r : W.rowIs w.heap.size 121 6 (rowN (rgL m rd rs))
  old : Below w.heap.size w W
theorem RgS.below {w : World} {m : Mt.M} {rd rs : Int} {W W' : World} (h : RgS w m rd rs W) (hb : Below W.heap.size W W') : RgS w m rd rs W' := ⟨nrow_below h.r hb, h.old.trans (hb.mono h.old.size)⟩
theorem RgS.new (w : World) (m : Mt.M) (rd rs : Int) : RgS w m rd rs (w.alloc (.cells #[.int .i64 m.d, .int .i64 m.u, .int .i64 m.day, .int .i64 m.s, .int .i64 rd, .int .i64 rs] 121)) := ⟨rowN_alloc w (rgL m rd rs) _, nbel_alloc _ _⟩
set_option maxRecDepth 100000 in
set_option maxHeartbeats 2000000 in
theorem days_any (m : Mt.M) (rd rs : Int) (h : Mt.ReadOk m rd rs) (w : World) :
    Calls Tryd.prog 112 #[rgV m rd rs] w fun e w' => e = .returned (.int .i64 (rd - m.day)) ∧ Below w.heap.size w w' := by
  have h1 : 0 ≤ m.day ∧ m.day < rd ∧ rd ≤ 100000 := ⟨h.1.2.1.1, h.2.1.1, h.2.1.2⟩
  obtain ⟨W, hW⟩ : ∃ W, W = w.alloc (.cells #[.int .i64 m.d, .int .i64 m.u, .int .i64 m.day, .int .i64 m.s, .int .i64 rd, .int .i64 rs] 121) := ⟨_, rfl⟩
  have HR : Hid (RgS w m rd rs W) := by show RgS _ _ _ _ _; rw [hW]; exact RgS.new w m rd rs
  have HW := Lib.hid hW
  clear hW
  go_enter Tryd.func112, Tryd.ntmps112
  go_wp2_with fail
  rw [← HW.out]
  go_ret
  exact ⟨rfl, HR.out.old⟩
set_option maxRecDepth 100000 in
set_option maxHeartbeats 2000000 in
theorem usualW_any (m : Mt.M) (rd rs : Int) (h : Mt.ReadOk m rd rs) (w : World) :
    Calls Tryd.prog 109 #[rgV m rd rs] w fun e w' => e = .returned (.int .i64 (Mt.usual m rd)) ∧ Below w.heap.size w w' := by
  have hu := Mt.usual_bd h
  have HO := Lib.hid h
  obtain ⟨P, hP⟩ : ∃ P, Mt.usual m rd = P := ⟨_, rfl⟩
  rw [hP] at hu ⊢
  have hP2 : m.u * (rd - m.day) = P := hP
  have hw1 : IntKind.i64.wrap P = P := mwrap_id (by omega) (by omega)
  obtain ⟨W, hW⟩ : ∃ W, W = w.alloc (.cells #[.int .i64 m.d, .int .i64 m.u, .int .i64 m.day, .int .i64 m.s, .int .i64 rd, .int .i64 rs] 121) := ⟨_, rfl⟩
  have HR : Hid (RgS w m rd rs W) := by show RgS _ _ _ _ _; rw [hW]; exact RgS.new w m rd rs
  have HW := Lib.hid hW
  clear hW
  clear hP h
  go_enter Tryd.func109, Tryd.ntmps109
  go_wp2_with fail
  rw [← HW.out]
  refine wp_region_held_drew (S := RgS w m rd rs) (by kernel_rfl) (HR.out.below (Below.refl _ _).drew) (fun hHeld => ?_)
  clear HR
  refine take_do (i := 0) (v := (.pointer (some ⟨w.heap.size, 0, none⟩))) rfl (by kernel_rfl) (by kernel_rfl) (by kernel_rfl) (fun _ _ _ h => h) (by rfl) ?_ (by assumption) ?_
  · intro w hSw
    obtain ⟨⟨a0, a1, a2, a3, a4, a5⟩, _⟩ := rowN6 hSw.r
    go_simp
  simp only [Act.put, List.setIfInBounds_toArray, List.set_cons_zero, List.set_cons_succ]
  refine take_do (i := 1) (v := (.pointer (some ⟨w.heap.size, 1, none⟩))) rfl (by kernel_rfl) (by kernel_rfl) (by kernel_rfl) (fun _ _ _ h => h) (by rfl) ?_ (by assumption) ?_
  · intro w hSw
    obtain ⟨⟨a0, a1, a2, a3, a4, a5⟩, _⟩ := rowN6 hSw.r
    go_simp
  simp only [Act.put, List.setIfInBounds_toArray, List.set_cons_zero, List.set_cons_succ]
  refine take_do (i := 2) (v := (.int .i64 m.u)) rfl (by kernel_rfl) (by kernel_rfl) (by kernel_rfl) (fun _ _ _ h => h) (by rfl) ?_ (by assumption) ?_
  · intro w hSw
    obtain ⟨⟨a0, a1, a2, a3, a4, a5⟩, _⟩ := rowN6 hSw.r
    go_simp
  simp only [Act.put, List.setIfInBounds_toArray, List.set_cons_zero, List.set_cons_succ]
  refine take_do (i := 3) (v := (rgV m rd rs)) rfl (by kernel_rfl) (by kernel_rfl) (by kernel_rfl) (fun _ _ _ h => h) (by rfl) ?_ (by assumption) ?_
  · intro w hSw
    obtain ⟨⟨a0, a1, a2, a3, a4, a5⟩, _⟩ := rowN6 hSw.r
    go_simp
  simp only [Act.put, List.setIfInBounds_toArray, List.set_cons_zero, List.set_cons_succ]
  refine take_call (i := 4) rfl (by kernel_rfl) (fun K2 hK => ?_)
  go_simp
  refine (days_any m rd rs HO.out _).mono ?_
  rintro e w1 ⟨rfl, hb⟩
  go_wp2_with fail
  refine hK.out _ _ (hHeld.below hb) (fun hHeld2 => ?_)
  clear hK hHeld hb
  have hHeld := hHeld2
  clear hHeld2
  refine take_do (i := 5) (v := (.int .i64 P)) rfl (by kernel_rfl) (by kernel_rfl) (by kernel_rfl) (fun _ _ _ h => h) (by rfl) ?_ (by assumption) ?_
  · intro w hSw
    obtain ⟨⟨a0, a1, a2, a3, a4, a5⟩, _⟩ := rowN6 hSw.r
    go_simp
  simp only [Act.put, List.setIfInBounds_toArray, List.set_cons_zero, List.set_cons_succ]
  refine take_do (i := 6) (v := (.int .i64 P)) rfl (by kernel_rfl) (by kernel_rfl) (by kernel_rfl) (fun _ _ _ h => h) (by rfl) ?_ (by assumption) ?_
  · intro w hSw
    obtain ⟨⟨a0, a1, a2, a3, a4, a5⟩, _⟩ := rowN6 hSw.r
    go_simp
  simp only [Act.put, List.setIfInBounds_toArray, List.set_cons_zero, List.set_cons_succ]
  refine wpAnyH_done (by kernel_rfl) ?_ _
  have HB := Lib.hid hHeld.old
  clear hHeld
  go_wp2_with fail
  go_ret
  exact ⟨rfl, HB.out⟩
set_option maxRecDepth 100000 in
set_option maxHeartbeats 2000000 in
theorem kindOf_any (m : Mt.M) (rd rs : Int) (h : Mt.ReadOk m rd rs) (hs : rs ≠ -1) (w : World) :
    Calls Tryd.prog 111 #[rgV m rd rs, .int .i64 (Mt.turn m.d m.s rs)] w fun e w' => e = .returned (.int .i64 (Mt.kind m rd rs)) ∧ Below w.heap.size w w' := by
  have hu := Mt.usual_bd h
  have hw := Mt.water_bd h
  rw [Mt.water_read hs] at hw
  have HO := Lib.hid h
  obtain ⟨T, hT⟩ : ∃ T, T = Mt.turn m.d m.s rs := ⟨_, rfl⟩
  obtain ⟨P, hP⟩ : ∃ P, P = Mt.usual m rd := ⟨_, rfl⟩
  rw [← hT] at hw ⊢
  rw [← hP] at hu
  have HP := Lib.hid hP
  obtain ⟨W, hW⟩ : ∃ W, W = w.alloc (.cells #[.int .i64 m.d, .int .i64 m.u, .int .i64 m.day, .int .i64 m.s, .int .i64 rd, .int .i64 rs] 121) := ⟨_, rfl⟩
  have HR : Hid (RgS w m rd rs W) := by show RgS _ _ _ _ _; rw [hW]; exact RgS.new w m rd rs
  have HW := Lib.hid hW
  clear hW
  clear h
  by_cases c1 : 5 * P + 100 < T
  · have HE : Hid (Mt.kind m rd rs = 2) := Mt.kind_high hs (by rw [← hT, ← hP]; exact c1)
    clear hP hT hs
    go_enter Tryd.func111, Tryd.ntmps111
    go_wp2_with fail
    rw [← HW.out]
    refine (usualW_any m rd rs HO.out _).mono ?_
    rintro e w1 ⟨rfl, hb⟩
    rw [← HP.out]
    have HB := Lib.hid (HR.out.below hb).old
    clear hb HR HW
    go_wp2_with fail
    go_ret
    exact ⟨by rw [HE.out]; rfl, HB.out⟩
  by_cases c2 : 10 * T < P
  · have HE : Hid (Mt.kind m rd rs = 3) := Mt.kind_low hs (by rw [← hT, ← hP]; exact c1) (by rw [← hT, ← hP]; exact c2)
    clear hP hT hs
    go_enter Tryd.func111, Tryd.ntmps111
    go_wp2_with fail
    rw [← HW.out]
    refine (usualW_any m rd rs HO.out _).mono ?_
    rintro e w1 ⟨rfl, hb⟩
    rw [← HP.out]
    have HB := Lib.hid (HR.out.below hb).old
    clear hb HR HW
    go_wp2_with fail
    go_ret
    exact ⟨by rw [HE.out]; rfl, HB.out⟩
  · have HE : Hid (Mt.kind m rd rs = 1) := Mt.kind_good hs (by rw [← hT, ← hP]; exact c1) (by rw [← hT, ← hP]; exact c2)
    clear hP hT hs
    go_enter Tryd.func111, Tryd.ntmps111
    go_wp2_with fail
    rw [← HW.out]
    refine (usualW_any m rd rs HO.out _).mono ?_
    rintro e w1 ⟨rfl, hb⟩
    rw [← HP.out]
    have HB := Lib.hid (HR.out.below hb).old
    clear hb HR HW
    go_wp2_with fail
    go_ret
    exact ⟨by rw [HE.out]; rfl, HB.out⟩
def Mt.Later (m : Mt.M) (rd : Int) : Prop := m.day < rd ∧ rd ≤ 100000
/-- How a test ends. -/
def VdEnd (P : Prop) (e : Ending) : Prop := (P ∧ e = .returned .nilIface) ∨ (¬ P ∧ ∃ y, e = .returned (.iface 83 y) ∧ AsF y 1)
set_option maxRecDepth 100000 in
set_option maxHeartbeats 2000000 in
theorem ofRight_any (m : Mt.M) (rd rs : Int) (w : World) :
    Calls Tryd.prog 106 #[rgV m rd rs] w fun e w' => VdEnd (Mt.Right m) e ∧ Below w.heap.size w w' := by
  obtain ⟨W, hW⟩ : ∃ W, W = w.alloc (.cells #[.int .i64 m.d, .int .i64 m.u, .int .i64 m.day, .int .i64 m.s, .int .i64 rd, .int .i64 rs] 121) := ⟨_, rfl⟩
  have HR : Hid (RgS w m rd rs W) := by show RgS _ _ _ _ _; rw [hW]; exact RgS.new w m rd rs
  have HW := Lib.hid hW
  clear hW
  go_enter Tryd.func106, Tryd.ntmps106
  go_wp2_with fail
  rw [← HW.out]
  clear HW
  refine (implRight_any m _).mono ?_
  rintro e w1 ⟨rfl, hb⟩
  have HB := Lib.hid (HR.out.below hb).old
  clear hb HR
  by_cases c : Mt.Right m
  · rw [Mt.dB_tt c]
    have HE : Hid (VdEnd (Mt.Right m) (.returned .nilIface)) := Or.inl ⟨c, rfl⟩
    clear c
    go_wp2_with fail
    go_ret
    exact ⟨HE.out, HB.out⟩
  · rw [Mt.dB_ff c]
    have HE : Hid (VdEnd (Mt.Right m) (.returned (.iface 83 (.agg #[.string ⟨#[97, 32, 109, 101, 116, 101, 114]⟩, .iface 79 (.agg #[.int .i64 1])])))) := Or.inr ⟨c, _, rfl, AsF.one _ _⟩
    clear c
    go_wp2_with fail
    go_ret
    exact ⟨HE.out, HB.out⟩
set_option maxRecDepth 100000 in
set_option maxHeartbeats 2000000 in
theorem onLater_any (m : Mt.M) (rd rs : Int) (w : World) :
    Calls Tryd.prog 107 #[rgV m rd rs] w fun e w' => VdEnd (Mt.Later m rd) e ∧ Below w.heap.size w w' := by
  obtain ⟨W, hW⟩ : ∃ W, W = w.alloc (.cells #[.int .i64 m.d, .int .i64 m.u, .int .i64 m.day, .int .i64 m.s, .int .i64 rd, .int .i64 rs] 121) := ⟨_, rfl⟩
  have HR : Hid (RgS w m rd rs W) := by show RgS _ _ _ _ _; rw [hW]; exact RgS.new w m rd rs
  have HW := Lib.hid hW
  clear hW
  by_cases c1 : rd ≤ m.day
  · have HE : Hid (VdEnd (Mt.Later m rd) (.returned (.iface 83 (.agg #[.string ⟨#[116, 104, 101, 32, 100, 97, 121, 32, 111, 102, 32, 97, 32, 114, 101, 97, 100]⟩, .iface 79 (.agg #[.int .i64 1])])))) := Or.inr ⟨fun h => by unfold Mt.Later at h; omega, _, rfl, AsF.one _ _⟩
    go_enter Tryd.func107, Tryd.ntmps107
    go_wp2_with fail
    rw [← HW.out]
    go_ret
    exact ⟨HE.out, HR.out.old⟩
  by_cases c2 : 100000 < rd
  · have HE : Hid (VdEnd (Mt.Later m rd) (.returned (.iface 83 (.agg #[.string ⟨#[116, 104, 101, 32, 100, 97, 121, 32, 111, 102, 32, 97, 32, 114, 101, 97, 100]⟩, .iface 79 (.agg #[.int .i64 1])])))) := Or.inr ⟨fun h => by unfold Mt.Later at h; omega, _, rfl, AsF.one _ _⟩
    go_enter Tryd.func107, Tryd.ntmps107
    go_wp2_with fail
    rw [← HW.out]
    go_ret
    exact ⟨HE.out, HR.out.old⟩
  have HE : Hid (VdEnd (Mt.Later m rd) (.returned .nilIface)) := Or.inl ⟨⟨by omega, by omega⟩, rfl⟩
  go_enter Tryd.func107, Tryd.ntmps107
  go_wp2_with fail
  rw [← HW.out]
  go_ret
  exact ⟨HE.out, HR.out.old⟩
set_option maxRecDepth 100000 in
set_option maxHeartbeats 2000000 in
theorem ofWhat_any (m : Mt.M) (rd rs : Int) (w : World) :
    Calls Tryd.prog 108 #[rgV m rd rs] w fun e w' => VdEnd (rs = -1 ∨ Mt.Shows m.d rs) e ∧ Below w.heap.size w w' := by
  obtain ⟨W, hW⟩ : ∃ W, W = w.alloc (.cells #[.int .i64 m.d, .int .i64 m.u, .int .i64 m.day, .int .i64 m.s, .int .i64 rd, .int .i64 rs] 121) := ⟨_, rfl⟩
  have HR : Hid (RgS w m rd rs W) := by show RgS _ _ _ _ _; rw [hW]; exact RgS.new w m rd rs
  have HW := Lib.hid hW
  clear hW
  by_cases c1 : rs = -1
  · have HE : Hid (VdEnd (rs = -1 ∨ Mt.Shows m.d rs) (.returned .nilIface)) := Or.inl ⟨Or.inl c1, rfl⟩
    have hz : (rs != -1) = false := by simp [c1]
    clear c1
    go_enter Tryd.func108, Tryd.ntmps108
    go_wp2_with fail
    rw [← HW.out]
    go_ret
    exact ⟨HE.out, HR.out.old⟩
  have hz : (rs != -1) = true := by simpa using c1
  have HC := Lib.hid c1
  clear c1
  go_enter Tryd.func108, Tryd.ntmps108
  go_wp2_with fail
  rw [← HW.out]
  clear HW
  refine (canShow_any m.d rs _).mono ?_
  rintro e w1 ⟨rfl, hb⟩
  have HB := Lib.hid (HR.out.below hb).old
  clear hb HR
  by_cases c : Mt.Shows m.d rs
  · rw [Mt.dB_tt c]
    have HE : Hid (VdEnd (rs = -1 ∨ Mt.Shows m.d rs) (.returned .nilIface)) := Or.inl ⟨Or.inr c, rfl⟩
    clear c
    go_wp2_with fail
    go_ret
    exact ⟨HE.out, HB.out⟩
  · rw [Mt.dB_ff c]
    have HE : Hid (VdEnd (rs = -1 ∨ Mt.Shows m.d rs) (.returned (.iface 83 (.agg #[.string ⟨#[119, 104, 97, 116, 32, 97, 32, 114, 101, 97, 100, 32, 115, 104, 111, 119, 115]⟩, .iface 79 (.agg #[.int .i64 1])])))) := Or.inr ⟨fun h => h.elim HC.out c, _, rfl, AsF.one _ _⟩
    clear c
    go_wp2_with fail
    go_ret
    exact ⟨HE.out, HB.out⟩
abbrev mfnV (f : Nat) : Value := .func (.func f) #[] #[]
set_option maxRecDepth 100000 in
set_option maxHeartbeats 4000000 in
theorem validate_any (m : Mt.M) (rd rs : Int) (w : World) :
    Calls Tryd.prog 87 #[rgV m rd rs] w fun e w' => VdEnd (Mt.ReadOk m rd rs) e ∧ Below w.heap.size w w' := by
  obtain ⟨W0, hW0⟩ : ∃ W, W = w.alloc (.cells #[.int .i64 m.d, .int .i64 m.u, .int .i64 m.day, .int .i64 m.s, .int .i64 rd, .int .i64 rs] 121) := ⟨_, rfl⟩
  obtain ⟨W, hW⟩ : ∃ W, W = W0.alloc (.cells #[mfnV 106, mfnV 107, mfnV 108] 157) := ⟨_, rfl⟩
  have hs0 : W0.heap.size = w.heap.size + 1 := by rw [hW0]; simp
  have HR0 : RgS w m rd rs W0 := by rw [hW0]; exact RgS.new w m rd rs
  have HR : Hid (RgS w m rd rs W) := by show RgS _ _ _ _ _; rw [hW]; exact HR0.below (nbel_alloc _ _)
  have HC : Hid (W.rowIs (w.heap.size + 1) 157 3 (rowN [mfnV 106, mfnV 107, mfnV 108])) := by show W.rowIs _ _ _ _; rw [hW]; exact rowN_alloc' hs0 _ _
  have HW : Hid (W = (w.alloc (.cells #[.int .i64 m.d, .int .i64 m.u, .int .i64 m.day, .int .i64 m.s, .int .i64 rd, .int .i64 rs] 121)).alloc (.cells #[mfnV 106, mfnV 107, mfnV 108] 157)) := by show W = _; rw [hW, hW0]
  clear hW hW0 hs0 HR0
  go_enter Tryd.func87, Tryd.ntmps87
  go_wp2_with fail
  rw [← HW.out]
  clear HW
  go_loopw [5, 6, 10] (fun _ _ iv wr => ∃ (i : Nat), i ≤ 3 ∧ iv = .int .i64 i ∧ Hid (Below W.heap.size W wr) ∧ Hid (0 < i → Mt.Right m) ∧ Hid (1 < i → (m.day < rd ∧ rd ≤ 100000)) ∧ Hid (2 < i → (rs = -1 ∨ Mt.Shows m.d rs))) (fun _ _ iv _ => 3 - (intOf iv).toNat)
  case atStart => exact ⟨0, by omega, rfl, Below.refl _ _, fun h => absurd h (by omega), fun h => absurd h (by omega), fun h => absurd h (by omega)⟩
  case round =>
    obtain ⟨i, hi, rfl, hB, h1, h2, h3⟩ := hrel
    have HRr := Lib.hid (HR.out.below hB.out)
    obtain ⟨⟨a0, a1, a2, a3, a4, a5⟩, _⟩ := rowN6 HRr.out.r
    obtain ⟨⟨f0, f1, f2⟩, _⟩ := rowN3 (nrow_below HC.out hB.out)
    have hic : i = 0 ∨ i = 1 ∨ i = 2 ∨ i = 3 := by omega
    rcases hic with rfl | rfl | rfl | rfl
    · clear f1 f2
      go_wp2_with fail
      refine (ofRight_any m rd rs _).mono ?_
      rintro e w1 ⟨he, hb⟩
      have HB1 : Hid (Below W.heap.size W w1) := hB.out.trans (hb.mono hB.out.size)
      have HO1 : Hid (Below w.heap.size w w1) := (HRr.out.below hb).old
      clear hb a0 a1 a2 a3 a4 a5
      rcases he with ⟨hk, rfl⟩ | ⟨hk, y, rfl, hy⟩
      · have HK := Lib.hid hk
        clear hk
        go_wp2_with fail
        go_roundw
        case rel => exact ⟨1, by omega, rfl, HB1, fun _ => HK.out, fun h => absurd h (by omega), fun h => absurd h (by omega)⟩
        case measure => simp [intOf]
      · have HE : Hid (VdEnd (Mt.ReadOk m rd rs) (.returned (.iface 83 y))) := Or.inr ⟨fun h => hk h.1, _, rfl, hy⟩
        clear hk hy
        go_wp2_with fail
        go_ret
        exact ⟨HE.out, HO1.out⟩
    · clear f0 f2
      go_wp2_with fail
      refine (onLater_any m rd rs _).mono ?_
      rintro e w1 ⟨he, hb⟩
      have HB1 : Hid (Below W.heap.size W w1) := hB.out.trans (hb.mono hB.out.size)
      have HO1 : Hid (Below w.heap.size w w1) := (HRr.out.below hb).old
      clear hb a0 a1 a2 a3 a4 a5
      rcases he with ⟨hk, rfl⟩ | ⟨hk, y, rfl, hy⟩
      · have HK := Lib.hid hk
        clear hk
        go_wp2_with fail
        go_roundw
        case rel => exact ⟨2, by omega, rfl, HB1, fun _ => h1.out (by omega), fun _ => HK.out, fun h => absurd h (by omega)⟩
        case measure => simp [intOf]
      · have HE : Hid (VdEnd (Mt.ReadOk m rd rs) (.returned (.iface 83 y))) := Or.inr ⟨fun h => hk h.2.1, _, rfl, hy⟩
        clear hk hy
        go_wp2_with fail
        go_ret
        exact ⟨HE.out, HO1.out⟩
    · clear f0 f1
      go_wp2_with fail
      refine (ofWhat_any m rd rs _).mono ?_
      rintro e w1 ⟨he, hb⟩
      have HB1 : Hid (Below W.heap.size W w1) := hB.out.trans (hb.mono hB.out.size)
      have HO1 : Hid (Below w.heap.size w w1) := (HRr.out.below hb).old
      clear hb a0 a1 a2 a3 a4 a5
      rcases he with ⟨hk, rfl⟩ | ⟨hk, y, rfl, hy⟩
      · have HK := Lib.hid hk
        clear hk
        go_wp2_with fail
        go_roundw
        case rel => exact ⟨3, by omega, rfl, HB1, fun _ => h1.out (by omega), fun _ => h2.out (by omega), fun _ => HK.out⟩
        case measure => simp [intOf]
      · have HE : Hid (VdEnd (Mt.ReadOk m rd rs) (.returned (.iface 83 y))) := Or.inr ⟨fun h => hk h.2.2, _, rfl, hy⟩
        clear hk hy
        go_wp2_with fail
        go_ret
        exact ⟨HE.out, HO1.out⟩
    · have HE : Hid (VdEnd (Mt.ReadOk m rd rs) (.returned .nilIface)) := Or.inl ⟨⟨h1.out (by omega), h2.out (by omega), h3.out (by omega)⟩, rfl⟩
      go_wp2_with fail
      go_ret
      exact ⟨HE.out, HRr.out.old⟩
end Go.Proofs.YtmejmpdljckfgaaDoor
