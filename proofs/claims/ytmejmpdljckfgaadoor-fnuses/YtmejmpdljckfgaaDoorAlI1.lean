/-
  The program's tests of alarms, acts and values.
-/
import Derived.Test.YtmejmpdljckfgaaDoorAlMem
import Derived.Test.YtmejmpdljckfgaaDoorMtI1
import Derived.Test.YtmejmpdljckfgaaDoorReg
namespace Go.Proofs.YtmejmpdljckfgaaDoor
open Go.RowKit Go.Deep

theorem alabout_any (n : Int) (w : World) :
    Calls Tryd.prog 46 #[.int .i64 n, .int .i64 1000000] w fun e w' => e = .returned (.bool (decide (Al.V n))) ∧ w' = w := by
  go_enter Tryd.func46, Tryd.ntmps46
  go_wp2_with fail
  all_goals
    go_ret
    exact ⟨by rw [show decide (Al.V n) = decide (-1000000 ≤ n ∧ n ≤ 1000000) from rfl]; congr 2; simp <;> omega, rfl⟩
set_option maxRecDepth 100000 in
set_option maxHeartbeats 2000000 in
theorem value_any (n : Int) (w : World) :
    Calls Tryd.prog 57 #[.int .i64 n] w fun e w' => e = .returned (.bool (decide (Al.V n))) ∧ Below w.heap.size w w' := by
  go_enter Tryd.func57, Tryd.ntmps57
  go_wp2_with fail
  refine (alabout_any _ _).mono ?_
  rintro e w1 ⟨rfl, rfl⟩
  by_cases c : Al.V n
  · have HE := Lib.hid (decide_eq_true c)
    rw [decide_eq_true c]
    clear c
    go_wp2_with fail
    go_ret
    exact ⟨by rw [HE.out]; rfl, Below.refl _ _⟩
  · have HE := Lib.hid (decide_eq_false c)
    rw [decide_eq_false c]
    clear c
    go_wp2_with fail
    go_ret
    exact ⟨by rw [HE.out]; rfl, Below.refl _ _⟩
set_option maxRecDepth 100000 in
set_option maxHeartbeats 2000000 in
theorem actRight_any (k v : Int) (w : World) :
    Calls Tryd.prog 44 #[.agg #[.int .i64 k, .int .i64 v]] w fun e w' => e = .returned (.bool (decide (Al.ActOk k v))) ∧ Below w.heap.size w w' := by
  obtain ⟨W, hW⟩ : ∃ W, W = w.alloc (.cells #[.int .i64 k, .int .i64 v] 50) := ⟨_, rfl⟩
  have HB : Hid (Below w.heap.size w W) := by show Below _ _ _; rw [hW]; exact nbel_alloc _ _
  have HR : Hid (W.rowIs w.heap.size 50 2 (rowN [.int .i64 k, .int .i64 v])) := by show W.rowIs _ _ _ _; rw [hW]; exact rowN_alloc w _ _
  have HW := Lib.hid hW
  clear hW
  go_enter Tryd.func44, Tryd.ntmps44
  go_wp2_with fail
  rw [← HW.out]
  clear HW
  refine (mholds_any _ _ _ _).mono ?_
  rintro e w1 ⟨rfl, hb⟩
  have HB1 : Hid (Below w.heap.size w w1) := HB.out.trans (hb.mono HB.out.size)
  obtain ⟨⟨r0, r1⟩, _⟩ := rowN2 (nrow_below HR.out hb)
  clear hb
  by_cases c : 1 ≤ k ∧ k ≤ 3
  case neg =>
    have HE := Lib.hid (decide_eq_false (show ¬ Al.ActOk k v from fun h => c h.1))
    rw [decide_eq_false c]
    clear c
    go_wp2_with fail
    go_ret
    exact ⟨by rw [HE.out]; rfl, HB1.out⟩
  rw [decide_eq_true c]
  have HC := Lib.hid c
  clear c
  go_wp2_with fail
  refine (value_any _ _).mono ?_
  rintro e w2 ⟨rfl, hb⟩
  have HB2 : Hid (Below w.heap.size w w2) := HB1.out.trans (hb.mono HB1.out.size)
  clear hb r0 r1
  by_cases c : Al.V v
  · have HE := Lib.hid (decide_eq_true (show Al.ActOk k v from ⟨HC.out, c⟩))
    rw [decide_eq_true c]
    clear c
    go_wp2_with fail
    go_ret
    exact ⟨by rw [HE.out]; rfl, HB2.out⟩
  · have HE := Lib.hid (decide_eq_false (show ¬ Al.ActOk k v from fun h => c h.2))
    rw [decide_eq_false c]
    clear c
    go_wp2_with fail
    go_ret
    exact ⟨by rw [HE.out]; rfl, HB2.out⟩
set_option maxRecDepth 100000 in
set_option maxHeartbeats 2000000 in
theorem alarmRight_any (a : Al.A) (w : World) :
    Calls Tryd.prog 15 #[alV a] w fun e w' => e = .returned (.bool (decide (Al.Right a))) ∧ Below w.heap.size w w' := by
  obtain ⟨W, hW⟩ : ∃ W, W = w.alloc (.cells #[.int .i64 a.hi, .int .i64 a.lo, .int .i64 a.dl, .int .i64 a.st, .int .i64 a.ct, .int .i64 a.sh] 40) := ⟨_, rfl⟩
  have HB : Hid (Below w.heap.size w W) := by show Below _ _ _; rw [hW]; exact nbel_alloc _ _
  have HR : Hid (W.rowIs w.heap.size 40 6 (rowN (alL a))) := by show W.rowIs _ _ _ _; rw [hW]; exact rowN_alloc w _ _
  by_cases c : a.lo ≤ a.hi
  case neg =>
    have HE := Lib.hid (decide_eq_false (show ¬ Al.Right a from fun h => c h.1))
    obtain ⟨⟨r0, r1, r2, r3, r4, r5⟩, _⟩ := rowN6 HR.out
    have HW := Lib.hid hW
    rw [hW] at r0 r1
    clear hW r2 r3 r4 r5
    go_enter Tryd.func15, Tryd.ntmps15
    go_wp2_with fail
    go_ret
    exact ⟨by rw [HE.out]; rfl, nbel_alloc _ _⟩
  have HC := Lib.hid c
  have HW := Lib.hid hW
  clear hW
  go_enter Tryd.func15, Tryd.ntmps15
  go_wp2_with fail
  rw [← HW.out]
  clear HW c
  refine (alabout_any _ _).mono ?_
  rintro e w1 ⟨rfl, rfl⟩
  by_cases c : Al.V a.lo
  case neg =>
    have HE := Lib.hid (decide_eq_false (show ¬ Al.Right a from fun h => c h.2.1))
    rw [decide_eq_false c]
    clear c
    go_wp2_with fail
    go_ret
    exact ⟨by rw [HE.out]; rfl, HB.out⟩
  rw [decide_eq_true c]
  have HC0 := Lib.hid c
  clear c
  obtain ⟨⟨r0, r1, r2, r3, r4, r5⟩, _⟩ := rowN6 HR.out
  go_wp2_with fail
  refine (alabout_any _ _).mono ?_
  rintro e w1 ⟨rfl, rfl⟩
  by_cases c : Al.V a.hi
  case neg =>
    have HE := Lib.hid (decide_eq_false (show ¬ Al.Right a from fun h => c h.2.2.1))
    rw [decide_eq_false c]
    clear c r0 r1 r2 r3 r4 r5
    go_wp2_with fail
    go_ret
    exact ⟨by rw [HE.out]; rfl, HB.out⟩
  rw [decide_eq_true c]
  have HC1 := Lib.hid c
  clear c r0 r1 r2 r3 r4 r5
  obtain ⟨⟨r0, r1, r2, r3, r4, r5⟩, _⟩ := rowN6 HR.out
  go_wp2_with fail
  refine (awithin_any _ _ _).mono ?_
  rintro e w1 ⟨rfl, rfl⟩
  by_cases c : 0 ≤ a.dl ∧ a.dl ≤ 100
  case neg =>
    have HE := Lib.hid (decide_eq_false (show ¬ Al.Right a from fun h => c h.2.2.2.1))
    rw [decide_eq_false c]
    clear c r0 r1 r2 r3 r4 r5
    go_wp2_with fail
    go_ret
    exact ⟨by rw [HE.out]; rfl, HB.out⟩
  rw [decide_eq_true c]
  have HC2 := Lib.hid c
  clear c r0 r1 r2 r3 r4 r5
  obtain ⟨⟨r0, r1, r2, r3, r4, r5⟩, _⟩ := rowN6 HR.out
  go_wp2_with fail
  refine (awithin_any _ _ _).mono ?_
  rintro e w1 ⟨rfl, rfl⟩
  by_cases c : 0 ≤ a.ct ∧ a.ct ≤ a.dl
  case neg =>
    have HE := Lib.hid (decide_eq_false (show ¬ Al.Right a from fun h => c h.2.2.2.2.1))
    rw [decide_eq_false c]
    clear c r0 r1 r2 r3 r4 r5
    go_wp2_with fail
    go_ret
    exact ⟨by rw [HE.out]; rfl, HB.out⟩
  rw [decide_eq_true c]
  have HC3 := Lib.hid c
  clear c r0 r1 r2 r3 r4 r5
  obtain ⟨⟨r0, r1, r2, r3, r4, r5⟩, _⟩ := rowN6 HR.out
  go_wp2_with fail
  refine (mholds_any _ _ _ _).mono ?_
  rintro e w1 ⟨rfl, hb⟩
  have HB2 : Hid (Below w.heap.size w w1) := HB.out.trans (hb.mono HB.out.size)
  have HR2 := Lib.hid (nrow_below HR.out hb)
  clear hb HB HR
  have HB := HB2
  have HR := HR2
  clear HB2 HR2
  by_cases c : 1 ≤ a.st ∧ a.st ≤ 4
  case neg =>
    have HE := Lib.hid (decide_eq_false (show ¬ Al.Right a from fun h => c h.2.2.2.2.2.1))
    rw [decide_eq_false c]
    clear c r0 r1 r2 r3 r4 r5
    go_wp2_with fail
    go_ret
    exact ⟨by rw [HE.out]; rfl, HB.out⟩
  rw [decide_eq_true c]
  have HC4 := Lib.hid c
  clear c r0 r1 r2 r3 r4 r5
  obtain ⟨⟨r0, r1, r2, r3, r4, r5⟩, _⟩ := rowN6 HR.out
  go_wp2_with fail
  refine (awithin_any _ _ _).mono ?_
  rintro e w1 ⟨rfl, rfl⟩
  by_cases c : 0 ≤ a.sh ∧ a.sh ≤ 1000
  case neg =>
    have HE := Lib.hid (decide_eq_false (show ¬ Al.Right a from fun h => c h.2.2.2.2.2.2))
    rw [decide_eq_false c]
    clear c r0 r1 r2 r3 r4 r5
    go_wp2_with fail
    go_ret
    exact ⟨by rw [HE.out]; rfl, HB.out⟩
  rw [decide_eq_true c]
  have HC5 := Lib.hid c
  clear c r0 r1 r2 r3 r4 r5
  have HE := Lib.hid (decide_eq_true (show Al.Right a from ⟨HC.out, HC0.out, HC1.out, HC2.out, HC3.out, HC4.out, HC5.out⟩))
  go_wp2_with fail
  go_ret
  exact ⟨by rw [HE.out]; rfl, HB.out⟩
set_option maxRecDepth 100000 in
set_option maxHeartbeats 2000000 in
theorem acclose_any (i g : Nat) (f : Nat → Int) (w : World) (hg : w.rowIs g 90 1 (rowN [(.func (.func 44) #[] #[])])) :
    Calls Tryd.prog 94 #[.agg #[.int .i64 (f (i * 2)), .int .i64 (f (i * 2 + 1))], .pointer (some ⟨g, 0, none⟩)] w fun e w' => e = .returned (.bool (!decide (Al.ActOk (f (i * 2)) (f (i * 2 + 1))))) ∧ Below w.heap.size w w' := by
  obtain ⟨W, hW⟩ : ∃ W, W = w.alloc (.cells #[.int .i64 (f (i * 2)), .int .i64 (f (i * 2 + 1))] 50) := ⟨_, rfl⟩
  have HB : Hid (Below w.heap.size w W) := by show Below _ _ _; rw [hW]; exact nbel_alloc _ _
  have g1 : w.cell? ⟨g, 0, none⟩ = some (.func (.func 44) #[] #[]) := hg.cell (i := 0) (by omega)
  have g2 : g < w.heap.size := hg.lt
  have HR : Hid (W.rowIs w.heap.size 50 2 (rowN [.int .i64 (f (i * 2)), .int .i64 (f (i * 2 + 1))])) := by show W.rowIs _ _ _ _; rw [hW]; exact rowN_alloc w _ _
  have HW := Lib.hid hW
  clear hW hg
  go_enter Tryd.func94, Tryd.ntmps94
  go_wp2_with fail
  rw [← HW.out]
  clear HW
  refine (actRight_any _ _ _).mono ?_
  rintro e w1 ⟨rfl, hb⟩
  have HB1 : Hid (Below w.heap.size w w1) := HB.out.trans (hb.mono HB.out.size)
  clear hb
  by_cases c : Al.ActOk (f (i * 2)) (f (i * 2 + 1))
  · have HE := Lib.hid (decide_eq_true c)
    rw [decide_eq_true c]
    clear c
    go_wp2_with fail
    go_ret
    exact ⟨by rw [HE.out]; rfl, HB1.out⟩
  · have HE := Lib.hid (decide_eq_false c)
    rw [decide_eq_false c]
    clear c
    go_wp2_with fail
    go_ret
    exact ⟨by rw [HE.out]; rfl, HB1.out⟩
set_option maxRecDepth 100000 in
set_option maxHeartbeats 2000000 in
theorem acindex_any (la : Option Addr) (n lk g : Nat) (f : Nat → Int) (w : World) (h : IsAt la (n * 2) f w) (hs : n ≤ 1048576) (hg : w.rowIs g 90 1 (rowN [(.func (.func 44) #[] #[])])) :
    Calls Tryd.prog 114 #[.slice la n lk, .func (.func 94) #[] #[.pointer (some ⟨g, 0, none⟩)]] w fun e w' => (∃ z : Int, e = .returned (.int .i64 z) ∧ (0 ≤ z ↔ ¬ ∀ i, i < n → Al.ActOk (f (i * 2)) (f (i * 2 + 1)))) ∧ Below w.heap.size w w' := by
  have H := Lib.hid h
  have HG := Lib.hid hg
  clear h hg
  go_enter Tryd.func114, Tryd.ntmps114
  go_wp2_with fail
  go_loopw [5, 8] (fun _ iv wr => ∃ (i : Nat), i ≤ n ∧ iv = .int .i64 i ∧ Hid (Below w.heap.size w wr) ∧ Hid (∀ i', i' < i → (fun i => Al.ActOk (f (i * 2)) (f (i * 2 + 1))) i')) (fun _ iv _ => n - (intOf iv).toNat)
  case atStart => exact ⟨0, Nat.zero_le _, rfl, Below.refl _ _, fun j hj => absurd hj (Nat.not_lt_zero _)⟩
  case round =>
    obtain ⟨i, hi, rfl, hB, hP⟩ := hrel
    by_cases hlt : i < n
    · have hltz : (i : Int) < (n : Int) := by omega
      obtain ⟨b, e, c0, c1⟩ := (H.out.below hB.out).at2 hlt
      subst e
      go_wp2_with fail
      refine (acclose_any i g f _ (nrow_below HG.out hB.out)).mono ?_
      rintro e w1 ⟨rfl, hb⟩
      have HB1 : Hid (Below w.heap.size w w1) := hB.out.trans (hb.mono hB.out.size)
      clear hb c0 c1
      by_cases c : Al.ActOk (f (i * 2)) (f (i * 2 + 1))
      · rw [show (!decide (Al.ActOk (f (i * 2)) (f (i * 2 + 1)))) = false by rw [decide_eq_true c]; rfl]
        have HC := Lib.hid c
        clear c
        go_wp2_with fail
        go_roundw
        case rel => exact ⟨i + 1, by omega, by go_num, HB1, fun j hj => by
          by_cases e : j = i
          · subst e; exact HC.out
          · exact hP.out j (by omega)⟩
        case measure => simp [intOf]; omega
      · rw [show (!decide (Al.ActOk (f (i * 2)) (f (i * 2 + 1)))) = true by rw [decide_eq_false c]; rfl]
        have HC : Hid (¬ ∀ i, i < n → Al.ActOk (f (i * 2)) (f (i * 2 + 1))) := fun x => c (x i hlt)
        clear c
        go_wp2_with fail
        go_ret
        exact ⟨⟨_, rfl, ⟨fun _ => HC.out, fun _ => by omega⟩⟩, HB1.out⟩
    · obtain rfl : i = n := by omega
      go_wp2_with fail
      go_ret
      exact ⟨⟨_, rfl, ⟨fun x => absurd x (by omega), fun x => (by obtain ⟨j, hj, hk⟩ := x; exact absurd (hP.out j hj) hk)⟩⟩, hB.out⟩
set_option maxRecDepth 100000 in
set_option maxHeartbeats 2000000 in
theorem accontains_any (la : Option Addr) (n lk g : Nat) (f : Nat → Int) (w : World) (h : IsAt la (n * 2) f w) (hs : n ≤ 1048576) (hg : w.rowIs g 90 1 (rowN [(.func (.func 44) #[] #[])])) :
    Calls Tryd.prog 93 #[.slice la n lk, .func (.func 94) #[] #[.pointer (some ⟨g, 0, none⟩)]] w fun e w' => e = .returned (.bool (Mt.dB (¬ ∀ i, i < n → Al.ActOk (f (i * 2)) (f (i * 2 + 1))))) ∧ Below w.heap.size w w' := by
  have H := Lib.hid h
  have HG := Lib.hid hg
  clear h hg
  go_enter Tryd.func93, Tryd.ntmps93
  go_wp2_with fail
  refine (acindex_any la n lk g f _ H.out hs HG.out).mono ?_
  rintro e w1 ⟨⟨z, rfl, hz⟩, hb⟩
  have HB := Lib.hid hb
  have HZ := Lib.hid hz
  clear hb hz
  by_cases c : 0 ≤ z
  · have HE := Lib.hid (Mt.dB_tt (HZ.out.1 c))
    go_wp2_with fail
    go_ret
    exact ⟨by rw [HE.out]; simp <;> omega, HB.out⟩
  · have HE := Lib.hid (Mt.dB_ff (fun x => c (HZ.out.2 x)))
    go_wp2_with fail
    go_ret
    exact ⟨by rw [HE.out]; simp <;> omega, HB.out⟩
set_option maxRecDepth 100000 in
set_option maxHeartbeats 2000000 in
theorem acall_any (la : Option Addr) (n lk : Nat) (f : Nat → Int) (w : World) (h : IsAt la (n * 2) f w) (hs : n ≤ 1048576) :
    Calls Tryd.prog 74 #[.slice la n lk, (.func (.func 44) #[] #[])] w fun e w' => e = .returned (.bool (Mt.dB (∀ i, i < n → Al.ActOk (f (i * 2)) (f (i * 2 + 1))))) ∧ Below w.heap.size w w' := by
  have hmf : ∀ (fn : Fn) (first cap : Array Value) (w : World), (Instr.makeFunc fn first cap).run Tryd.prog w = .ok (.func fn first cap) w := fun _ _ _ _ => rfl
  obtain ⟨W, hW⟩ : ∃ W, W = w.alloc (.cells #[(.func (.func 44) #[] #[])] 90) := ⟨_, rfl⟩
  have R1 : Hid (W.rowIs w.heap.size 90 1 (rowN [(.func (.func 44) #[] #[])])) := by show World.rowIs _ _ _ _ _; rw [hW]; exact rowN_alloc w _ _
  have HB : Hid (Below w.heap.size w W) := by show Below _ _ _; rw [hW]; exact nbel_alloc _ _
  have H := Lib.hid (h.below HB.out)
  have HW := Lib.hid hW
  clear hW h
  go_enter Tryd.func74, Tryd.ntmps74
  go_wp2_with fail
  rw [← HW.out]
  clear HW
  refine (accontains_any la n lk w.heap.size f _ H.out hs R1.out).mono ?_
  rintro e w1 ⟨rfl, hb⟩
  have HB1 : Hid (Below w.heap.size w w1) := HB.out.trans (hb.mono HB.out.size)
  clear hb
  by_cases c : ∀ i, i < n → Al.ActOk (f (i * 2)) (f (i * 2 + 1))
  · have HE := Lib.hid (Mt.dB_tt c)
    rw [Mt.dB_ff (fun x => x c)]
    clear c
    go_wp2_with fail
    go_ret
    exact ⟨by rw [HE.out]; rfl, HB1.out⟩
  · have HE := Lib.hid (Mt.dB_ff c)
    rw [Mt.dB_tt c]
    clear c
    go_wp2_with fail
    go_ret
    exact ⟨by rw [HE.out]; rfl, HB1.out⟩
set_option maxRecDepth 100000 in
set_option maxHeartbeats 2000000 in
theorem ivclose_any (i g : Nat) (f : Nat → Int) (w : World) (hg : w.rowIs g 98 1 (rowN [(.func (.func 57) #[] #[])])) :
    Calls Tryd.prog 98 #[.int .i64 (f i), .pointer (some ⟨g, 0, none⟩)] w fun e w' => e = .returned (.bool (!decide (Al.V (f i)))) ∧ Below w.heap.size w w' := by
  have g1 : w.cell? ⟨g, 0, none⟩ = some (.func (.func 57) #[] #[]) := hg.cell (i := 0) (by omega)
  clear hg
  go_enter Tryd.func98, Tryd.ntmps98
  go_wp2_with fail
  refine (value_any _ _).mono ?_
  rintro e w1 ⟨rfl, hb⟩
  have HB1 := Lib.hid hb
  clear hb
  by_cases c : Al.V (f i)
  · have HE := Lib.hid (decide_eq_true c)
    rw [decide_eq_true c]
    clear c
    go_wp2_with fail
    go_ret
    exact ⟨by rw [HE.out]; rfl, HB1.out⟩
  · have HE := Lib.hid (decide_eq_false c)
    rw [decide_eq_false c]
    clear c
    go_wp2_with fail
    go_ret
    exact ⟨by rw [HE.out]; rfl, HB1.out⟩
set_option maxRecDepth 100000 in
set_option maxHeartbeats 2000000 in
theorem ivindex_any (la : Option Addr) (n lk g : Nat) (f : Nat → Int) (w : World) (h : IsAt la n f w) (hs : n ≤ 1048576) (hg : w.rowIs g 98 1 (rowN [(.func (.func 57) #[] #[])])) :
    Calls Tryd.prog 115 #[.slice la n lk, .func (.func 98) #[] #[.pointer (some ⟨g, 0, none⟩)]] w fun e w' => (∃ z : Int, e = .returned (.int .i64 z) ∧ (0 ≤ z ↔ ¬ ∀ i, i < n → Al.V (f i))) ∧ Below w.heap.size w w' := by
  have H := Lib.hid h
  have HG := Lib.hid hg
  clear h hg
  go_enter Tryd.func115, Tryd.ntmps115
  go_wp2_with fail
  go_loopw [5, 8] (fun _ iv wr => ∃ (i : Nat), i ≤ n ∧ iv = .int .i64 i ∧ Hid (Below w.heap.size w wr) ∧ Hid (∀ i', i' < i → (fun i => Al.V (f i)) i')) (fun _ iv _ => n - (intOf iv).toNat)
  case atStart => exact ⟨0, Nat.zero_le _, rfl, Below.refl _ _, fun j hj => absurd hj (Nat.not_lt_zero _)⟩
  case round =>
    obtain ⟨i, hi, rfl, hB, hP⟩ := hrel
    by_cases hlt : i < n
    · have hltz : (i : Int) < (n : Int) := by omega
      obtain ⟨b, e, c0⟩ := (H.out.below hB.out).at1 hlt
      subst e
      go_wp2_with fail
      refine (ivclose_any i g f _ (nrow_below HG.out hB.out)).mono ?_
      rintro e w1 ⟨rfl, hb⟩
      have HB1 : Hid (Below w.heap.size w w1) := hB.out.trans (hb.mono hB.out.size)
      clear hb c0
      by_cases c : Al.V (f i)
      · rw [show (!decide (Al.V (f i))) = false by rw [decide_eq_true c]; rfl]
        have HC := Lib.hid c
        clear c
        go_wp2_with fail
        go_roundw
        case rel => exact ⟨i + 1, by omega, by go_num, HB1, fun j hj => by
          by_cases e : j = i
          · subst e; exact HC.out
          · exact hP.out j (by omega)⟩
        case measure => simp [intOf]; omega
      · rw [show (!decide (Al.V (f i))) = true by rw [decide_eq_false c]; rfl]
        have HC : Hid (¬ ∀ i, i < n → Al.V (f i)) := fun x => c (x i hlt)
        clear c
        go_wp2_with fail
        go_ret
        exact ⟨⟨_, rfl, ⟨fun _ => HC.out, fun _ => by omega⟩⟩, HB1.out⟩
    · obtain rfl : i = n := by omega
      go_wp2_with fail
      go_ret
      exact ⟨⟨_, rfl, ⟨fun x => absurd x (by omega), fun x => (by obtain ⟨j, hj, hk⟩ := x; exact absurd (hP.out j hj) hk)⟩⟩, hB.out⟩
set_option maxRecDepth 100000 in
set_option maxHeartbeats 2000000 in
theorem ivcontains_any (la : Option Addr) (n lk g : Nat) (f : Nat → Int) (w : World) (h : IsAt la n f w) (hs : n ≤ 1048576) (hg : w.rowIs g 98 1 (rowN [(.func (.func 57) #[] #[])])) :
    Calls Tryd.prog 97 #[.slice la n lk, .func (.func 98) #[] #[.pointer (some ⟨g, 0, none⟩)]] w fun e w' => e = .returned (.bool (Mt.dB (¬ ∀ i, i < n → Al.V (f i)))) ∧ Below w.heap.size w w' := by
  have H := Lib.hid h
  have HG := Lib.hid hg
  clear h hg
  go_enter Tryd.func97, Tryd.ntmps97
  go_wp2_with fail
  refine (ivindex_any la n lk g f _ H.out hs HG.out).mono ?_
  rintro e w1 ⟨⟨z, rfl, hz⟩, hb⟩
  have HB := Lib.hid hb
  have HZ := Lib.hid hz
  clear hb hz
  by_cases c : 0 ≤ z
  · have HE := Lib.hid (Mt.dB_tt (HZ.out.1 c))
    go_wp2_with fail
    go_ret
    exact ⟨by rw [HE.out]; simp <;> omega, HB.out⟩
  · have HE := Lib.hid (Mt.dB_ff (fun x => c (HZ.out.2 x)))
    go_wp2_with fail
    go_ret
    exact ⟨by rw [HE.out]; simp <;> omega, HB.out⟩
set_option maxRecDepth 100000 in
set_option maxHeartbeats 2000000 in
theorem ivall_any (la : Option Addr) (n lk : Nat) (f : Nat → Int) (w : World) (h : IsAt la n f w) (hs : n ≤ 1048576) :
    Calls Tryd.prog 79 #[.slice la n lk, (.func (.func 57) #[] #[])] w fun e w' => e = .returned (.bool (Mt.dB (∀ i, i < n → Al.V (f i)))) ∧ Below w.heap.size w w' := by
  have hmf : ∀ (fn : Fn) (first cap : Array Value) (w : World), (Instr.makeFunc fn first cap).run Tryd.prog w = .ok (.func fn first cap) w := fun _ _ _ _ => rfl
  obtain ⟨W, hW⟩ : ∃ W, W = w.alloc (.cells #[(.func (.func 57) #[] #[])] 98) := ⟨_, rfl⟩
  have R1 : Hid (W.rowIs w.heap.size 98 1 (rowN [(.func (.func 57) #[] #[])])) := by show World.rowIs _ _ _ _ _; rw [hW]; exact rowN_alloc w _ _
  have HB : Hid (Below w.heap.size w W) := by show Below _ _ _; rw [hW]; exact nbel_alloc _ _
  have H := Lib.hid (h.below HB.out)
  have HW := Lib.hid hW
  clear hW h
  go_enter Tryd.func79, Tryd.ntmps79
  go_wp2_with fail
  rw [← HW.out]
  clear HW
  refine (ivcontains_any la n lk w.heap.size f _ H.out hs R1.out).mono ?_
  rintro e w1 ⟨rfl, hb⟩
  have HB1 : Hid (Below w.heap.size w w1) := HB.out.trans (hb.mono HB.out.size)
  clear hb
  by_cases c : ∀ i, i < n → Al.V (f i)
  · have HE := Lib.hid (Mt.dB_tt c)
    rw [Mt.dB_ff (fun x => x c)]
    clear c
    go_wp2_with fail
    go_ret
    exact ⟨by rw [HE.out]; rfl, HB1.out⟩
  · have HE := Lib.hid (Mt.dB_ff c)
    rw [Mt.dB_tt c]
    clear c
    go_wp2_with fail
    go_ret
    exact ⟨by rw [HE.out]; rfl, HB1.out⟩
end Go.Proofs.YtmejmpdljckfgaaDoor
