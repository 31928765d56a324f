/-
  Whether one more fits, and whether a plan is right: the program's tests.
-/
import Derived.Test.YtganlipebndeoaaJbRm
namespace Go.Proofs.Ytganlipebndeoaa
open Go.RowKit Go.Deep

theorem jwr {x : Int} (h1 : -9223372036854775808 ≤ x) (h2 : x ≤ 9223372036854775807) : IntKind.i64.wrap x = x := by simp [IntKind.wrap, IntKind.bits, IntKind.signed]; omega
set_option maxRecDepth 100000 in
set_option maxHeartbeats 1000000 in
theorem atWork_any (x : Je) (s d : Int) (w : World) (hs : 0 ≤ s ∧ s ≤ 1000000) (hd : 0 ≤ x.dy ∧ x.dy ≤ 1000000) :
    Calls Try.prog 47 #[shV x s, .int .i64 d] w fun e w' => e = .returned (.bool (decide (Jb.atW x s d))) ∧ Below w.heap.size w w' := by
  obtain ⟨W, hW⟩ : ∃ W, W = w.alloc (.cells #[.int .i64 x.dy, .int .i64 x.cw, .slice x.pa x.an x.ak, .slice x.pr x.rn x.rk, .int .i64 s] 56) := ⟨_, rfl⟩
  have HB : Hid (Below w.heap.size w W) := by show Below _ _ _; rw [hW]; exact nbel_alloc _ _
  have HW := Lib.hid hW
  clear hW
  by_cases c1 : s ≤ d
  · have HE : Hid (decide (Jb.atW x s d) = decide (d < s + x.dy)) := by
      show _ = _
      unfold Jb.atW
      simp [c1]
    rw [HE.out]
    go_enter Try.func47, Try.ntmps47
    go_wp2_with fail
    rw [← HW.out]
    refine (shEnd_any x s _ (by omega) (by omega)).mono ?_
    rintro e w1 ⟨rfl, hb⟩
    replace HB : Hid (Below w.heap.size w w1) := HB.out.trans (hb.mono HB.out.size)
    clear hb HW
    go_wp2_with fail
    go_ret
    exact ⟨rfl, HB.out⟩
  · have HE : Hid (decide (Jb.atW x s d) = false) := by
      show _ = _
      unfold Jb.atW
      simp [c1]
    rw [HE.out]
    go_enter Try.func47, Try.ntmps47
    go_wp2_with fail
    rw [← HW.out]
    go_ret
    exact ⟨rfl, HB.out⟩
set_option maxRecDepth 100000 in
set_option maxHeartbeats 2000000 in
theorem people_any (a : Option Addr) (n k : Nat) (bs : Nat → Je) (s : Nat → Int) (d : Int) (w : World) (h : ShAt a n bs s w) (hn : n ≤ 1048576) (hb : Jb.Bnd n bs s 1000000) (hc : ∀ k, k < n → 0 ≤ (bs k).cw ∧ (bs k).cw ≤ 20) :
    Calls Try.prog 42 #[.slice a n k, .int .i64 d] w fun e w' => e = .returned (.int .i64 (Jb.ppl bs s d n)) ∧ Below w.heap.size w w' := by
  obtain ⟨RT, hRT⟩ : ∃ RT, RT = Jb.ppl bs s d := ⟨_, rfl⟩
  rw [← hRT]
  have R0 : Hid (RT 0 = 0) := by show _ = _; rw [hRT]; rfl
  have RS : Hid (∀ t, RT (t + 1) = RT t + if Jb.atW (bs t) (s t) d then (bs t).cw else 0) := fun t => by rw [hRT]; rfl
  have RB : Hid (∀ t, t ≤ n → 0 ≤ RT t ∧ RT t ≤ ((20 * t : Nat) : Int)) := fun t ht => by rw [hRT]; exact Jb.ppl_bd (fun k hk => hc k (by omega))
  have H := Lib.hid h
  have HBN := Lib.hid hb
  have HC := Lib.hid hc
  clear h hb hRT hc
  go_enter Try.func42, Try.ntmps42
  go_wp2_with fail
  go_loopw [5, 7, 10] (fun dv _ iv wr => ∃ (t : Nat), t ≤ n ∧ iv = .int .i64 t ∧ dv = .int .i64 (RT t) ∧ Hid (Below w.heap.size w wr)) (fun _ _ iv _ => n - (intOf iv).toNat)
  case atStart => exact ⟨0, Nat.zero_le _, rfl, by rw [R0.out], Below.refl _ _⟩
  case round =>
    obtain ⟨t, ht, rfl, rfl, hB⟩ := hrel
    by_cases hlt : t < n
    · have hltz : (t : Int) < (n : Int) := by omega
      obtain ⟨b2, rfl, ⟨d0, d1, d2, d3, d4⟩⟩ := (H.out.below hB.out).at_ hlt
      have hbd := HBN.out t (by omega)
      have hcw := HC.out t hlt
      have HRS := Lib.hid (RS.out t)
      obtain ⟨rb1, rb2⟩ := RB.out t (by omega)
      obtain ⟨W0, hW0⟩ : ∃ W0, W0 = wr.alloc (.cells #[.int .i64 (bs t).dy, .int .i64 (bs t).cw, .slice (bs t).pa (bs t).an (bs t).ak, .slice (bs t).pr (bs t).rn (bs t).rk, .int .i64 (s t)] 56) := ⟨_, rfl⟩
      have HR0 : Hid (W0.rowIs wr.heap.size 56 5 (rowN (shR (bs t) (s t)))) := by show W0.rowIs _ _ _ _; rw [hW0]; exact rowN_alloc wr _ _
      have HB0 : Hid (Below w.heap.size w W0) := by show Below _ _ _; rw [hW0]; exact hB.out.trans ((nbel_alloc _ _).mono hB.out.size)
      have HW0 := Lib.hid hW0
      clear hW0
      go_wp2_with fail
      rw [← HW0.out]
      refine (atWork_any (bs t) (s t) d _ (by omega) (by omega)).mono ?_
      rintro e w1 ⟨rfl, hb⟩
      replace HB0 : Hid (Below w.heap.size w w1) := HB0.out.trans (hb.mono HB0.out.size)
      replace HR0 := Lib.hid (nrow_below HR0.out hb)
      clear hb d0 d1 d2 d3 d4 HW0 hB
      obtain ⟨⟨y0, y1, y2, y3, y4⟩, _⟩ := jrow5 HR0.out
      have ly := HR0.out.lt
      obtain ⟨rv, hrv⟩ : ∃ rv, rv = RT t := ⟨_, rfl⟩
      rw [← hrv] at HRS rb1 rb2 ⊢
      clear hrv hbd
      by_cases c : Jb.atW (bs t) (s t) d
      · have hd : decide (Jb.atW (bs t) (s t) d) = true := by simpa using c
        rw [hd]
        have HE : Hid (RT (t + 1) = rv + (bs t).cw) := by show _ = _; rw [HRS.out, if_pos c]
        clear c hd HRS
        go_wp2_with fail
        go_roundw
        case rel => exact ⟨t + 1, by omega, by go_num, by rw [HE.out], HB0⟩
        case measure => simp [intOf]; omega
      · have hd : decide (Jb.atW (bs t) (s t) d) = false := by simpa using c
        rw [hd]
        have HE : Hid (RT (t + 1) = rv) := by show _ = _; rw [HRS.out, if_neg c]; omega
        clear c hd HRS
        go_wp2_with fail
        go_roundw
        case rel => exact ⟨t + 1, by omega, by go_num, by rw [HE.out], HB0⟩
        case measure => simp [intOf]; omega
    · obtain rfl : t = n := by omega
      go_wp2_with fail
      go_ret
      exact ⟨rfl, hB.out⟩
/-- What the tests read of a roster. -/
structure RosR (a : Option Addr) (n : Nat) (bs : Nat → Je) (s : Nat → Int) (W : World) : Prop where
  sh : ShAt a n bs s W
  ls : ∀ i, i < n → JeL (bs i) W
theorem RosR.below {a : Option Addr} {n : Nat} {bs : Nat → Je} {s : Nat → Int} {W W' : World} (h : RosR a n bs s W) (hb : Below W.heap.size W W') : RosR a n bs s W' := ⟨h.sh.below hb, fun i hi => (h.ls i hi).below hb⟩
theorem RosR.part {a : Option Addr} {n m : Nat} {bs : Nat → Je} {s : Nat → Int} {W : World} (h : RosR a n bs s W) (hm : m ≤ n) : RosR a m bs s W := ⟨h.sh.part hm, fun i hi => h.ls i (by omega)⟩
/-- What the tests ask of the numbers. -/
structure RosN (n : Nat) (bs : Nat → Je) (s : Nat → Int) : Prop where
  b : Jb.Bnd n bs s 1000000
  c : ∀ k, k < n → 0 ≤ (bs k).cw ∧ (bs k).cw ≤ 20
  r : ∀ k, k < n → Pl.Rising (bs k).rn (bs k).R 100
  l : ∀ k, k < n → (bs k).rn ≤ 1048576
theorem RosN.part {n m : Nat} {bs : Nat → Je} {s : Nat → Int} (h : RosN n bs s) (hm : m ≤ n) : RosN m bs s := ⟨fun i hi => h.b i (by omega), fun i hi => h.c i (by omega), fun i hi => h.r i (by omega), fun i hi => h.l i (by omega)⟩
set_option maxRecDepth 100000 in
set_option maxHeartbeats 2000000 in
theorem clIx_any (a : Option Addr) (n k : Nat) (bs : Nat → Je) (s : Nat → Int) (x : Je) (s0 : Int) (w : World) (h : RosR a n bs s w) (hN : RosN n bs s) (hn : n ≤ 1048576) (hx : IsAt x.pr x.rn x.R w) (hxn : x.rn ≤ 1048576) (hs0 : 0 ≤ s0 ∧ s0 ≤ 1000000) (hdx : 0 ≤ x.dy ∧ x.dy ≤ 1000000) :
    Calls Try.prog 48 #[.slice a n k, .func (.func 34) #[shV x s0] #[]] w fun e w' => (∃ z : Int, e = .returned (.int .i64 z) ∧ (0 ≤ z ↔ ∃ i, i < n ∧ Jb.clash x s0 (bs i) (s i))) ∧ Below w.heap.size w w' := by
  have H := Lib.hid h
  have HN := Lib.hid hN
  have HX := Lib.hid hx
  clear h hN hx
  go_enter Try.func48, Try.ntmps48
  go_wp2_with fail
  go_loopw [5, 8] (fun _ iv wr => ∃ (i : Nat), i ≤ n ∧ iv = .int .i64 i ∧ Hid (Below w.heap.size w wr) ∧ Hid (∀ j, j < i → ¬ Jb.clash x s0 (bs j) (s j))) (fun _ iv _ => n - (intOf iv).toNat)
  case atStart => exact ⟨0, Nat.zero_le _, rfl, Below.refl _ _, fun j hj => absurd hj (Nat.not_lt_zero _)⟩
  case round =>
    obtain ⟨i, hi, rfl, hB, hP⟩ := hrel
    by_cases hlt : i < n
    · have hltz : (i : Int) < (n : Int) := by omega
      obtain ⟨b2, rfl, ⟨d0, d1, d2, d3, d4⟩⟩ := (H.out.sh.below hB.out).at_ hlt
      have hbd := HN.out.b i hlt
      go_wp2_with fail
      refine (clashes_any x (bs i) s0 (s i) _ (HX.out.below hB.out) hxn ((H.out.ls i hlt).2.below hB.out) (HN.out.l i hlt) (HN.out.r i hlt) hs0 (by omega) hdx (by omega)).mono ?_
      rintro e w1 ⟨rfl, hb⟩
      have HB1 : Hid (Below w.heap.size w w1) := hB.out.trans (hb.mono hB.out.size)
      clear hb d0 d1 d2 d3 d4 hB
      by_cases c : Jb.clash x s0 (bs i) (s i)
      · rw [dB_tt c]
        have HC := Lib.hid c
        clear c
        go_wp2_with fail
        go_ret
        exact ⟨⟨_, rfl, ⟨fun _ => ⟨i, hlt, HC.out⟩, fun _ => by omega⟩⟩, HB1.out⟩
      · rw [dB_ff c]
        have HC := Lib.hid c
        clear c
        go_wp2_with fail
        go_roundw
        case rel => exact ⟨i + 1, by omega, by go_num, HB1, fun j hj => by
          by_cases e : j = i
          · subst e; exact HC.out
          · exact hP.out j (by omega)⟩
        case measure => simp [intOf]; omega
    · obtain rfl : i = n := by omega
      go_wp2_with fail
      go_ret
      exact ⟨⟨_, rfl, ⟨fun x => absurd x (by omega), fun ⟨j, hj, x⟩ => absurd x (hP.out j hj)⟩⟩, hB.out⟩
set_option maxRecDepth 100000 in
set_option maxHeartbeats 2000000 in
theorem clCt_any (a : Option Addr) (n k : Nat) (bs : Nat → Je) (s : Nat → Int) (x : Je) (s0 : Int) (w : World) (h : RosR a n bs s w) (hN : RosN n bs s) (hn : n ≤ 1048576) (hx : IsAt x.pr x.rn x.R w) (hxn : x.rn ≤ 1048576) (hs0 : 0 ≤ s0 ∧ s0 ≤ 1000000) (hdx : 0 ≤ x.dy ∧ x.dy ≤ 1000000) :
    Calls Try.prog 43 #[.slice a n k, .func (.func 34) #[shV x s0] #[]] w fun e w' => e = .returned (.bool (dB (∃ i, i < n ∧ Jb.clash x s0 (bs i) (s i)))) ∧ Below w.heap.size w w' := by
  have H := Lib.hid (clIx_any a n k bs s x s0 w h hN hn hx hxn hs0 hdx)
  obtain ⟨P, hP⟩ : ∃ P : Prop, P = ∃ i, i < n ∧ Jb.clash x s0 (bs i) (s i) := ⟨_, rfl⟩
  rw [← hP] at H ⊢
  clear h hN hx hP
  go_enter Try.func43, Try.ntmps43
  go_wp2_with fail
  refine H.out.mono ?_
  rintro e w1 ⟨⟨z, rfl, hz⟩, hb⟩
  have HB := Lib.hid hb
  have HZ : Hid (decide (0 ≤ z) = dB P) := by
    show _ = _
    by_cases c : 0 ≤ z
    · rw [dB_tt (hz.1 c)]; simpa using c
    · rw [dB_ff (fun k => c (hz.2 k))]; simpa using c
  clear hz hb
  go_wp2_with fail
  go_ret
  exact ⟨by rw [← HZ.out]; rfl, HB.out⟩
set_option maxRecDepth 100000 in
set_option maxHeartbeats 4000000 in
theorem fits_any (a : Option Addr) (n k : Nat) (bs : Nat → Je) (s : Nat → Int) (x : Je) (s0 crew : Int) (w : World) (h : RosR a n bs s w) (hN : RosN n bs s) (hn : n ≤ 30) (hx : IsAt x.pr x.rn x.R w) (hxn : x.rn ≤ 1048576) (hs0 : 0 ≤ s0 ∧ s0 ≤ 1000000) (hdx : 0 ≤ x.dy ∧ x.dy ≤ 1000000) (hcx : 0 ≤ x.cw ∧ x.cw ≤ 20) :
    Calls Try.prog 31 #[.slice a n k, shV x s0, .int .i64 crew] w fun e w' => e = .returned (.bool (dB (Jb.Fits bs s n x s0 crew))) ∧ Below w.heap.size w w' := by
  obtain ⟨W, hW⟩ : ∃ W, W = w.alloc (.cells #[.int .i64 x.dy, .int .i64 x.cw, .slice x.pa x.an x.ak, .slice x.pr x.rn x.rk, .int .i64 s0] 56) := ⟨_, rfl⟩
  have HB : Hid (Below w.heap.size w W) := by show Below _ _ _; rw [hW]; exact nbel_alloc _ _
  obtain ⟨w0, hw0⟩ : ∃ w0, w0 = w.heap.size := ⟨_, rfl⟩
  have HR : Hid (W.rowIs w0 56 5 (rowN (shR x s0))) := by show W.rowIs _ _ _ _; rw [hW, hw0]; exact rowN_alloc _ _ _
  have H := Lib.hid (h.below HB.out)
  have HX := Lib.hid (hx.below HB.out)
  have HN := Lib.hid hN
  have HW := Lib.hid hW
  have HW0 := Lib.hid hw0
  clear h hx hN hW hw0
  go_enter Try.func31, Try.ntmps31
  go_wp2_with fail
  rw [← HW.out, ← HW0.out]
  clear HW
  obtain ⟨⟨c0, c1, c2, c3, c4⟩, _⟩ := jrow5 HR.out
  have lr := HR.out.lt
  clear c0 c1 c2 c3 c4 lr
  go_loopw [7] (fun dv wr => ∃ (t : Nat), (t : Int) ≤ x.dy ∧ dv = .int .i64 (s0 + t) ∧ Hid (Below W.heap.size W wr) ∧ Hid (∀ u : Nat, u < t → Jb.ppl bs s (s0 + u) n + x.cw ≤ crew)) (fun dv _ => (s0 + x.dy - intOf dv).toNat)
  case atStart => exact ⟨0, by omega, by congr 1; omega, Below.refl _ _, fun u hu => absurd hu (Nat.not_lt_zero _)⟩
  case round =>
    obtain ⟨t, ht, rfl, hB, hP⟩ := hrel
    obtain ⟨⟨c0, c1, c2, c3, c4⟩, _⟩ := jrow5 (nrow_below HR.out hB.out)
    obtain ⟨dd, hdd⟩ : ∃ dd, dd = s0 + (t : Int) := ⟨_, rfl⟩
    rw [← hdd]
    have HDD := Lib.hid hdd
    have hdd2 : 0 ≤ dd ∧ dd ≤ 2000000 := by omega
    clear hdd
    go_wp2_with fail
    refine (shEnd_any x s0 _ (by omega) (by omega)).mono ?_
    rintro e w1 ⟨rfl, hb⟩
    have HB1 : Hid (Below W.heap.size W w1) := hB.out.trans (hb.mono hB.out.size)
    clear hb hB c0 c1 c2 c3 c4
    by_cases hlt : dd < s0 + x.dy
    · obtain ⟨pv, hpv⟩ : ∃ pv, pv = Jb.ppl bs s dd n := ⟨_, rfl⟩
      have hpb := Jb.ppl_bd (bs := bs) (s := s) (d := dd) HN.out.c
      rw [← hpv] at hpb
      have HPV := Lib.hid hpv
      clear hpv
      have hpb2 : 0 ≤ pv ∧ pv ≤ 600 := by omega
      clear hpb
      by_cases cc : crew < pv + x.cw
      · have HE : Hid (dB (Jb.Fits bs s n x s0 crew) = false) := dB_ff (fun k => by
          have := k.1 dd (by have := HDD.out; omega) hlt
          rw [← HPV.out] at this; omega)
        have hcd : decide (crew < pv + x.cw) = true := by simpa using cc
        go_wp2_with fail
        refine wp_region_held_drew (S := fun V => Below w1.heap.size w1 V) (by kernel_rfl) (Below.refl _ _).drew (fun hHeld => ?_)
        refine take_do (i := 0) (v := (.slice a n k)) rfl (by kernel_rfl) (by kernel_rfl) (by kernel_rfl) (fun _ _ _ h => h) (by rfl) ?_ (by assumption) ?_
        · intro w hSw
          skip
          go_simp
        simp only [Act.put, List.setIfInBounds_toArray, List.set_cons_zero, List.set_cons_succ]
        refine take_do (i := 1) (v := (.int .i64 dd)) rfl (by kernel_rfl) (by kernel_rfl) (by kernel_rfl) (fun _ _ _ h => h) (by rfl) ?_ (by assumption) ?_
        · intro w hSw
          skip
          go_simp
        simp only [Act.put, List.setIfInBounds_toArray, List.set_cons_zero, List.set_cons_succ]
        refine take_do (i := 3) (v := (.pointer (some ⟨w0, 0, none⟩))) rfl (by kernel_rfl) (by kernel_rfl) (by kernel_rfl) (fun _ _ _ h => h) (by rfl) ?_ (by assumption) ?_
        · intro w hSw
          skip
          go_simp
        simp only [Act.put, List.setIfInBounds_toArray, List.set_cons_zero, List.set_cons_succ]
        refine take_do (i := 4) (v := (.pointer (some ⟨w0, 1, none⟩))) rfl (by kernel_rfl) (by kernel_rfl) (by kernel_rfl) (fun _ _ _ h => h) (by rfl) ?_ (by assumption) ?_
        · intro w hSw
          skip
          go_simp
        simp only [Act.put, List.setIfInBounds_toArray, List.set_cons_zero, List.set_cons_succ]
        refine take_do (i := 5) (v := (.int .i64 x.cw)) rfl (by kernel_rfl) (by kernel_rfl) (by kernel_rfl) (fun _ _ _ h => h) (by rfl) ?_ (by assumption) ?_
        · intro w hSw
          obtain ⟨⟨c0, c1, c2, c3, c4⟩, _⟩ := jrow5 (nrow_below (nrow_below HR.out HB1.out) hSw)
          go_simp
        simp only [Act.put, List.setIfInBounds_toArray, List.set_cons_zero, List.set_cons_succ]
        refine take_do (i := 7) (v := (.int .i64 crew)) rfl (by kernel_rfl) (by kernel_rfl) (by kernel_rfl) (fun _ _ _ h => h) (by rfl) ?_ (by assumption) ?_
        · intro w hSw
          skip
          go_simp
        simp only [Act.put, List.setIfInBounds_toArray, List.set_cons_zero, List.set_cons_succ]
        refine take_call (i := 2) rfl (by kernel_rfl) (fun K2 hK => ?_)
        go_simp
        refine (people_any a n k bs s dd _ ((H.out.below HB1.out).below hHeld).sh (by omega) HN.out.b HN.out.c).mono ?_
        rintro e w2 ⟨rfl, hb⟩
        rw [← HPV.out]
        go_wp2_with fail
        refine hK.out _ _ (hHeld.trans (hb.mono hHeld.size)) (fun hHeld2 => ?_)
        clear hK hHeld hb
        have hHeld := hHeld2
        clear hHeld2
        refine take_do (i := 6) (v := (.int .i64 (pv + x.cw))) rfl (by kernel_rfl) (by kernel_rfl) (by kernel_rfl) (fun _ _ _ h => h) (by rfl) ?_ (by assumption) ?_
        · intro w hSw
          have hwr : IntKind.i64.wrap (pv + x.cw) = pv + x.cw := jwr (by omega) (by omega)
          go_simp
        simp only [Act.put, List.setIfInBounds_toArray, List.set_cons_zero, List.set_cons_succ]
        refine take_do (i := 8) (v := (.bool true)) rfl (by kernel_rfl) (by kernel_rfl) (by kernel_rfl) (fun _ _ _ h => h) (by rfl) ?_ (by assumption) ?_
        · intro w hSw
          skip
          go_simp
        simp only [Act.put, List.setIfInBounds_toArray, List.set_cons_zero, List.set_cons_succ]
        refine wpAnyH_done (by kernel_rfl) ?_ _
        have HB2 : Hid (Below W.heap.size W w2) := HB1.out.trans (hHeld.mono HB1.out.size)
        clear hHeld HB1
        go_wp2_with fail
        go_ret
        exact ⟨by rw [HE.out]; rfl, HB.out.trans (HB2.out.mono HB.out.size)⟩
      · have HLE : Hid (pv + x.cw ≤ crew) := by show _ ≤ _; omega
        have hcd : decide (crew < pv + x.cw) = false := by simpa using cc
        go_wp2_with fail
        refine wp_region_held_drew (S := fun V => Below w1.heap.size w1 V) (by kernel_rfl) (Below.refl _ _).drew (fun hHeld => ?_)
        refine take_do (i := 0) (v := (.slice a n k)) rfl (by kernel_rfl) (by kernel_rfl) (by kernel_rfl) (fun _ _ _ h => h) (by rfl) ?_ (by assumption) ?_
        · intro w hSw
          skip
          go_simp
        simp only [Act.put, List.setIfInBounds_toArray, List.set_cons_zero, List.set_cons_succ]
        refine take_do (i := 1) (v := (.int .i64 dd)) rfl (by kernel_rfl) (by kernel_rfl) (by kernel_rfl) (fun _ _ _ h => h) (by rfl) ?_ (by assumption) ?_
        · intro w hSw
          skip
          go_simp
        simp only [Act.put, List.setIfInBounds_toArray, List.set_cons_zero, List.set_cons_succ]
        refine take_do (i := 3) (v := (.pointer (some ⟨w0, 0, none⟩))) rfl (by kernel_rfl) (by kernel_rfl) (by kernel_rfl) (fun _ _ _ h => h) (by rfl) ?_ (by assumption) ?_
        · intro w hSw
          skip
          go_simp
        simp only [Act.put, List.setIfInBounds_toArray, List.set_cons_zero, List.set_cons_succ]
        refine take_do (i := 4) (v := (.pointer (some ⟨w0, 1, none⟩))) rfl (by kernel_rfl) (by kernel_rfl) (by kernel_rfl) (fun _ _ _ h => h) (by rfl) ?_ (by assumption) ?_
        · intro w hSw
          skip
          go_simp
        simp only [Act.put, List.setIfInBounds_toArray, List.set_cons_zero, List.set_cons_succ]
        refine take_do (i := 5) (v := (.int .i64 x.cw)) rfl (by kernel_rfl) (by kernel_rfl) (by kernel_rfl) (fun _ _ _ h => h) (by rfl) ?_ (by assumption) ?_
        · intro w hSw
          obtain ⟨⟨c0, c1, c2, c3, c4⟩, _⟩ := jrow5 (nrow_below (nrow_below HR.out HB1.out) hSw)
          go_simp
        simp only [Act.put, List.setIfInBounds_toArray, List.set_cons_zero, List.set_cons_succ]
        refine take_do (i := 7) (v := (.int .i64 crew)) rfl (by kernel_rfl) (by kernel_rfl) (by kernel_rfl) (fun _ _ _ h => h) (by rfl) ?_ (by assumption) ?_
        · intro w hSw
          skip
          go_simp
        simp only [Act.put, List.setIfInBounds_toArray, List.set_cons_zero, List.set_cons_succ]
        refine take_call (i := 2) rfl (by kernel_rfl) (fun K2 hK => ?_)
        go_simp
        refine (people_any a n k bs s dd _ ((H.out.below HB1.out).below hHeld).sh (by omega) HN.out.b HN.out.c).mono ?_
        rintro e w2 ⟨rfl, hb⟩
        rw [← HPV.out]
        go_wp2_with fail
        refine hK.out _ _ (hHeld.trans (hb.mono hHeld.size)) (fun hHeld2 => ?_)
        clear hK hHeld hb
        have hHeld := hHeld2
        clear hHeld2
        refine take_do (i := 6) (v := (.int .i64 (pv + x.cw))) rfl (by kernel_rfl) (by kernel_rfl) (by kernel_rfl) (fun _ _ _ h => h) (by rfl) ?_ (by assumption) ?_
        · intro w hSw
          have hwr : IntKind.i64.wrap (pv + x.cw) = pv + x.cw := jwr (by omega) (by omega)
          go_simp
        simp only [Act.put, List.setIfInBounds_toArray, List.set_cons_zero, List.set_cons_succ]
        refine take_do (i := 8) (v := (.bool false)) rfl (by kernel_rfl) (by kernel_rfl) (by kernel_rfl) (fun _ _ _ h => h) (by rfl) ?_ (by assumption) ?_
        · intro w hSw
          skip
          go_simp
        simp only [Act.put, List.setIfInBounds_toArray, List.set_cons_zero, List.set_cons_succ]
        refine wpAnyH_done (by kernel_rfl) ?_ _
        have HB2 : Hid (Below W.heap.size W w2) := HB1.out.trans (hHeld.mono HB1.out.size)
        clear hHeld HB1
        go_wp2_with fail
        go_roundw
        case rel => exact ⟨t + 1, by have := HDD.out; omega, by have := HDD.out; go_num, HB2, fun u hu => by
          by_cases e : u = t
          · subst e; rw [← HDD.out, ← HPV.out]; exact HLE.out
          · exact hP.out u (by omega)⟩
        case measure => simp [intOf]; omega
    · have HDE : Hid (∀ d, s0 ≤ d → d < s0 + x.dy → Jb.ppl bs s d n + x.cw ≤ crew) := fun d h1 h2 => by
        have := HDD.out
        have q := hP.out (d - s0).toNat (by omega)
        have e : s0 + ((d - s0).toNat : Int) = d := by omega
        rw [e] at q
        exact q
      obtain ⟨⟨c0, c1, c2, c3, c4⟩, _⟩ := jrow5 (nrow_below HR.out HB1.out)
      have lr := (nrow_below HR.out HB1.out).lt
      go_wp2_with fail
      refine (clCt_any a n k bs s x s0 _ (H.out.below HB1.out) HN.out (by omega) (HX.out.below HB1.out) hxn hs0 hdx).mono ?_
      rintro e w2 ⟨rfl, hb⟩
      have HB2 : Hid (Below W.heap.size W w2) := HB1.out.trans (hb.mono HB1.out.size)
      clear hb c0 c1 c2 c3 c4 lr
      by_cases c : ∃ i, i < n ∧ Jb.clash x s0 (bs i) (s i)
      · rw [dB_tt c]
        have HE : Hid (dB (Jb.Fits bs s n x s0 crew) = false) := dB_ff (fun k => by obtain ⟨i, hi, q⟩ := c; exact k.2 i hi q)
        clear c
        go_wp2_with fail
        go_ret
        exact ⟨by rw [HE.out]; rfl, HB.out.trans (HB2.out.mono HB.out.size)⟩
      · rw [dB_ff c]
        have HE : Hid (dB (Jb.Fits bs s n x s0 crew) = true) := dB_tt ⟨HDE.out, fun i hi q => c ⟨i, hi, q⟩⟩
        clear c
        go_wp2_with fail
        go_ret
        exact ⟨by rw [HE.out]; rfl, HB.out.trans (HB2.out.mono HB.out.size)⟩
end Go.Proofs.Ytganlipebndeoaa
