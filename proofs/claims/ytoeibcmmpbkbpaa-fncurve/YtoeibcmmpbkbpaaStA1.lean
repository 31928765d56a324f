/-
  The contracts of the program's levels and volumes along a curve.
-/
import Derived.Test.YtoeibcmmpbkbpaaStI1
import Derived.Test.YtoeibcmmpbkbpaaSearchSh
namespace Go.Proofs.Ytoeibcmmpbkbpaa
open Go.RowKit Go.Deep

set_option maxRecDepth 100000 in
set_option maxHeartbeats 1000000 in
theorem levelOf_any (p : St.Pr) (w : World) :
    Calls Try.prog 28 #[prV p] w fun e w' => e = .returned (.int .i64 p.a) ∧ Gr w w' := by
  have HG : Hid (Gr w (w.alloc (.cells #[.int .i64 p.a, .int .i64 p.b] 30))) := (Gr.refl _).alloc _
  go_enter Try.func28, Try.ntmps28
  go_wp2_with fail
  go_ret
  exact ⟨rfl, HG.out⟩
set_option maxRecDepth 100000 in
set_option maxHeartbeats 1000000 in
theorem volumeOf_any (p : St.Pr) (w : World) :
    Calls Try.prog 27 #[prV p] w fun e w' => e = .returned (.int .i64 p.b) ∧ Gr w w' := by
  have HG : Hid (Gr w (w.alloc (.cells #[.int .i64 p.a, .int .i64 p.b] 30))) := (Gr.refl _).alloc _
  go_enter Try.func27, Try.ntmps27
  go_wp2_with fail
  go_ret
  exact ⟨rfl, HG.out⟩
theorem wrap_id {x : Int} (h1 : -9223372036854775808 ≤ x) (h2 : x ≤ 9223372036854775807) : IntKind.i64.wrap x = x := by simp [IntKind.wrap, IntKind.bits, IntKind.signed]; omega
theorem rise_a {n : Nat} {c : Nat → St.Pr} (h : St.CurveOk n c) : St.RiseTo n (fun i => (c i).a) := fun j i h1 h2 => (St.rises_all h j i h1 h2).1
theorem rise_b {n : Nat} {c : Nat → St.Pr} (h : St.CurveOk n c) : St.RiseTo n (fun i => (c i).b) := fun j i h1 h2 => (St.rises_all h j i h1 h2).2
theorem box1 (w : World) (a : Value) (t : TypeId) : (w.alloc (.cells #[a] t)).cell? ⟨w.heap.size, 0, none⟩ = some a := by
  simp only [World.cell?, blk_alloc_new]; rfl
theorem cell_up {w : World} {p : Addr} {v : Value} (o : Obj) (h : w.cell? p = some v) : (w.alloc o).cell? p = some v := (((Below.refl w.heap.size w).alloc (Nat.le_refl _) o).cell (World.block_lt_of_cell? _ _ h)).trans h

set_option maxRecDepth 100000 in
set_option maxHeartbeats 2000000 in
theorem cl_level (bk bc ba blk n cap : Nat) (c : Nat → St.Pr) (x : Int) (i : Nat) (W : World) (hi : i < n) (hk : W.cell? ⟨bk, 0, none⟩ = some (.func (.func 27) #[] #[])) (hc : W.cell? ⟨bc, 0, none⟩ = some (.slice (some ⟨blk, 0, none⟩) n cap)) (ha : W.cell? ⟨ba, 0, none⟩ = some (.int .i64 x)) (hp : PrCells blk (i * 2) (c i) W) :
    Calls Try.prog 40 (#[.int .i64 i] ++ #[.pointer (some ⟨bk, 0, none⟩), .pointer (some ⟨bc, 0, none⟩), .pointer (some ⟨ba, 0, none⟩)]) W fun e w' => e = .returned (.bool (decide (x < (c i).b))) ∧ Gr W w' := by
  have q0 := cell_grown (w := W) (World.block_lt_of_cell? _ _ hk) hk
  have q1 := cell_grown (w := W) (World.block_lt_of_cell? _ _ hc) hc
  have q2 := cell_grown (w := W) (World.block_lt_of_cell? _ _ ha) ha
  have q3 := cell_grown (w := W) (World.block_lt_of_cell? _ _ hp.1) hp.1
  have q4 := cell_grown (w := W) (World.block_lt_of_cell? _ _ hp.2) hp.2
  have hiz : (i : Int) < (n : Int) := by omega
  have kn : ∀ m os, Calls Try.prog 27 #[prV (c i)] (Go.Sort.grow (W.drewN m) os) fun e w'' => e = .returned (.int .i64 (c i).b) ∧ ∃ p : GrownBy, w'' = Go.Sort.grow (W.drewN p.n) p.os := fun m os => grown_of_gr (volumeOf_any (c i) _)
  have KNN := Lib.hid kn
  clear hk hc ha hp kn
  go_enter Try.func40, Try.ntmps40
  go_wp2_with fail
  have hmix : Try.prog.follows Departure.mixedOrders = true := by kernel_rfl
  go_quiet_grown (first | (go_at_call 27; exact KNN.out _ _))
  go_wp2_with fail
  go_ret
  exact ⟨rfl, gr_of _ _⟩
set_option maxRecDepth 100000 in
set_option maxHeartbeats 4000000 in
theorem along_level (a : Option Addr) (n cap : Nat) (c : Nat → St.Pr) (x : Int) (w : World) (h : PrsAt a n c w) :
    Calls Try.prog 26 #[.slice a n cap, .int .i64 x, .func (.func 27) #[] #[], .func (.func 28) #[] #[]] w fun e w' => (∃ z, e = .returned (.int .i64 z) ∧ (St.CurveOk n c → z = St.along n (fun i => (c i).b) (fun i => (c i).a) x) ∧ (¬ St.CurveOk n c → z = 0)) ∧ Gr w w' := by
  obtain ⟨b1, h1⟩ := bool_of (St.CurveOk n c)
  have K1 := Lib.hid h1
  obtain ⟨W, hW⟩ : ∃ W, W = ((w.alloc (.cells #[.slice a n cap] 23)).alloc (.cells #[.int .i64 x] 2)).alloc (.cells #[.func (.func 27) #[] #[]] 57) := ⟨_, rfl⟩
  have hGW : Gr w W := by rw [hW]; exact (((Gr.refl _).alloc _).alloc _).alloc _
  have c0 : W.cell? ⟨w.heap.size, 0, none⟩ = some (.slice a n cap) := by rw [hW]; exact cell_up _ (cell_up _ (box1 w _ _))
  have c1 : W.cell? ⟨w.heap.size + 1, 0, none⟩ = some (.int .i64 x) := by
    rw [hW]; refine cell_up _ ?_
    have := box1 (w.alloc (.cells #[.slice a n cap] 23)) (.int .i64 x) 2
    rwa [World.size_alloc] at this
  have c2 : W.cell? ⟨w.heap.size + 1 + 1, 0, none⟩ = some (.func (.func 27) #[] #[]) := by
    rw [hW]
    have := box1 ((w.alloc (.cells #[.slice a n cap] 23)).alloc (.cells #[.int .i64 x] 2)) (.func (.func 27) #[] #[]) 57
    rwa [World.size_alloc, World.size_alloc] at this
  have HGW := Lib.hid hGW
  have HW := Lib.hid hW
  have H : Hid (PrsAt a n c W) := h.below hGW.bel
  have C0 := Lib.hid c0
  have C1 := Lib.hid c1
  have C2 := Lib.hid c2
  have eg : ∀ args w, (callFunc 40 args).run Try.prog w = .ok (.enter 40 args) w := enters_of Try.func40 (by kernel_rfl) rfl
  have EG := Lib.hid eg
  have hmf : ∀ (fn : Fn) (first cap : Array Value) (w : World), (Instr.makeFunc fn first cap).run Try.prog w = .ok (.func fn first cap) w := fun _ _ _ _ => rfl
  clear hGW h1 h c0 c1 c2 hW eg
  go_enter Try.func26, Try.ntmps26
  go_wp2_with fail
  rw [← HW.out]
  refine ((curve_any a n cap c _ H.out).mono fun e w' ⟨g1, g2⟩ => ⟨g1.eq K1.out, g2⟩ : Calls Try.prog 38 #[.slice a n cap] W fun e w' => e = .returned (.bool b1) ∧ Gr W w').mono ?_
  rintro e W1 ⟨rfl, hG1⟩
  cases b1 with
  | false =>
    have HG1 := Lib.hid hG1
    clear hG1
    go_wp2_with fail
    go_ret
    have hno : ¬ St.CurveOk n c := fun h => by have := K1.out.2 h; cases this
    exact ⟨⟨0, rfl, fun h => absurd h hno, fun _ => rfl⟩, HGW.out.trans HG1.out⟩
  | true =>
  have hok : St.CurveOk n c := by have := K1.out; simpa using this
  have HOK := Lib.hid hok
  have hkr : St.RiseTo n (fun i => (c i).b) := rise_b hok
  have hsr : St.RiseTo n (fun i => (c i).a) := rise_a hok
  obtain ⟨b, hab, hall⟩ := (H.out.below hG1.bel).all (by have := hok.1; omega)
  subst hab
  have d0 : W1.cell? ⟨w.heap.size, 0, none⟩ = some (.slice (some ⟨b, 0, none⟩) n cap) := (hG1.bel.cell (World.block_lt_of_cell? _ _ C0.out)).trans C0.out
  have d1 : W1.cell? ⟨w.heap.size + 1, 0, none⟩ = some (.int .i64 x) := (hG1.bel.cell (World.block_lt_of_cell? _ _ C1.out)).trans C1.out
  have d2 : W1.cell? ⟨w.heap.size + 1 + 1, 0, none⟩ = some (.func (.func 27) #[] #[]) := (hG1.bel.cell (World.block_lt_of_cell? _ _ C2.out)).trans C2.out
  have hS := Any.sort_Search Try.searchL 40 #[.pointer (some ⟨w.heap.size + 1 + 1, 0, none⟩), .pointer (some ⟨w.heap.size, 0, none⟩), .pointer (some ⟨w.heap.size + 1, 0, none⟩)] n (fun i => decide (x < (c i).b)) W1 EG.out (by have := hok.1; omega)
    (fun m os i hi => (cl_level (w.heap.size + 1 + 1) w.heap.size (w.heap.size + 1) b n cap c x i _ hi (cell_grown (World.block_lt_of_cell? _ _ d2) d2 m os) (cell_grown (World.block_lt_of_cell? _ _ d0) d0 m os) (cell_grown (World.block_lt_of_cell? _ _ d1) d1 m os) ((hall i hi).block ((gr_of m os).bel.block _ (hall i hi).lt))).mono
      fun _ _ ⟨he, hq⟩ => ⟨he, hq.eq⟩) (fun p q hpq hq hp => by
        by_cases e : p = q
        · subst e; exact hp
        · have := hkr q p (by omega) hq; simp at hp this ⊢; omega)
  change Calls Try.prog 39 _ _ _ at hS
  have HS := Lib.hid hS
  have HALL := Lib.hid hall
  have HG1 := Lib.hid hG1
  have D0 := Lib.hid d0
  have D1 := Lib.hid d1
  have D2 := Lib.hid d2
  have hf := St.cnt_facts (fun i => decide (x < (c i).b)) n (fun p q hpq hq hp => by
        by_cases e : p = q
        · subst e; exact hp
        · have := hkr q p (by omega) hq; simp at hp this ⊢; omega)
  clear hS d1 d2 hG1 hall hmf
  have hmf : ∀ (fn : Fn) (first cap : Array Value) (w : World), (Instr.makeFunc fn first cap).run Try.prog w = .ok (.func fn first cap) w := fun _ _ _ _ => rfl
  clear hok
  have HKR := Lib.hid hkr
  have HSR := Lib.hid hsr
  clear hkr hsr
  obtain ⟨k, hk⟩ : ∃ k, k = St.cnt n (fun i => decide (x < (c i).b)) := ⟨_, rfl⟩
  rw [← hk] at hf
  have HF := Lib.hid hf
  have HKK := Lib.hid hk
  clear hf hk
  go_wp2_with fail
  refine HS.out.mono ?_
  rintro e W2 ⟨rfl, q, os, hW2⟩
  have hG2 : Gr W1 W2 := by rw [hW2]; exact gr_of q os
  have hke : ((List.range n).countP (fun i => !decide (x < (c i).b))) = k := HKK.out.symm
  rw [hke]
  clear hW2 hke hmf
  have e0 : W2.cell? ⟨w.heap.size, 0, none⟩ = some (.slice (some ⟨b, 0, none⟩) n cap) := (hG2.bel.cell (World.block_lt_of_cell? _ _ D0.out)).trans D0.out
  have e1 : W2.cell? ⟨w.heap.size + 1, 0, none⟩ = some (.int .i64 x) := (hG2.bel.cell (World.block_lt_of_cell? _ _ D1.out)).trans D1.out
  have e2 : W2.cell? ⟨w.heap.size + 1 + 1, 0, none⟩ = some (.func (.func 27) #[] #[]) := (hG2.bel.cell (World.block_lt_of_cell? _ _ D2.out)).trans D2.out
  have hall2 : ∀ i, i < n → PrCells b (i * 2) (c i) W2 := fun i hi => (HALL.out i hi).block (hG2.bel.block _ (HALL.out i hi).lt)
  have HALL2 := Lib.hid hall2
  have HG2 : Hid (Gr w W2) := HGW.out.trans (HG1.out.trans hG2)
  have hn := HOK.out.1
  clear hall2 hG2 d0
  by_cases hk0 : k = 0
  · subst hk0
    obtain ⟨f0, f1⟩ := HALL2.out 0 (by omega)
    simp only [Nat.zero_mul] at f0 f1
    have hzn : (0 : Int) < (n : Int) := by omega
    go_wp2_with fail
    refine (levelOf_any (c 0) _).mono ?_
    rintro e W3 ⟨rfl, hG3⟩
    have HG3 := Lib.hid hG3
    clear hG3
    go_wp2_with fail
    go_ret
    refine ⟨⟨_, rfl, fun _ => ?_, fun h => absurd HOK.out h⟩, HG2.out.trans HG3.out⟩
    unfold St.along
    rw [← HKK.out, if_pos rfl]
  have hkn := HF.out.1
  have hkz : ((k : Int) == 0) = false := by simp; omega
  have hkz2 : (k == 0) = false := by simp; omega
  have hz1 : ((k : Int) - 1).toNat = k - 1 := by omega
  have hz3 : ¬ (k : Int) - 1 < 0 := by omega
  have hz4 : (k : Int) - 1 < (n : Int) := by omega
  have hz5 : (k : Int) ≤ 30 := by omega
  obtain ⟨f0, f1⟩ := HALL2.out (k - 1) (by omega)
  have hlb : b < W2.heap.size := World.block_lt_of_cell? _ _ f0
  have hlw : w.heap.size + 1 + 1 < W2.heap.size := World.block_lt_of_cell? _ _ e2
  have hlw1 : w.heap.size + 1 < W2.heap.size := World.block_lt_of_cell? _ _ e1
  have hlw0 : w.heap.size < W2.heap.size := World.block_lt_of_cell? _ _ e0
  by_cases hkl : k = n
  · subst hkl
    have HG3 : Hid (Gr w (W2.alloc (.cells #[.int .i64 (c (k - 1)).a, .int .i64 (c (k - 1)).b] 30))) := HG2.out.alloc _
    go_wp2_with fail
    refine (levelOf_any (c (k - 1)) _).mono ?_
    rintro e W3 ⟨rfl, hG3⟩
    have HG4 := Lib.hid hG3
    clear hG3
    go_wp2_with fail
    go_ret
    refine ⟨⟨_, rfl, fun _ => ?_, fun h => absurd HOK.out h⟩, HG3.out.trans HG4.out⟩
    unfold St.along
    rw [← HKK.out, if_neg hk0, if_pos rfl]
  have hkl2 : ((k : Int) == (n : Int)) = false := by simp; omega
  have hkl3 : (k == n) = false := by simp; omega
  have hz6 : (k : Int) < (n : Int) := by omega
  obtain ⟨g0, g1⟩ := HALL2.out k (by omega)
  obtain ⟨W3, hW3⟩ : ∃ W3, W3 = (W2.alloc (.cells #[.int .i64 (c (k - 1)).a, .int .i64 (c (k - 1)).b] 30)).alloc (.cells #[.int .i64 (c k).a, .int .i64 (c k).b] 30) := ⟨_, rfl⟩
  have hG3 : Gr W2 W3 := by rw [hW3]; exact ((Gr.refl _).alloc _).alloc _
  have HG3 : Hid (Gr w W3) := HG2.out.trans hG3
  have HW3 := Lib.hid hW3
  have m1 : W3.cell? ⟨w.heap.size + 1, 0, none⟩ = some (.int .i64 x) := (hG3.bel.cell (World.block_lt_of_cell? _ _ e1)).trans e1
  have m2 : W3.cell? ⟨w.heap.size + 1 + 1, 0, none⟩ = some (.func (.func 27) #[] #[]) := (hG3.bel.cell (World.block_lt_of_cell? _ _ e2)).trans e2
  have m3 : W3.cell? ⟨W2.heap.size, 0, none⟩ = some (.int .i64 (c (k - 1)).a) ∧ W3.cell? ⟨W2.heap.size, 1, none⟩ = some (.int .i64 (c (k - 1)).b) := by
    rw [hW3]
    exact ⟨cell_up _ (by simp only [World.cell?, blk_alloc_new]; rfl), cell_up _ (by simp only [World.cell?, blk_alloc_new]; rfl)⟩
  have m4 : W3.cell? ⟨W2.heap.size + 1, 0, none⟩ = some (.int .i64 (c k).a) ∧ W3.cell? ⟨W2.heap.size + 1, 1, none⟩ = some (.int .i64 (c k).b) := by
    rw [hW3]
    have e : W2.heap.size + 1 = (W2.alloc (.cells #[.int .i64 (c (k - 1)).a, .int .i64 (c (k - 1)).b] 30)).heap.size := by simp
    rw [e]
    exact ⟨by simp only [World.cell?, blk_alloc_new]; rfl, by simp only [World.cell?, blk_alloc_new]; rfl⟩
  have q1 := cell_grown (World.block_lt_of_cell? _ _ m1) m1
  have q2 := cell_grown (World.block_lt_of_cell? _ _ m2) m2
  have q3 := cell_grown (World.block_lt_of_cell? _ _ m3.1) m3.1
  have q4 := cell_grown (World.block_lt_of_cell? _ _ m3.2) m3.2
  have q5 := cell_grown (World.block_lt_of_cell? _ _ m4.1) m4.1
  have q6 := cell_grown (World.block_lt_of_cell? _ _ m4.2) m4.2
  have kl : ∀ m os, Calls Try.prog 27 #[prV (c (k - 1))] (Go.Sort.grow (W3.drewN m) os) fun e w'' => e = .returned (.int .i64 (c (k - 1)).b) ∧ ∃ p : GrownBy, w'' = Go.Sort.grow (W3.drewN p.n) p.os := fun m os => grown_of_gr (volumeOf_any (c (k - 1)) _)
  have kh : ∀ m os, Calls Try.prog 27 #[prV (c k)] (Go.Sort.grow (W3.drewN m) os) fun e w'' => e = .returned (.int .i64 (c k).b) ∧ ∃ p : GrownBy, w'' = Go.Sort.grow (W3.drewN p.n) p.os := fun m os => grown_of_gr (volumeOf_any (c k) _)
  have sl : ∀ m os, Calls Try.prog 28 #[prV (c (k - 1))] (Go.Sort.grow (W3.drewN m) os) fun e w'' => e = .returned (.int .i64 (c (k - 1)).a) ∧ ∃ p : GrownBy, w'' = Go.Sort.grow (W3.drewN p.n) p.os := fun m os => grown_of_gr (levelOf_any (c (k - 1)) _)
  have sh : ∀ m os, Calls Try.prog 28 #[prV (c k)] (Go.Sort.grow (W3.drewN m) os) fun e w'' => e = .returned (.int .i64 (c k).a) ∧ ∃ p : GrownBy, w'' = Go.Sort.grow (W3.drewN p.n) p.os := fun m os => grown_of_gr (levelOf_any (c k) _)
  have KL := Lib.hid kl
  have KH := Lib.hid kh
  have SL := Lib.hid sl
  have SH := Lib.hid sh
  have hx0 : (c (k - 1)).b ≤ x := by have := HF.out.2.1 (k - 1) (by omega); simpa using this
  have hx1 : x < (c k).b := by have := HF.out.2.2 k (Nat.le_refl _) (by omega); simpa using this
  have hsl : (c (k - 1)).a < (c k).a := HSR.out k (k - 1) (by omega) (by omega)
  have bl := (HOK.out.2 (k - 1) (by omega)).1
  have bh := (HOK.out.2 k (by omega)).1
  have hmb := St.mid_bounds hx0 hx1 hsl
  obtain ⟨⟨bl1, bl2⟩, bl3, bl4⟩ := bl
  obtain ⟨⟨bh1, bh2⟩, bh3, bh4⟩ := bh
  have hsd : 0 < (c k).a - (c (k - 1)).a := by omega
  have hkd : 0 < (c k).b - (c (k - 1)).b := by omega
  have hkd2 : ¬ (c k).b - (c (k - 1)).b = 0 := by omega
  have hpr : ((c k).b - (c (k - 1)).b) * ((c k).a - (c (k - 1)).a) ≤ 1000000000 * 1000000000 := Int.mul_le_mul (by omega) (by omega) (by omega) (by omega)
  obtain ⟨mb0, mb1, mb2, mb3⟩ := hmb
  have hpr2 : (x - (c (k - 1)).b) * ((c k).a - (c (k - 1)).a) ≤ 1000000000000000000 := by omega
  have hw1 : IntKind.i64.wrap (x - (c (k - 1)).b) = x - (c (k - 1)).b := wrap_id (by omega) (by omega)
  have hw2 : IntKind.i64.wrap ((c k).a - (c (k - 1)).a) = (c k).a - (c (k - 1)).a := wrap_id (by omega) (by omega)
  have hw3 : IntKind.i64.wrap ((x - (c (k - 1)).b) * ((c k).a - (c (k - 1)).a)) = (x - (c (k - 1)).b) * ((c k).a - (c (k - 1)).a) := wrap_id (by omega) (by omega)
  have hw4 : IntKind.i64.wrap ((c k).b - (c (k - 1)).b) = (c k).b - (c (k - 1)).b := wrap_id (by omega) (by omega)
  have hw5 : ((x - (c (k - 1)).b) * ((c k).a - (c (k - 1)).a)).tdiv ((c k).b - (c (k - 1)).b) = (x - (c (k - 1)).b) * ((c k).a - (c (k - 1)).a) / ((c k).b - (c (k - 1)).b) := Int.tdiv_eq_ediv_of_nonneg mb0
  have hw6 : IntKind.i64.wrap ((x - (c (k - 1)).b) * ((c k).a - (c (k - 1)).a) / ((c k).b - (c (k - 1)).b)) = (x - (c (k - 1)).b) * ((c k).a - (c (k - 1)).a) / ((c k).b - (c (k - 1)).b) := wrap_id (by omega) (by omega)
  have hkd3 : ((c k).b - (c (k - 1)).b == 0) = false := by simp; omega
  clear mb1 hpr kl kh sl sh m1 m2 hG3
  have M3 := Lib.hid m3
  clear m3 m4 hW3
  go_wp2_with fail
  rw [← HW3.out]
  have hmix : Try.prog.follows Departure.mixedOrders = true := by kernel_rfl
  go_quiet_grown (first | (go_at_call 27; first | exact KL.out _ _ | exact KH.out _ _) | (go_at_call 28; first | exact SL.out _ _ | exact SH.out _ _))
  have HG4 : Hid (Gr w (Go.Sort.grow (W3.drewN nq) osq)) := HG3.out.trans (gr_of _ _)
  have r3 := cell_grown (World.block_lt_of_cell? _ _ M3.out.1) M3.out.1 nq osq
  have r4 := cell_grown (World.block_lt_of_cell? _ _ M3.out.2) M3.out.2 nq osq
  clear q1 q2 q3 q4 q5 q6
  generalize Go.Sort.grow (W3.drewN nq) osq = W4 at *
  go_wp2_with fail
  refine (levelOf_any (c (k - 1)) _).mono ?_
  rintro e W5 ⟨rfl, hG5⟩
  have HG5 := Lib.hid hG5
  clear hG5
  go_wp2_with fail
  go_ret
  refine ⟨⟨_, rfl, fun _ => ?_, fun h => absurd HOK.out h⟩, HG4.out.trans HG5.out⟩
  unfold St.along
  rw [← HKK.out, if_neg hk0, if_neg hkl]

set_option maxRecDepth 100000 in
set_option maxHeartbeats 1000000 in
theorem implLevel_any (a : Option Addr) (n cap : Nat) (c : Nat → St.Pr) (x : Int) (w : World) (h : PrsAt a n c w) :
    Calls Try.prog 9 #[.slice a n cap, .int .i64 x] w fun e w' => (∃ z, e = .returned (.int .i64 z) ∧ (St.CurveOk n c → z = St.along n (fun i => (c i).b) (fun i => (c i).a) x) ∧ (¬ St.CurveOk n c → z = 0)) ∧ Gr w w' := by
  have H := Lib.hid h
  clear h
  go_enter Try.func9, Try.ntmps9
  go_wp2_with fail
  refine (along_level a n cap c x _ H.out).mono ?_
  rintro e w1 ⟨⟨z, rfl, h1, h2⟩, hG⟩
  have K1 := Lib.hid h1
  have K2 := Lib.hid h2
  have HG := Lib.hid hG
  clear h1 h2 hG
  go_wp2_with fail
  go_ret
  exact ⟨⟨z, rfl, K1.out, K2.out⟩, HG.out⟩
--@if impl.VolumeAt

set_option maxRecDepth 100000 in
set_option maxHeartbeats 2000000 in
theorem cl_volume (bk bc ba blk n cap : Nat) (c : Nat → St.Pr) (x : Int) (i : Nat) (W : World) (hi : i < n) (hk : W.cell? ⟨bk, 0, none⟩ = some (.func (.func 28) #[] #[])) (hc : W.cell? ⟨bc, 0, none⟩ = some (.slice (some ⟨blk, 0, none⟩) n cap)) (ha : W.cell? ⟨ba, 0, none⟩ = some (.int .i64 x)) (hp : PrCells blk (i * 2) (c i) W) :
    Calls Try.prog 40 (#[.int .i64 i] ++ #[.pointer (some ⟨bk, 0, none⟩), .pointer (some ⟨bc, 0, none⟩), .pointer (some ⟨ba, 0, none⟩)]) W fun e w' => e = .returned (.bool (decide (x < (c i).a))) ∧ Gr W w' := by
  have q0 := cell_grown (w := W) (World.block_lt_of_cell? _ _ hk) hk
  have q1 := cell_grown (w := W) (World.block_lt_of_cell? _ _ hc) hc
  have q2 := cell_grown (w := W) (World.block_lt_of_cell? _ _ ha) ha
  have q3 := cell_grown (w := W) (World.block_lt_of_cell? _ _ hp.1) hp.1
  have q4 := cell_grown (w := W) (World.block_lt_of_cell? _ _ hp.2) hp.2
  have hiz : (i : Int) < (n : Int) := by omega
  have kn : ∀ m os, Calls Try.prog 28 #[prV (c i)] (Go.Sort.grow (W.drewN m) os) fun e w'' => e = .returned (.int .i64 (c i).a) ∧ ∃ p : GrownBy, w'' = Go.Sort.grow (W.drewN p.n) p.os := fun m os => grown_of_gr (levelOf_any (c i) _)
  have KNN := Lib.hid kn
  clear hk hc ha hp kn
  go_enter Try.func40, Try.ntmps40
  go_wp2_with fail
  have hmix : Try.prog.follows Departure.mixedOrders = true := by kernel_rfl
  go_quiet_grown (first | (go_at_call 28; exact KNN.out _ _))
  go_wp2_with fail
  go_ret
  exact ⟨rfl, gr_of _ _⟩
set_option maxRecDepth 100000 in
set_option maxHeartbeats 4000000 in
theorem along_volume (a : Option Addr) (n cap : Nat) (c : Nat → St.Pr) (x : Int) (w : World) (h : PrsAt a n c w) :
    Calls Try.prog 26 #[.slice a n cap, .int .i64 x, .func (.func 28) #[] #[], .func (.func 27) #[] #[]] w fun e w' => (∃ z, e = .returned (.int .i64 z) ∧ (St.CurveOk n c → z = St.along n (fun i => (c i).a) (fun i => (c i).b) x) ∧ (¬ St.CurveOk n c → z = 0)) ∧ Gr w w' := by
  obtain ⟨b1, h1⟩ := bool_of (St.CurveOk n c)
  have K1 := Lib.hid h1
  obtain ⟨W, hW⟩ : ∃ W, W = ((w.alloc (.cells #[.slice a n cap] 23)).alloc (.cells #[.int .i64 x] 2)).alloc (.cells #[.func (.func 28) #[] #[]] 57) := ⟨_, rfl⟩
  have hGW : Gr w W := by rw [hW]; exact (((Gr.refl _).alloc _).alloc _).alloc _
  have c0 : W.cell? ⟨w.heap.size, 0, none⟩ = some (.slice a n cap) := by rw [hW]; exact cell_up _ (cell_up _ (box1 w _ _))
  have c1 : W.cell? ⟨w.heap.size + 1, 0, none⟩ = some (.int .i64 x) := by
    rw [hW]; refine cell_up _ ?_
    have := box1 (w.alloc (.cells #[.slice a n cap] 23)) (.int .i64 x) 2
    rwa [World.size_alloc] at this
  have c2 : W.cell? ⟨w.heap.size + 1 + 1, 0, none⟩ = some (.func (.func 28) #[] #[]) := by
    rw [hW]
    have := box1 ((w.alloc (.cells #[.slice a n cap] 23)).alloc (.cells #[.int .i64 x] 2)) (.func (.func 28) #[] #[]) 57
    rwa [World.size_alloc, World.size_alloc] at this
  have HGW := Lib.hid hGW
  have HW := Lib.hid hW
  have H : Hid (PrsAt a n c W) := h.below hGW.bel
  have C0 := Lib.hid c0
  have C1 := Lib.hid c1
  have C2 := Lib.hid c2
  have eg : ∀ args w, (callFunc 40 args).run Try.prog w = .ok (.enter 40 args) w := enters_of Try.func40 (by kernel_rfl) rfl
  have EG := Lib.hid eg
  have hmf : ∀ (fn : Fn) (first cap : Array Value) (w : World), (Instr.makeFunc fn first cap).run Try.prog w = .ok (.func fn first cap) w := fun _ _ _ _ => rfl
  clear hGW h1 h c0 c1 c2 hW eg
  go_enter Try.func26, Try.ntmps26
  go_wp2_with fail
  rw [← HW.out]
  refine ((curve_any a n cap c _ H.out).mono fun e w' ⟨g1, g2⟩ => ⟨g1.eq K1.out, g2⟩ : Calls Try.prog 38 #[.slice a n cap] W fun e w' => e = .returned (.bool b1) ∧ Gr W w').mono ?_
  rintro e W1 ⟨rfl, hG1⟩
  cases b1 with
  | false =>
    have HG1 := Lib.hid hG1
    clear hG1
    go_wp2_with fail
    go_ret
    have hno : ¬ St.CurveOk n c := fun h => by have := K1.out.2 h; cases this
    exact ⟨⟨0, rfl, fun h => absurd h hno, fun _ => rfl⟩, HGW.out.trans HG1.out⟩
  | true =>
  have hok : St.CurveOk n c := by have := K1.out; simpa using this
  have HOK := Lib.hid hok
  have hkr : St.RiseTo n (fun i => (c i).a) := rise_a hok
  have hsr : St.RiseTo n (fun i => (c i).b) := rise_b hok
  obtain ⟨b, hab, hall⟩ := (H.out.below hG1.bel).all (by have := hok.1; omega)
  subst hab
  have d0 : W1.cell? ⟨w.heap.size, 0, none⟩ = some (.slice (some ⟨b, 0, none⟩) n cap) := (hG1.bel.cell (World.block_lt_of_cell? _ _ C0.out)).trans C0.out
  have d1 : W1.cell? ⟨w.heap.size + 1, 0, none⟩ = some (.int .i64 x) := (hG1.bel.cell (World.block_lt_of_cell? _ _ C1.out)).trans C1.out
  have d2 : W1.cell? ⟨w.heap.size + 1 + 1, 0, none⟩ = some (.func (.func 28) #[] #[]) := (hG1.bel.cell (World.block_lt_of_cell? _ _ C2.out)).trans C2.out
  have hS := Any.sort_Search Try.searchL 40 #[.pointer (some ⟨w.heap.size + 1 + 1, 0, none⟩), .pointer (some ⟨w.heap.size, 0, none⟩), .pointer (some ⟨w.heap.size + 1, 0, none⟩)] n (fun i => decide (x < (c i).a)) W1 EG.out (by have := hok.1; omega)
    (fun m os i hi => (cl_volume (w.heap.size + 1 + 1) w.heap.size (w.heap.size + 1) b n cap c x i _ hi (cell_grown (World.block_lt_of_cell? _ _ d2) d2 m os) (cell_grown (World.block_lt_of_cell? _ _ d0) d0 m os) (cell_grown (World.block_lt_of_cell? _ _ d1) d1 m os) ((hall i hi).block ((gr_of m os).bel.block _ (hall i hi).lt))).mono
      fun _ _ ⟨he, hq⟩ => ⟨he, hq.eq⟩) (fun p q hpq hq hp => by
        by_cases e : p = q
        · subst e; exact hp
        · have := hkr q p (by omega) hq; simp at hp this ⊢; omega)
  change Calls Try.prog 39 _ _ _ at hS
  have HS := Lib.hid hS
  have HALL := Lib.hid hall
  have HG1 := Lib.hid hG1
  have D0 := Lib.hid d0
  have D1 := Lib.hid d1
  have D2 := Lib.hid d2
  have hf := St.cnt_facts (fun i => decide (x < (c i).a)) n (fun p q hpq hq hp => by
        by_cases e : p = q
        · subst e; exact hp
        · have := hkr q p (by omega) hq; simp at hp this ⊢; omega)
  clear hS d1 d2 hG1 hall hmf
  have hmf : ∀ (fn : Fn) (first cap : Array Value) (w : World), (Instr.makeFunc fn first cap).run Try.prog w = .ok (.func fn first cap) w := fun _ _ _ _ => rfl
  clear hok
  have HKR := Lib.hid hkr
  have HSR := Lib.hid hsr
  clear hkr hsr
  obtain ⟨k, hk⟩ : ∃ k, k = St.cnt n (fun i => decide (x < (c i).a)) := ⟨_, rfl⟩
  rw [← hk] at hf
  have HF := Lib.hid hf
  have HKK := Lib.hid hk
  clear hf hk
  go_wp2_with fail
  refine HS.out.mono ?_
  rintro e W2 ⟨rfl, q, os, hW2⟩
  have hG2 : Gr W1 W2 := by rw [hW2]; exact gr_of q os
  have hke : ((List.range n).countP (fun i => !decide (x < (c i).a))) = k := HKK.out.symm
  rw [hke]
  clear hW2 hke hmf
  have e0 : W2.cell? ⟨w.heap.size, 0, none⟩ = some (.slice (some ⟨b, 0, none⟩) n cap) := (hG2.bel.cell (World.block_lt_of_cell? _ _ D0.out)).trans D0.out
  have e1 : W2.cell? ⟨w.heap.size + 1, 0, none⟩ = some (.int .i64 x) := (hG2.bel.cell (World.block_lt_of_cell? _ _ D1.out)).trans D1.out
  have e2 : W2.cell? ⟨w.heap.size + 1 + 1, 0, none⟩ = some (.func (.func 28) #[] #[]) := (hG2.bel.cell (World.block_lt_of_cell? _ _ D2.out)).trans D2.out
  have hall2 : ∀ i, i < n → PrCells b (i * 2) (c i) W2 := fun i hi => (HALL.out i hi).block (hG2.bel.block _ (HALL.out i hi).lt)
  have HALL2 := Lib.hid hall2
  have HG2 : Hid (Gr w W2) := HGW.out.trans (HG1.out.trans hG2)
  have hn := HOK.out.1
  clear hall2 hG2 d0
  by_cases hk0 : k = 0
  · subst hk0
    obtain ⟨f0, f1⟩ := HALL2.out 0 (by omega)
    simp only [Nat.zero_mul] at f0 f1
    have hzn : (0 : Int) < (n : Int) := by omega
    go_wp2_with fail
    refine (volumeOf_any (c 0) _).mono ?_
    rintro e W3 ⟨rfl, hG3⟩
    have HG3 := Lib.hid hG3
    clear hG3
    go_wp2_with fail
    go_ret
    refine ⟨⟨_, rfl, fun _ => ?_, fun h => absurd HOK.out h⟩, HG2.out.trans HG3.out⟩
    unfold St.along
    rw [← HKK.out, if_pos rfl]
  have hkn := HF.out.1
  have hkz : ((k : Int) == 0) = false := by simp; omega
  have hkz2 : (k == 0) = false := by simp; omega
  have hz1 : ((k : Int) - 1).toNat = k - 1 := by omega
  have hz3 : ¬ (k : Int) - 1 < 0 := by omega
  have hz4 : (k : Int) - 1 < (n : Int) := by omega
  have hz5 : (k : Int) ≤ 30 := by omega
  obtain ⟨f0, f1⟩ := HALL2.out (k - 1) (by omega)
  have hlb : b < W2.heap.size := World.block_lt_of_cell? _ _ f0
  have hlw : w.heap.size + 1 + 1 < W2.heap.size := World.block_lt_of_cell? _ _ e2
  have hlw1 : w.heap.size + 1 < W2.heap.size := World.block_lt_of_cell? _ _ e1
  have hlw0 : w.heap.size < W2.heap.size := World.block_lt_of_cell? _ _ e0
  by_cases hkl : k = n
  · subst hkl
    have HG3 : Hid (Gr w (W2.alloc (.cells #[.int .i64 (c (k - 1)).a, .int .i64 (c (k - 1)).b] 30))) := HG2.out.alloc _
    go_wp2_with fail
    refine (volumeOf_any (c (k - 1)) _).mono ?_
    rintro e W3 ⟨rfl, hG3⟩
    have HG4 := Lib.hid hG3
    clear hG3
    go_wp2_with fail
    go_ret
    refine ⟨⟨_, rfl, fun _ => ?_, fun h => absurd HOK.out h⟩, HG3.out.trans HG4.out⟩
    unfold St.along
    rw [← HKK.out, if_neg hk0, if_pos rfl]
  have hkl2 : ((k : Int) == (n : Int)) = false := by simp; omega
  have hkl3 : (k == n) = false := by simp; omega
  have hz6 : (k : Int) < (n : Int) := by omega
  obtain ⟨g0, g1⟩ := HALL2.out k (by omega)
  obtain ⟨W3, hW3⟩ : ∃ W3, W3 = (W2.alloc (.cells #[.int .i64 (c (k - 1)).a, .int .i64 (c (k - 1)).b] 30)).alloc (.cells #[.int .i64 (c k).a, .int .i64 (c k).b] 30) := ⟨_, rfl⟩
  have hG3 : Gr W2 W3 := by rw [hW3]; exact ((Gr.refl _).alloc _).alloc _
  have HG3 : Hid (Gr w W3) := HG2.out.trans hG3
  have HW3 := Lib.hid hW3
  have m1 : W3.cell? ⟨w.heap.size + 1, 0, none⟩ = some (.int .i64 x) := (hG3.bel.cell (World.block_lt_of_cell? _ _ e1)).trans e1
  have m2 : W3.cell? ⟨w.heap.size + 1 + 1, 0, none⟩ = some (.func (.func 28) #[] #[]) := (hG3.bel.cell (World.block_lt_of_cell? _ _ e2)).trans e2
  have m3 : W3.cell? ⟨W2.heap.size, 0, none⟩ = some (.int .i64 (c (k - 1)).a) ∧ W3.cell? ⟨W2.heap.size, 1, none⟩ = some (.int .i64 (c (k - 1)).b) := by
    rw [hW3]
    exact ⟨cell_up _ (by simp only [World.cell?, blk_alloc_new]; rfl), cell_up _ (by simp only [World.cell?, blk_alloc_new]; rfl)⟩
  have m4 : W3.cell? ⟨W2.heap.size + 1, 0, none⟩ = some (.int .i64 (c k).a) ∧ W3.cell? ⟨W2.heap.size + 1, 1, none⟩ = some (.int .i64 (c k).b) := by
    rw [hW3]
    have e : W2.heap.size + 1 = (W2.alloc (.cells #[.int .i64 (c (k - 1)).a, .int .i64 (c (k - 1)).b] 30)).heap.size := by simp
    rw [e]
    exact ⟨by simp only [World.cell?, blk_alloc_new]; rfl, by simp only [World.cell?, blk_alloc_new]; rfl⟩
  have q1 := cell_grown (World.block_lt_of_cell? _ _ m1) m1
  have q2 := cell_grown (World.block_lt_of_cell? _ _ m2) m2
  have q3 := cell_grown (World.block_lt_of_cell? _ _ m3.1) m3.1
  have q4 := cell_grown (World.block_lt_of_cell? _ _ m3.2) m3.2
  have q5 := cell_grown (World.block_lt_of_cell? _ _ m4.1) m4.1
  have q6 := cell_grown (World.block_lt_of_cell? _ _ m4.2) m4.2
  have kl : ∀ m os, Calls Try.prog 28 #[prV (c (k - 1))] (Go.Sort.grow (W3.drewN m) os) fun e w'' => e = .returned (.int .i64 (c (k - 1)).a) ∧ ∃ p : GrownBy, w'' = Go.Sort.grow (W3.drewN p.n) p.os := fun m os => grown_of_gr (levelOf_any (c (k - 1)) _)
  have kh : ∀ m os, Calls Try.prog 28 #[prV (c k)] (Go.Sort.grow (W3.drewN m) os) fun e w'' => e = .returned (.int .i64 (c k).a) ∧ ∃ p : GrownBy, w'' = Go.Sort.grow (W3.drewN p.n) p.os := fun m os => grown_of_gr (levelOf_any (c k) _)
  have sl : ∀ m os, Calls Try.prog 27 #[prV (c (k - 1))] (Go.Sort.grow (W3.drewN m) os) fun e w'' => e = .returned (.int .i64 (c (k - 1)).b) ∧ ∃ p : GrownBy, w'' = Go.Sort.grow (W3.drewN p.n) p.os := fun m os => grown_of_gr (volumeOf_any (c (k - 1)) _)
  have sh : ∀ m os, Calls Try.prog 27 #[prV (c k)] (Go.Sort.grow (W3.drewN m) os) fun e w'' => e = .returned (.int .i64 (c k).b) ∧ ∃ p : GrownBy, w'' = Go.Sort.grow (W3.drewN p.n) p.os := fun m os => grown_of_gr (volumeOf_any (c k) _)
  have KL := Lib.hid kl
  have KH := Lib.hid kh
  have SL := Lib.hid sl
  have SH := Lib.hid sh
  have hx0 : (c (k - 1)).a ≤ x := by have := HF.out.2.1 (k - 1) (by omega); simpa using this
  have hx1 : x < (c k).a := by have := HF.out.2.2 k (Nat.le_refl _) (by omega); simpa using this
  have hsl : (c (k - 1)).b < (c k).b := HSR.out k (k - 1) (by omega) (by omega)
  have bl := (HOK.out.2 (k - 1) (by omega)).1
  have bh := (HOK.out.2 k (by omega)).1
  have hmb := St.mid_bounds hx0 hx1 hsl
  obtain ⟨⟨bl1, bl2⟩, bl3, bl4⟩ := bl
  obtain ⟨⟨bh1, bh2⟩, bh3, bh4⟩ := bh
  have hsd : 0 < (c k).b - (c (k - 1)).b := by omega
  have hkd : 0 < (c k).a - (c (k - 1)).a := by omega
  have hkd2 : ¬ (c k).a - (c (k - 1)).a = 0 := by omega
  have hpr : ((c k).a - (c (k - 1)).a) * ((c k).b - (c (k - 1)).b) ≤ 1000000000 * 1000000000 := Int.mul_le_mul (by omega) (by omega) (by omega) (by omega)
  obtain ⟨mb0, mb1, mb2, mb3⟩ := hmb
  have hpr2 : (x - (c (k - 1)).a) * ((c k).b - (c (k - 1)).b) ≤ 1000000000000000000 := by omega
  have hw1 : IntKind.i64.wrap (x - (c (k - 1)).a) = x - (c (k - 1)).a := wrap_id (by omega) (by omega)
  have hw2 : IntKind.i64.wrap ((c k).b - (c (k - 1)).b) = (c k).b - (c (k - 1)).b := wrap_id (by omega) (by omega)
  have hw3 : IntKind.i64.wrap ((x - (c (k - 1)).a) * ((c k).b - (c (k - 1)).b)) = (x - (c (k - 1)).a) * ((c k).b - (c (k - 1)).b) := wrap_id (by omega) (by omega)
  have hw4 : IntKind.i64.wrap ((c k).a - (c (k - 1)).a) = (c k).a - (c (k - 1)).a := wrap_id (by omega) (by omega)
  have hw5 : ((x - (c (k - 1)).a) * ((c k).b - (c (k - 1)).b)).tdiv ((c k).a - (c (k - 1)).a) = (x - (c (k - 1)).a) * ((c k).b - (c (k - 1)).b) / ((c k).a - (c (k - 1)).a) := Int.tdiv_eq_ediv_of_nonneg mb0
  have hw6 : IntKind.i64.wrap ((x - (c (k - 1)).a) * ((c k).b - (c (k - 1)).b) / ((c k).a - (c (k - 1)).a)) = (x - (c (k - 1)).a) * ((c k).b - (c (k - 1)).b) / ((c k).a - (c (k - 1)).a) := wrap_id (by omega) (by omega)
  have hkd3 : ((c k).a - (c (k - 1)).a == 0) = false := by simp; omega
  clear mb1 hpr kl kh sl sh m1 m2 hG3
  have M3 := Lib.hid m3
  clear m3 m4 hW3
  go_wp2_with fail
  rw [← HW3.out]
  have hmix : Try.prog.follows Departure.mixedOrders = true := by kernel_rfl
  go_quiet_grown (first | (go_at_call 28; first | exact KL.out _ _ | exact KH.out _ _) | (go_at_call 27; first | exact SL.out _ _ | exact SH.out _ _))
  have HG4 : Hid (Gr w (Go.Sort.grow (W3.drewN nq) osq)) := HG3.out.trans (gr_of _ _)
  have r3 := cell_grown (World.block_lt_of_cell? _ _ M3.out.1) M3.out.1 nq osq
  have r4 := cell_grown (World.block_lt_of_cell? _ _ M3.out.2) M3.out.2 nq osq
  clear q1 q2 q3 q4 q5 q6
  generalize Go.Sort.grow (W3.drewN nq) osq = W4 at *
  go_wp2_with fail
  refine (volumeOf_any (c (k - 1)) _).mono ?_
  rintro e W5 ⟨rfl, hG5⟩
  have HG5 := Lib.hid hG5
  clear hG5
  go_wp2_with fail
  go_ret
  refine ⟨⟨_, rfl, fun _ => ?_, fun h => absurd HOK.out h⟩, HG4.out.trans HG5.out⟩
  unfold St.along
  rw [← HKK.out, if_neg hk0, if_neg hkl]

set_option maxRecDepth 100000 in
set_option maxHeartbeats 1000000 in
theorem implVolume_any (a : Option Addr) (n cap : Nat) (c : Nat → St.Pr) (x : Int) (w : World) (h : PrsAt a n c w) :
    Calls Try.prog 10 #[.slice a n cap, .int .i64 x] w fun e w' => (∃ z, e = .returned (.int .i64 z) ∧ (St.CurveOk n c → z = St.along n (fun i => (c i).a) (fun i => (c i).b) x) ∧ (¬ St.CurveOk n c → z = 0)) ∧ Gr w w' := by
  have H := Lib.hid h
  clear h
  go_enter Try.func10, Try.ntmps10
  go_wp2_with fail
  refine (along_volume a n cap c x _ H.out).mono ?_
  rintro e w1 ⟨⟨z, rfl, h1, h2⟩, hG⟩
  have K1 := Lib.hid h1
  have K2 := Lib.hid h2
  have HG := Lib.hid hG
  clear h1 h2 hG
  go_wp2_with fail
  go_ret
  exact ⟨⟨z, rfl, K1.out, K2.out⟩, HG.out⟩
--@end
end Go.Proofs.Ytoeibcmmpbkbpaa
