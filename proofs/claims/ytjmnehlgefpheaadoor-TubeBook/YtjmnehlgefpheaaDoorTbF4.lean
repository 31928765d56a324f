/-
  The program's fillingOf: the parcels of a tube, from the last to the first.
-/
import Derived.Test.YtjmnehlgefpheaaDoorTbF3
import Derived.RangeFuncNested
import Derived.RangeFuncBound
import Derived.RangeFuncCalls
import Derived.RangeFuncLeaves
import Derived.Shelf.Abstract
import Derived.Shelf.RegionOpen
import Derived.WalkKit
import Derived.OwnWalkIn
import Derived.TacticsInMore
import Derived.LoopNIn
import Derived.LoopIn
import Derived.RegionIn
namespace Go.Proofs.YtjmnehlgefpheaaDoor
open Go.RowKit Go.Shelf Go.Deep

attribute [local go_sem] Oper.semAt_some
/-- The places that have come when k rounds are over. -/
def dn (n k : Nat) : List Nat := (List.range k).map (fun j => n - 1 - j)
theorem dn_succ (n k : Nat) : dn n (k + 1) = dn n k ++ [n - 1 - k] := by simp [dn, List.range_succ]
theorem dn_length (n k : Nat) : (dn n k).length = k := by simp [dn]
/-- Parcels that can be read. -/
def PcAt (g n : Nat) (f : Nat → Tb.Pc) (W : World) : Prop := ∀ i, i < n → W.cell? ⟨g, i * 3, none⟩ = some (.int .i64 (f i).w) ∧ W.cell? ⟨g, i * 3 + 1, none⟩ = some (.int .i64 (f i).g) ∧ W.cell? ⟨g, i * 3 + 2, none⟩ = some (.int .i64 (f i).b)
theorem PcAt.below {g n : Nat} {f : Nat → Tb.Pc} {W W' : World} (h : PcAt g n f W) (hb : Below W.heap.size W W') : PcAt g n f W' := fun i hi => by
  obtain ⟨c0, c1, c2⟩ := h i hi
  exact ⟨(hb.cell (World.block_lt_of_cell? _ _ c0)).trans c0, (hb.cell (World.block_lt_of_cell? _ _ c1)).trans c1, (hb.cell (World.block_lt_of_cell? _ _ c2)).trans c2⟩
/-- What the loop's body keeps for the iterator. -/
def Kept (n₀ Bs : Nat) (W W' : World) : Prop := Below n₀ W W' ∧ W'.heap[Bs]? = W.heap[Bs]?
set_option maxRecDepth 100000 in
set_option maxHeartbeats 2000000 in
theorem back_in (m l Bs n₀ g len cap : Nat) (f : Nat → Tb.Pc) (hg : g < n₀) (hlen : len ≤ 1048576) (J Jx : List Nat → World → Prop)
    (hY : ∀ (pre : List Nat) (x : Nat) (W : World), J pre W → pre.length < len → YieldAt Fence.wide (m - 1) Tryd.prog l #[.int .i64 (x : Int), pcV (f x)] W fun e W' =>
      (e = .returned (.bool true) ∧ J (pre ++ [x]) W' ∧ Kept n₀ Bs W W') ∨ (e = .returned (.bool false) ∧ Jx (pre ++ [x]) W'))
    (W : World) (hBs : Boxed W Bs 23 (.slice (some ⟨g, 0, none⟩) len cap)) (hc : PcAt g len f W) (h0 : J [] W) :
    CallsIn Fence.wide m Tryd.prog 59 #[.func (.yield l) #[] #[], .pointer (some ⟨Bs, 0, none⟩)] W fun e W' => (∃ v, e = .returned v) ∧
      ((∃ ys, ys = dn len len ∧ J ys W') ∨ (∃ pre, True ∧ Jx pre W')) := by
  have HC := Lib.hid hc
  have HB := Lib.hid hBs
  have HG := Lib.hid hg
  have hb0 := hBs.cell
  clear hc hBs hg
  refine callsIn_of_wp Tryd.func59 rfl trivial ?_ rfl
  simp only [Tryd.ntmps59, List.size_toArray, List.length_cons, List.length_nil, Nat.reduceAdd, Nat.reduceSub, Array.replicate_succ, Array.replicate_zero, List.push_toArray, List.append_toArray, List.nil_append, List.cons_append]
  gi_wp2
  clear hb0
  gi_loopw [3] (fun i wr => ∃ k : Nat, k ≤ len ∧ i = .int .i64 ((len : Int) - 1 - k) ∧ J (dn len k) wr ∧ Kept n₀ Bs W wr)
    (fun i _ => (intOf i + 1).toNat)
  case atStart => exact ⟨0, Nat.zero_le _, by go_num, h0, Below.refl _ _, rfl⟩
  case round =>
    obtain ⟨k, hk, rfl, hJs, hnx⟩ := hrel
    by_cases hlt : k < len
    · obtain ⟨fn, tmps, assign, body, hy, hR⟩ := hY _ (len - 1 - k) wr hJs (by rw [dn_length]; exact hlt)
      have e1 : (len : Int) - 1 - k = ((len - 1 - k : Nat) : Int) := by omega
      rw [e1]
      have hb1 : wr.cell? ⟨Bs, 0, none⟩ = some (.slice (some ⟨g, 0, none⟩) len cap) := (show Boxed wr Bs _ _ from hnx.2.trans HB.out).cell
      obtain ⟨c0, c1, c2⟩ : wr.cell? ⟨g, (len - 1 - k) * 3, none⟩ = some (.int .i64 (f (len - 1 - k)).w) ∧ wr.cell? ⟨g, (len - 1 - k) * 3 + 1, none⟩ = some (.int .i64 (f (len - 1 - k)).g) ∧ wr.cell? ⟨g, (len - 1 - k) * 3 + 2, none⟩ = some (.int .i64 (f (len - 1 - k)).b) := by
        have h := HC.out (len - 1 - k) (by omega)
        exact ⟨(hnx.1.cell HG.out).trans h.1, (hnx.1.cell HG.out).trans h.2.1, (hnx.1.cell HG.out).trans h.2.2⟩
      have hi : len - 1 - k < len := by omega
      have HE : Hid (dn len (k + 1) = dn len k ++ [len - 1 - k]) := dn_succ len k
      have HI : Hid ((len - 1 - k : Nat) + k + 1 = len) := by show _ = _; omega
      generalize len - 1 - k = i at *
      have hi0 : (0 : Int) ≤ (i : Int) := by omega
      have hiz : (i : Int) < (len : Int) := by omega
      clear e1
      gi_wp2
      refine ⟨fun h => (by cases h), hR.mono ?_⟩
      rintro e W3 (⟨rfl, hJ3, hk3⟩ | ⟨rfl, hJx3⟩)
      · gi_wp2
        go_roundw
        case rel => exact ⟨k + 1, by omega, by have := HI.out; go_num, by rw [HE.out]; exact hJ3, hnx.1.trans hk3.1, hk3.2.trans hnx.2⟩
        case measure => simp [intOf]
      · gi_wp2
        refine bodyPost_ret (results_none rfl _ _ _) rfl ?_
        exact ⟨⟨_, rfl⟩, .inr ⟨_, trivial, hJx3⟩⟩
    · obtain rfl : k = len := by omega
      have e1 : (k : Int) - 1 - k = -1 := by omega
      rw [e1]
      gi_wp2
      go_end0
      exact ⟨⟨_, rfl⟩, .inl ⟨_, rfl, hJs⟩⟩
theorem back_stops (m Bs n₀ g len cap : Nat) (f : Nat → Tb.Pc) (hg : g < n₀) (hlen : len ≤ 1048576) (w : World) (hBs : Boxed w Bs 23 (.slice (some ⟨g, 0, none⟩) len cap)) (hc : PcAt g len f w) :
    SeqStopsK Fence.wide m Tryd.prog 59 #[.pointer (some ⟨Bs, 0, none⟩)] (fun x : Nat => #[Value.int .i64 (x : Int), pcV (f x)]) (Kept n₀ Bs) (fun ys => ys = dn len len) (fun _ => True) len w := fun l J Jx W hW _ _ hY h0 =>
  back_in m l Bs n₀ g len cap f hg hlen J Jx hY W ((hW.block Bs hBs.lt).trans hBs) (hc.below hW) h0
theorem backward_any (a : Option Addr) (n cap : Nat) (w : World) :
    Calls Tryd.prog 50 #[.slice a n cap] w fun e w' => e = .returned (.func (.func 59) #[] #[.pointer (some ⟨w.heap.size, 0, none⟩)]) ∧ w' = w.alloc (.cells #[.slice a n cap] 23) := by
  go_enter Tryd.func50, Tryd.ntmps50
  go_wp2
  go_ret
  exact ⟨rfl, rfl⟩
/-- What stands between two rounds. -/
def FoS (s : Nat) (f : Nat → Tb.Pc) (pre : List Nat) (W : World) : Prop := ∃ G, Que s (s + 1) G (pre.map f) W ∧ Boxed W (s + 1 + 1) 81 (.pointer (some ⟨s + 1, 0, none⟩))
theorem row_kept {X Y : World} {row : Option Nat} {g : Nat} {t : TypeId} {m : Nat} {F : Nat → Value} (h : X.rowIs g t m F) (hg : X.grownBy Y row) (hr : ∀ r, row = some r → ∃ o : Obj, X.heap[r]? = some o ∧ o.isCells = false) : Y.heap[g]? = X.heap[g]? := by
  obtain ⟨cur, hb, _⟩ := h
  refine hg.block g (Array.getElem?_eq_some_iff.1 hb).1 (fun e => ?_)
  obtain ⟨o, ho, hc⟩ := hr g e.symm
  rw [hb] at ho
  cases ho
  cases hc
theorem Que.row {B h : Nat} {G : Nat → Nat} {Q : List Tb.Pc} {W : World} (q : Que B h G Q W) {k : Nat} (hk : inQ h G Q.length k) : ∃ t m F, W.rowIs k t m F := by
  rcases hk with rfl | ⟨j, hj, rfl⟩
  · obtain ⟨bg, h1, _⟩ := q.fill
    exact ⟨_, _, _, h1⟩
  · exact ⟨_, _, _, q.node j hj⟩
theorem box_ne {W : World} {B g m : Nat} {t t' : TypeId} {v : Value} {F : Nat → Value} (hb : Boxed W B t v) (hr : W.rowIs g t' m F) (hm : m ≠ 1) : g ≠ B := by
  intro e
  subst e
  obtain ⟨cur, h1, h2, _⟩ := hr
  have hb' : W.heap[g]? = some (.cells #[v] t (0, 0)) := hb
  rw [h1] at hb'
  cases hb'
  simp at h2
  omega
theorem fos_own (s : Nat) (f : Nat → Tb.Pc) : Own (FoS s f) := fun pre X Y row hs hg hr => by
  obtain ⟨G, hq, hb⟩ := hs
  refine ⟨G, hq.same (fun k hk _ => ?_), boxed_own (s + 1 + 1) _ (fun _ : List Nat => .pointer (some ⟨s + 1, 0, none⟩)) pre X Y row hb hg hr⟩
  obtain ⟨t, m, F, h⟩ := hq.row hk
  exact row_kept h hg hr
theorem FoS.block {s : Nat} {f : Nat → Tb.Pc} {pre : List Nat} {W W' : World} (h : FoS s f pre W) (hb : ∀ k, k < W.heap.size → W'.heap[k]? = W.heap[k]?) : FoS s f pre W' := by
  obtain ⟨G, hq, hx⟩ := h
  exact ⟨G, hq.same (fun k _ hk => hb k hk), (hb _ hx.lt).trans hx⟩
/-- What a change of a filling alone keeps. -/
theorem Que.keeps {B h : Nat} {G : Nat → Nat} {Q : List Tb.Pc} {W W' : World} (q : Que B h G Q W) (ho : OnlyP (inQ h G Q.length) W W') : KeepsOthers W W' := ⟨ho.size, fun k o hk hc => by
  have hl := (Array.getElem?_eq_some_iff.1 hk).1
  refine (ho.block k hl (fun hi => ?_)).trans hk
  obtain ⟨t, m, F, cur, hb, _⟩ := q.row hi
  rw [hb] at hk
  cases hk
  cases hc⟩
theorem cells_own {β : Type} (B : Nat) (t : TypeId) (cs : β → Array Value) : Own (fun s W => W.heap[B]? = some (.cells (cs s) t (0, 0))) := fun s X Y row hs hg hrow =>
  (hg.block B (Array.getElem?_eq_some_iff.1 hs).1 (fun e' => by obtain ⟨o, ho, hc⟩ := hrow B e'.symm; rw [show X.heap[B]? = _ from hs] at ho; cases ho; cases hc)).trans hs
set_option maxRecDepth 100000 in
set_option maxHeartbeats 4000000 in
theorem fillingOf_any (r : Int) (g n cap : Nat) (f : Nat → Tb.Pc) (w : World) (h : PcAt g n f w) (hg : g < w.heap.size) (hn : n ≤ 1000) :
    Calls Tryd.prog 44 #[tbV r (some ⟨g, 0, none⟩) n cap] w fun e w' => e = .returned (.pointer (some ⟨w.heap.size + 1, 0, none⟩)) ∧ (∃ G, Que w.heap.size (w.heap.size + 1) G ((dn n n).map f) w') ∧ Below w.heap.size w w' := by
  obtain ⟨W0, hW0⟩ : ∃ W0, W0 = ((w.alloc (.cells #[.int .i64 r, .slice (some ⟨g, 0, none⟩) n cap] 25)).alloc (.cells #[.pointer none, .pointer none, .int .i64 0] 93)).alloc (.cells #[.pointer (some ⟨w.heap.size + 1, 0, none⟩)] 81) := ⟨_, rfl⟩
  have HB0 : Hid (Below w.heap.size w W0) := by show Below _ _ _; rw [hW0]; exact ((nbel_alloc _ _).alloc (by simp) _).alloc (by simp; omega) _
  have HR0 : Hid (W0.rowIs (w.heap.size + 1) 93 3 (rowN (fiL none none 0))) := by show W0.rowIs _ _ _ _; rw [hW0]; exact nrow_below (rowN_alloc' (by simp) _ _) (nbel_alloc _ _)
  have HX0 : Hid (Boxed W0 (w.heap.size + 1 + 1) 81 (.pointer (some ⟨w.heap.size + 1, 0, none⟩))) := by
    show Boxed _ _ _ _
    rw [hW0]
    have := Boxed.new ((w.alloc (.cells #[.int .i64 r, .slice (some ⟨g, 0, none⟩) n cap] 25)).alloc (.cells #[.pointer none, .pointer none, .int .i64 0] 93)) 81 (.pointer (some ⟨w.heap.size + 1, 0, none⟩))
    rw [World.size_alloc, World.size_alloc] at this
    exact this
  have x0 : W0.cell? ⟨w.heap.size, 0, none⟩ = some (.int .i64 r) ∧ W0.cell? ⟨w.heap.size, 1, none⟩ = some (.slice (some ⟨g, 0, none⟩) n cap) := by
    rw [hW0]
    exact (rowN2 (nrow_below (nrow_below (rowN_alloc w [.int .i64 r, .slice (some ⟨g, 0, none⟩) n cap] 25) (nbel_alloc _ _)) (nbel_alloc _ _))).1
  have hs0 : W0.heap.size = w.heap.size + 3 := by rw [hW0]; simp
  obtain ⟨x0, x1⟩ := x0
  have HS0 := Lib.hid hs0
  have HW0 := Lib.hid hW0
  have H := Lib.hid h
  rw [hW0] at x0 x1
  clear h hW0 hs0
  refine (callsIn_wide (n := 4)).1 ?_
  refine callsIn_of_wp_marks Tryd.func44 rfl trivial ?_ rfl
  simp only [Tryd.ntmps44, List.size_toArray, List.length_cons, List.length_nil, Nat.reduceAdd, Nat.reduceSub, Array.replicate_succ, Array.replicate_zero, List.push_toArray, List.append_toArray, List.nil_append, List.cons_append]
  gi_wp2_with fail
  rw [← HW0.out]
  clear HW0 x0 x1
  refine ⟨trivial, (callsIn_wide.2 (backward_any _ _ _ _)).mono ?_⟩
  rintro e w2 ⟨rfl, rfl⟩
  gi_wp2_with fail
  obtain ⟨W2, hW2⟩ : ∃ W2, W2 = W0.alloc (.cells #[.slice (some ⟨g, 0, none⟩) n cap] 23) := ⟨_, rfl⟩
  rw [← hW2]
  have hb2 : Below W0.heap.size W0 W2 := by rw [hW2]; exact nbel_alloc _ _
  have HB2 : Hid (Below w.heap.size w W2) := HB0.out.trans (hb2.mono HB0.out.size)
  have HS2 : Hid (Boxed W2 W0.heap.size 23 (.slice (some ⟨g, 0, none⟩) n cap)) := by show Boxed _ _ _ _; rw [hW2]; exact Boxed.new W0 _ _
  have HZ2 : Hid (FoS w.heap.size f [] W2) := by
    refine ⟨fun _ => 0, ⟨⟨none, ?_, fun h => absurd h (Nat.not_lt_zero _)⟩, fun j hj => absurd hj (Nat.not_lt_zero _), fun i j hi => absurd hi (Nat.not_lt_zero _), ⟨by omega, fun j hj => absurd hj (Nat.not_lt_zero _)⟩, fun j hj => absurd hj (Nat.not_lt_zero _)⟩, (hb2.block _ HX0.out.lt).trans HX0.out⟩
    exact nrow_below HR0.out hb2
  have HSZ : Hid (W2.heap.size = w.heap.size + 4) := by show _ = _; rw [hW2]; have := HS0.out; simp; omega
  have HS0' := Lib.hid HS0.out
  clear hW2 hb2 HR0 HX0 HB0
  refine wpIn_rangeFunc_ownH rfl (by omega) (gf := 59) (lb := #[.pointer (some ⟨W0.heap.size, 0, none⟩)]) rfl trivial (enters_of Tryd.func59 (by kernel_rfl) rfl)
    (back_stops 3 W0.heap.size w.heap.size g n cap f hg (by omega) W2 HS2.out (H.out.below HB2.out)) (fun h k => ⟨h.1.trans k.1, k.2.trans h.2⟩)
    (fun W l o o' hl h hc hw => ⟨belowK_b (w := W2) HB2.out.size W l o o' hl h hc hw, World.putObj_heap_other (by have := HSZ.out; have := HS0'.out; omega)⟩) (Below.refl _ _) (fun _ => rfl)
    (fun pre W => (FoS w.heap.size f pre W ∧ Below w.heap.size w W) ∧ W2.heap.size ≤ W.heap.size ∧ Boxed W W0.heap.size 23 (.slice (some ⟨g, 0, none⟩) n cap))
    (fun _ _ _ => False)
    (OwnFrom.and (OwnFrom.and (Own.from (fos_own w.heap.size f) _) (ownFrom_below (Nat.le_refl _) HB2.out.size)) (OwnFrom.and (fun _ _ _ _ hs hg _ => Nat.le_trans hs hg.size) (Own.from (boxed_own W0.heap.size _ (fun _ : List Nat => .slice (some ⟨g, 0, none⟩) n cap)) _)))
    (fun _ _ _ _ _ hs _ _ => hs)
    ⟨⟨HZ2.out, HB2.out⟩, Nat.le_refl _, HS2.out⟩
    (fun x a' W => ∃ Bx, W2.heap.size ≤ Bx ∧ W.heap[Bx]? = some (.cells #[.int .i64 (f x).w, .int .i64 (f x).g, .int .i64 (f x).b] 38 (0, 0)) ∧ a' = { tmps := #[tbV r (some ⟨g, 0, none⟩) n cap, .pointer (some ⟨w.heap.size, 0, none⟩), .pointer none, .pointer (some ⟨w.heap.size + 1 + 1, 0, none⟩), undef, .pointer (some ⟨Bx, 0, none⟩), .agg #[.pointer none, .pointer none, .int .i64 0], .pointer (some ⟨w.heap.size + 1, 0, none⟩), .pointer (some ⟨w.heap.size, 1, none⟩), .slice (some ⟨g, 0, none⟩) n cap, .func (.func 59) #[] #[.pointer (some ⟨W0.heap.size, 0, none⟩)], .int .i64 (x : Int), pcV (f x), undef, undef, undef, undef], defers := [] })
    (fun x a' _ X Y row hs hg hr => by
      obtain ⟨Bx, h1, h2, h3⟩ := hs
      exact ⟨Bx, h1, cells_own Bx _ (fun _ : Unit => #[.int .i64 (f x).w, .int .i64 (f x).g, .int .i64 (f x).b]) () X Y row h2 hg (fun r e => (hr r e).2), h3⟩)
    ?assign ?body ?done ?stop
  case assign =>
    rintro l pre x W K ⟨⟨hi, hB⟩, hw, hbx⟩ hK
    have hWs : Hid (W2.heap.size ≤ W.heap.size) := hw
    have HBX := Lib.hid hbx
    clear hbx
    gi_wp2
    have hs2 := HSZ.out
    have hs0 := HS0'.out
    have hws := hWs.out
    refine hK _ _ ((KeepsOthers.alloc _ _).from _) ⟨(Below.refl _ W).alloc hB.size _, Below.heap_alloc _ _ _ (by omega)⟩ ⟨⟨hi.block (fun k hk => Below.heap_alloc _ _ _ hk), hB.alloc hB.size _⟩, by simp; omega, HBX.out.alloc _⟩ ⟨W.heap.size, hWs.out, World.alloc_heap_new _ _, rfl⟩
  case body =>
    rintro l pre x a' W hl ⟨r, hr⟩ ⟨⟨⟨G, hq, hx⟩, hB⟩, hw, hbx⟩ ⟨Bx, hBx, bX, rfl⟩ hlt
    have c0 : W.cell? ⟨Bx, 0, none⟩ = some (.int .i64 (f x).w) := by simp [World.cell?, bX]
    have c1 : W.cell? ⟨Bx, 1, none⟩ = some (.int .i64 (f x).g) := by simp [World.cell?, bX]
    have c2 : W.cell? ⟨Bx, 2, none⟩ = some (.int .i64 (f x).b) := by simp [World.cell?, bX]
    have bz := hx.cell
    have HQ := Lib.hid hq
    have HX := Lib.hid hx
    have HBX := Lib.hid hbx
    have HBL := Lib.hid hB
    have HWS := Lib.hid hw
    have HPL : Hid ((pre.map f).length ≤ 1000) := by show _ ≤ _; simp; omega
    have hn1 : 1 ≤ 4 - 1 - 1 := by omega
    clear hq hx hbx hB hw bX hr hl hlt hBx
    gi_wp2_with fail
    refine ⟨trivial, (CallsIn.inRound l (callsIn_wide.2 (putOn_any _ _ G _ (f x) _ HQ.out HBL.out.size HPL.out))).mono ?_⟩
    rintro e w3 ⟨rfl, hq3, ho3⟩
    have n1 : ∀ k, inQ (w.heap.size + 1) G (pre.map f).length k → k ≠ w.heap.size + 1 + 1 ∧ k ≠ W0.heap.size := by
      intro k hk
      rcases hk with rfl | ⟨j, hj, rfl⟩
      · have := HS0'.out; omega
      · exact ⟨box_ne HX.out (HQ.out.node j hj) (by omega), box_ne HBX.out (HQ.out.node j hj) (by omega)⟩
    have HQ3 : Hid (Que w.heap.size (w.heap.size + 1) (updN G (pre.map f).length (W.heap.size + 1)) ((pre ++ [x]).map f) w3) := by show Que _ _ _ _ _; rw [List.map_append]; exact hq3
    have HX3 : Hid (Boxed w3 (w.heap.size + 1 + 1) 81 (.pointer (some ⟨w.heap.size + 1, 0, none⟩))) := (ho3.block _ HX.out.lt (fun hk => (n1 _ hk).1 rfl)).trans HX.out
    have hbk := ho3.block _ HBX.out.lt (fun hk => (n1 _ hk).2 rfl)
    have HBX3 : Hid (Boxed w3 W0.heap.size 23 (.slice (some ⟨g, 0, none⟩) n cap)) := hbk.trans HBX.out
    have HBK := Lib.hid hbk
    have HBB : Hid (Below w.heap.size W w3) := ho3.below (fun k hk => (HQ.out.lt hk).1) HBL.out.size
    have HKE : Hid (KeepsFrom W2.heap.size W w3) := (HQ.out.keeps ho3).from _
    have hsz3 := Lib.hid ho3.size
    clear hq3 ho3 n1 hbk c0 c1 c2 bz
    gi_wp2_with fail
    exact ⟨HKE.out, ⟨HBB.out, HBK.out⟩, ⟨⟨_, HQ3.out, HX3.out⟩, HBL.out.trans HBB.out⟩, Nat.le_trans HWS.out hsz3.out, HBX3.out⟩
  case done =>
    rintro D xs W hD rfl ⟨⟨⟨G, hq, hx⟩, hB⟩, hw, hbx⟩ hK
    have bz := hx.cell
    have HQ := Lib.hid hq
    have HBL := Lib.hid hB
    have HK := Lib.hid hK
    have HD : Hid (w.heap.size + 4 ≤ D) := by show _ ≤ _; have := HSZ.out; omega
    clear hq hx hB hw hbx hK hD
    gi_wp2_with fail
    refine ⟨by simp, .inl ⟨_, _, rfl, run_takeDeferred HK.out, ?_⟩⟩
    refine ⟨.pointer (some ⟨w.heap.size + 1, 0, none⟩), ?_, rfl, ⟨G, HQ.out.same (fun k hk _ => ?_)⟩, HBL.out.trans (belowK_b (w := w) (Nat.le_refl _) _ D _ _ (by have := HD.out; omega) HK.out rfl rfl)⟩
    · simp [results, Tryd.f44, go_sem]
    · obtain ⟨t, m, F, h⟩ := HQ.out.row hk
      exact row_kept h (grownBy_putObj' _ D (.deferred none)) (fun r e => by cases e; exact ⟨_, HK.out, rfl⟩)
  case stop =>
    rintro D c pre W hD _ h _
    exact h.elim
end Go.Proofs.YtjmnehlgefpheaaDoor
