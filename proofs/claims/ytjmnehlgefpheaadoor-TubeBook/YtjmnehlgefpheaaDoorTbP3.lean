/-
  A run of a tube.
-/
import Derived.Test.YtjmnehlgefpheaaDoorTbP2
namespace Go.Proofs.YtjmnehlgefpheaaDoor
open Go.RowKit Go.Deep

namespace Tb
open Classical in
/-- A run of a tube: its code, what stands in the tube behind it, what went out. -/
noncomputable def runOf (m r : Int) (l pl : List Pc) : Int × List Pc × List Pc := if (0 ≤ m ∧ m ≤ 1000) ∧ Right r l then ((runA m l.reverse [] pl).1, (runA m l.reverse [] pl).2.1.reverse, (runA m l.reverse [] pl).2.2) else (1, [], [])
theorem runOf_no {m r : Int} {l pl : List Pc} (h : ¬ ((0 ≤ m ∧ m ≤ 1000) ∧ Right r l)) : runOf m r l pl = (1, [], []) := by unfold runOf; rw [if_neg h]
theorem runOf_yes {m r : Int} {l pl : List Pc} (h : (0 ≤ m ∧ m ≤ 1000) ∧ Right r l) : runOf m r l pl = ((runA m l.reverse [] pl).1, (runA m l.reverse [] pl).2.1.reverse, (runA m l.reverse [] pl).2.2) := by unfold runOf; rw [if_pos h]
theorem right_fill {r : Int} {l : List Pc} (h : Right r l) : Fill r l.reverse := ⟨by simpa using h.1, fun p hp => h.2.1 p (List.mem_reverse.1 hp), by rw [wat_rev]; exact h.2.2⟩
end Tb
/-- The two lists of an answer. -/
structure TwO (B : Nat) (a : Option Addr) (k : Nat) (L : List Tb.Pc) (p : Option Addr) (d : Nat) (O : List Tb.Pc) (W : World) : Prop where
  x : OwL 38 B (L.length * 3) a k (Tb.fl L) W
  y : OwL 38 B (O.length * 3) p d (Tb.fl O) W
  ne : ∀ k, a = some ⟨k, 0, none⟩ → p ≠ some ⟨k, 0, none⟩
theorem TwO.nil (B : Nat) (W : World) : TwO B none 0 [] none 0 [] W := ⟨Or.inl ⟨rfl, rfl, rfl⟩, Or.inl ⟨rfl, rfl, rfl⟩, fun k e => by cases e⟩
theorem TwO.keep {B k d : Nat} {a p : Option Addr} {L O : List Tb.Pc} {W W' : World} (h : TwO B a k L p d O W) (hb : ∀ k, B ≤ k → k < W.heap.size → W'.heap[k]? = W.heap[k]?) : TwO B a k L p d O W' :=
  ⟨h.x.same hb, h.y.same hb, h.ne⟩
theorem TwO.low {B B' k d : Nat} {a p : Option Addr} {L O : List Tb.Pc} {W : World} (h : TwO B a k L p d O W) (hb : B' ≤ B) : TwO B' a k L p d O W := ⟨h.x.low hb, h.y.low hb, h.ne⟩
/-- What a run answers, and the error beside it. -/
def RuEnd (B : Nat) (m r : Int) (l pl : List Tb.Pc) (e : Ending) (W : World) : Prop :=
  ((Tb.runOf m r l pl).1 ≠ 0 ∧ ∃ ev, e = .returned (.tuple #[toV 0 none 0 0 none 0 0 0, ev]) ∧ ErrIs ev (Tb.runOf m r l pl).1) ∨
  ((Tb.runOf m r l pl).1 = 0 ∧ ∃ a k p d, e = .returned (.tuple #[toV r a (Tb.runOf m r l pl).2.1.length k p (Tb.runOf m r l pl).2.2.length d 0, .nilIface]) ∧ TwO B a k (Tb.runOf m r l pl).2.1 p d (Tb.runOf m r l pl).2.2 W)
theorem own_notin {B B' h n : Nat} {v : Value} {xs : List Value} {G : Nat → Nat} {Q : List Tb.Pc} {W : World} (ho : W.ownsRow B 38 3 v n xs) (q : Que B' h G Q W) {k : Nat} (hk : v.ownBlock = some k) : ¬ inQ h G Q.length k := by
  intro hi
  rcases ho.2 with h2 | ⟨g, cap, cur, e1, e2, e3, _⟩
  · rw [h2.1] at hk; cases hk
  · rw [e1] at hk
    obtain rfl : g = k := by simpa [Value.ownBlock] using hk
    rcases hi with rfl | ⟨j, hj, rfl⟩
    · obtain ⟨bg, ⟨c2, hb, _⟩, _⟩ := q.fill
      rw [e3] at hb
      simp at hb
    · obtain ⟨c2, hb, _⟩ := q.node j hj
      rw [e3] at hb
      simp at hb
theorem own_keep {B n s : Nat} {t : TypeId} {v : Value} {xs : List Value} {W W' : World} {P : Nat → Prop} (h : W.ownsRow B t s v n xs) (ho : OnlyP P W W') (hp : ∀ k, v.ownBlock = some k → ¬ P k) : W'.ownsRow B t s v n xs := by
  refine ⟨h.1, ?_⟩
  rcases h.2 with h2 | ⟨g, cap, cur, e1, e2, e3, e4, e5, e6, e7⟩
  · exact Or.inl h2
  · exact Or.inr ⟨g, cap, cur, e1, e2, (ho.block g (Array.getElem?_eq_some_iff.1 e3).1 (hp g (by rw [e1]; simp [Value.ownBlock]))).trans e3, e4, e5, e6, e7⟩
/-- A list that is not empty lies somewhere. -/
theorem own_some {B n : Nat} {v : Value} {l : List Tb.Pc} {W : World} (h : W.ownsRow B 38 3 v l.length (pv l)) (hl : 1 ≤ l.length) (hn : n = l.length) : ∃ g c, v = .slice (some ⟨g, 0, none⟩) n c ∧ ∀ j u, (pv l)[j]? = some u → W.cell? ((⟨g, 0, none⟩ : Addr).add j) = some u := by
  subst hn
  rcases h.2 with h2 | ⟨g, cap, cur, e1, e2, e3, e4, e5, e6, e7⟩
  · omega
  · exact ⟨g, cap, e1, h.cells (by rw [e1]; simp [Value.ownBlock])⟩
/-- What stands from push to push. -/
structure RnS (B h : Nat) (r : Int) (m : Int) (RR : Int × List Tb.Pc × List Tb.Pc) (pl : List Tb.Pc) (i : Nat) (ov : Value) (G : Nat → Nat) (Q O : List Tb.Pc) (w0 W : World) : Prop where
  q : Que B h G Q W
  fill : Tb.Fill r Q
  own : W.ownsRow B 38 3 ov O.length (pv O)
  run : Tb.runA m Q O (pl.drop i) = RR
  old : Below B w0 W
  len : O.length ≤ 61 * i
  sz : B ≤ W.heap.size
/-- What stands while the answer is built. -/
structure RfS (s B h : Nat) (r : Int) (a : Option Addr) (n k : Nat) (G : Nat → Nat) (Q O : List Tb.Pc) (p : Option Addr) (d : Nat) (w W : World) : Prop where
  tub : W.rowIs s 25 2 (rowN [.int .i64 r, .slice a n k])
  res : ∃ v0 v1 v2 v3, W.rowIs (s + 1) 29 4 (rowN [v0, v1, v2, v3])
  q : Que B h G Q W
  own : OwL 38 0 (O.length * 3) p d (Tb.fl O) W
  bel : Below s w W
theorem RfS.below {s B h : Nat} {r : Int} {a : Option Addr} {n k : Nat} {G : Nat → Nat} {Q O : List Tb.Pc} {p : Option Addr} {d : Nat} {w W W' : World} (u : RfS s B h r a n k G Q O p d w W) (hb : Below W.heap.size W W') : RfS s B h r a n k G Q O p d w W' := by
  obtain ⟨v0, v1, v2, v3, h2⟩ := u.res
  exact ⟨nrow_below u.tub hb, ⟨v0, v1, v2, v3, nrow_below h2 hb⟩, u.q.below hb, u.own.below hb, u.bel.trans (hb.mono (Nat.le_of_lt u.tub.lt))⟩
set_option maxRecDepth 100000 in
set_option maxHeartbeats 8000000 in
theorem runTube_any (r : Int) (a : Option Addr) (l : List Tb.Pc) (k : Nat) (pa : Option Addr) (pl : List Tb.Pc) (kp : Nat) (m : Int) (w : World) (h : IsAt a (l.length * 3) (Tb.fl l) w) (hp : IsAt pa (pl.length * 3) (Tb.fl pl) w) (hlen : pl.length ≤ 60) (ht : TabOk w) :
    Calls Tryd.prog 35 #[tbV r a l.length k, .slice pa pl.length kp, .int .i64 m] w fun e w' => RuEnd w.heap.size m r l pl e w' ∧ Below w.heap.size w w' := by
  obtain ⟨i1, hi1, hy0, hy1, hy2⟩ := info_parts pinfo
  obtain ⟨W, hW⟩ : ∃ W, W = (w.alloc (.cells #[.int .i64 r, .slice a l.length k] 25)).alloc (.cells #[.int .i64 0, .slice none 0 0, .slice none 0 0, .int .i64 0] 29) := ⟨_, rfl⟩
  have HG : Hid (Below w.heap.size w W) := by show Below _ _ _; rw [hW]; exact (nbel_alloc _ _).alloc (by simp) _
  have HR : Hid (W.rowIs w.heap.size 25 2 (rowN [.int .i64 r, .slice a l.length k])) := by show W.rowIs _ _ _ _; rw [hW]; exact nrow_below (rowN_alloc w _ _) (nbel_alloc _ _)
  have HO : Hid (W.rowIs (w.heap.size + 1) 29 4 (rowN (toL 0 none 0 0 none 0 0 0))) := by show W.rowIs _ _ _ _; rw [hW]; exact rowN_alloc' (by simp) _ _
  have HSZ : Hid (W.heap.size = w.heap.size + 2) := by show _ = _; rw [hW]; simp
  obtain ⟨b1, hb1⟩ := tbool_of (0 ≤ m ∧ m ≤ 1000)
  have K1 := Lib.hid hb1
  obtain ⟨⟨o0, o1, o2, o3⟩, z0, z1, z2, z3⟩ := rowN4 HO.out
  rw [hW] at o0 o1 o2 o3 z0 z1 z2 z3
  have HW := Lib.hid hW
  have H := Lib.hid (h.below HG.out)
  have HP := Lib.hid (hp.below HG.out)
  have HT := Lib.hid (tab_below ht HG.out)
  clear hW h hp ht hb1
  go_enter Tryd.func35, Tryd.ntmps35
  go_wp2_with fail
  rw [← HW.out]
  clear HW o0 o1 o2 o3 z0 z1 z2 z3
  refine (twithin_any _ _ b1 K1.out _).mono ?_
  rintro e w1 ⟨rfl, e1⟩
  subst w1
  obtain ⟨⟨o0, o1, o2, o3⟩, z0, z1, z2, z3⟩ := rowN4 HO.out
  have hol := HO.out.lt
  have ZR : Hid (∀ V : World, V.rowIs (w.heap.size + 1) 29 4 (rowN (toL 0 none 0 0 none 0 0 0)) → ((((V.setCell ⟨w.heap.size + 1, 0, none⟩ (.int .i64 0)).setCell ⟨w.heap.size + 1, 1, none⟩ (.slice none 0 0)).setCell ⟨w.heap.size + 1, 2, none⟩ (.slice none 0 0)).setCell ⟨w.heap.size + 1, 3, none⟩ (.int .i64 0)).rowIs (w.heap.size + 1) 29 4 (rowN (toL 0 none 0 0 none 0 0 0))) :=
    fun V hV => rowN_put (rowN_put (rowN_put (rowN_put hV 0 _ (by simp)) 1 _ (by simp)) 2 _ (by simp)) 3 _ (by simp)
  rcases b1 with _ | _
  · have HC : Hid (Tb.runOf m r l pl = (1, [], [])) := Tb.runOf_no (fun h => by have := K1.out.2 h.1; cases this)
    go_wp2_with fail
    have zr := ZR.out W HO.out
    have zb : Below w.heap.size w ((((W.setCell ⟨w.heap.size + 1, 0, none⟩ (.int .i64 0)).setCell ⟨w.heap.size + 1, 1, none⟩ (.slice none 0 0)).setCell ⟨w.heap.size + 1, 2, none⟩ (.slice none 0 0)).setCell ⟨w.heap.size + 1, 3, none⟩ (.int .i64 0)) := (((HG.out.setCell (p := ⟨w.heap.size + 1, 0, none⟩) (by show w.heap.size ≤ w.heap.size + 1; omega) _).setCell (p := ⟨w.heap.size + 1, 1, none⟩) (by show w.heap.size ≤ w.heap.size + 1; omega) _).setCell (p := ⟨w.heap.size + 1, 2, none⟩) (by show w.heap.size ≤ w.heap.size + 1; omega) _).setCell (p := ⟨w.heap.size + 1, 3, none⟩) (by show w.heap.size ≤ w.heap.size + 1; omega) _
    generalize ((((W.setCell ⟨w.heap.size + 1, 0, none⟩ (.int .i64 0)).setCell ⟨w.heap.size + 1, 1, none⟩ (.slice none 0 0)).setCell ⟨w.heap.size + 1, 2, none⟩ (.slice none 0 0)).setCell ⟨w.heap.size + 1, 3, none⟩ (.int .i64 0)) = Z at zr zb ⊢
    obtain ⟨⟨c0, c1, c2, c3⟩, _⟩ := rowN4 zr
    exact bodyPost_ret (v := .tuple #[toV 0 none 0 0 none 0 0 0, errV ⟨#[97, 32, 109, 105, 108, 108]⟩ 1]) (by simp only [results, Tryd.results35]; simp [go_sem, c0, c1, c2, c3]) rfl ⟨Or.inl ⟨by rw [HC.out]; simp, _, rfl, by rw [HC.out]; exact errIs_one _ _⟩, zb⟩
  have hm : 0 ≤ m ∧ m ≤ 1000 := by have := K1.out; simpa using this
  have HM := Lib.hid hm
  obtain ⟨⟨x0, x1⟩, _⟩ := rowN2 HR.out
  clear K1
  go_wp2_with fail
  refine (implTRight_any r a l k _ H.out).mono ?_
  rintro e w0 ⟨⟨b2, rfl, hb2⟩, hb⟩
  have K2 := Lib.hid hb2
  have HR0 := Lib.hid (nrow_below HR.out hb)
  have HO0 := Lib.hid (nrow_below HO.out hb)
  have H0 := Lib.hid (H.out.below hb)
  have HP0 := Lib.hid (HP.out.below hb)
  have HT0 := Lib.hid (tab_below HT.out hb)
  have HG0 : Hid (Below w.heap.size w w0) := HG.out.trans (hb.mono HG.out.size)
  have HSZ0 : Hid (w.heap.size + 2 ≤ w0.heap.size) := by show _ ≤ _; have := HSZ.out; have := hb.size; omega
  clear hb2 hb HR H HG HO HP HT x0 x1 o0 o1 o2 o3 z0 z1 z2 z3 hol
  obtain ⟨⟨x0, x1⟩, _⟩ := rowN2 HR0.out
  obtain ⟨⟨o0, o1, o2, o3⟩, z0, z1, z2, z3⟩ := rowN4 HO0.out
  have hol := HO0.out.lt
  rcases b2 with _ | _
  · have HC : Hid (Tb.runOf m r l pl = (1, [], [])) := Tb.runOf_no (fun h => by have := K2.out.2 h.2; cases this)
    go_wp2_with fail
    have zr := ZR.out w0 HO0.out
    have zb : Below w.heap.size w ((((w0.setCell ⟨w.heap.size + 1, 0, none⟩ (.int .i64 0)).setCell ⟨w.heap.size + 1, 1, none⟩ (.slice none 0 0)).setCell ⟨w.heap.size + 1, 2, none⟩ (.slice none 0 0)).setCell ⟨w.heap.size + 1, 3, none⟩ (.int .i64 0)) := (((HG0.out.setCell (p := ⟨w.heap.size + 1, 0, none⟩) (by show w.heap.size ≤ w.heap.size + 1; omega) _).setCell (p := ⟨w.heap.size + 1, 1, none⟩) (by show w.heap.size ≤ w.heap.size + 1; omega) _).setCell (p := ⟨w.heap.size + 1, 2, none⟩) (by show w.heap.size ≤ w.heap.size + 1; omega) _).setCell (p := ⟨w.heap.size + 1, 3, none⟩) (by show w.heap.size ≤ w.heap.size + 1; omega) _
    generalize ((((w0.setCell ⟨w.heap.size + 1, 0, none⟩ (.int .i64 0)).setCell ⟨w.heap.size + 1, 1, none⟩ (.slice none 0 0)).setCell ⟨w.heap.size + 1, 2, none⟩ (.slice none 0 0)).setCell ⟨w.heap.size + 1, 3, none⟩ (.int .i64 0)) = Z at zr zb ⊢
    obtain ⟨⟨c0, c1, c2, c3⟩, _⟩ := rowN4 zr
    exact bodyPost_ret (v := .tuple #[toV 0 none 0 0 none 0 0 0, errV ⟨#[97, 32, 116, 117, 98, 101]⟩ 1]) (by simp only [results, Tryd.results35]; simp [go_sem, c0, c1, c2, c3]) rfl ⟨Or.inl ⟨by rw [HC.out]; simp, _, rfl, by rw [HC.out]; exact errIs_one _ _⟩, zb⟩
  have HRT : Hid (Tb.Right r l) := K2.out.1 rfl
  have HLEN : Hid (1 ≤ l.length ∧ l.length ≤ 60) := HRT.out.1
  obtain ⟨g, ea, c0, _⟩ := H0.out.pc (i := 0) (by have := HLEN.out; omega)
  subst ea
  have HGL : Hid (g < w0.heap.size) := World.block_lt_of_cell? _ _ c0
  obtain ⟨RR, hRR⟩ : ∃ RR, RR = Tb.runA m l.reverse [] pl := ⟨_, rfl⟩
  have HC : Hid (Tb.runOf m r l pl = (RR.1, RR.2.1.reverse, RR.2.2)) := by show _ = _; rw [hRR]; exact Tb.runOf_yes ⟨HM.out, HRT.out⟩
  have HRR := Lib.hid hRR
  obtain ⟨m0, m1⟩ := hm
  clear K2 c0 hRR o0 o1 o2 o3 z0 z1 z2 z3 hol
  go_wp2_with fail
  refine (fillingOf_any r g l.length k (Tb.pg l) _ (pcAt_of H0.out) HGL.out (by have := HLEN.out; omega)).mono ?_
  rintro e w2 ⟨rfl, ⟨G, hq⟩, hb⟩
  rw [dn_rev] at hq
  have HS2 : Hid (RnS w0.heap.size (w0.heap.size + 1) r m RR pl 0 (.slice none 0 0) G l.reverse [] w0 w2) :=
    ⟨hq, Tb.right_fill HRT.out, World.ownsRow_nil _ _ _ _, by rw [List.drop_zero]; exact HRR.out.symm, hb, by simp, hb.size⟩
  clear hq hb x0 x1
  go_wp2_with fail
  go_loopw [9, 34] (fun ov iv wr => ∃ (i : Nat) (G : Nat → Nat) (Q O : List Tb.Pc), i ≤ pl.length ∧ iv = .int .i64 i ∧ Hid (RnS w0.heap.size (w0.heap.size + 1) r m RR pl i ov G Q O w0 wr)) (fun _ iv _ => pl.length - (intOf iv).toNat)
  case atStart => exact ⟨0, G, l.reverse, [], Nat.zero_le _, rfl, HS2⟩
  case round =>
    obtain ⟨i, G, Q, O, hi, rfl, hS⟩ := hrel
    clear HS2
    by_cases hlt : i < pl.length
    · have hltz : (i : Int) < (pl.length : Int) := by omega
      obtain ⟨b, eb, c0, c1, c2⟩ := (HP0.out.below hS.out.old).pc hlt
      subst eb
      obtain ⟨V, hV⟩ : ∃ V, V = wr.alloc (.cells #[.int .i64 (Tb.pg pl i).w, .int .i64 (Tb.pg pl i).g, .int .i64 (Tb.pg pl i).b] 38) := ⟨_, rfl⟩
      have hvb : Below wr.heap.size wr V := by rw [hV]; exact nbel_alloc _ _
      have HVR : Hid (V.rowIs wr.heap.size 38 3 (rowN (pcL (Tb.pg pl i)))) := by show V.rowIs _ _ _ _; rw [hV]; exact rowN_alloc wr _ _
      have HVQ := Lib.hid (hS.out.q.below hvb)
      have HVO := Lib.hid (own_below hS.out.own hvb)
      have HVB : Hid (Below w0.heap.size w0 V) := hS.out.old.trans (hvb.mono hS.out.sz)
      have HVS : Hid (w0.heap.size ≤ V.heap.size) := HVB.out.size
      have HFL := Lib.hid hS.out.fill
      have HRN : Hid (Tb.runA m Q O (Tb.pg pl i :: pl.drop (i + 1)) = RR) := by show _ = _; rw [← Tb.drop_pg hlt]; exact hS.out.run
      have HOL := Lib.hid hS.out.len
      have HVW := Lib.hid hV
      obtain ⟨⟨x0, x1, x2⟩, _⟩ := rowN3 HVR.out
      rw [hV] at x0 x1 x2
      clear hV hvb hS
      go_wp2_with fail
      rw [← HVW.out]
      clear HVW x0 x1 x2 c0 c1 c2 HVR
      refine (push_any w0.heap.size (w0.heap.size + 1) G Q r (Tb.pg pl i) _ HVQ.out HFL.out HVS.out).mono ?_
      rintro e w3 ⟨hpu, ho3⟩
      have hbv : Below w0.heap.size V w3 := ho3.below (fun k hk => (HVQ.out.lt hk).1) HVS.out
      have HB3 : Hid (Below w0.heap.size w0 w3) := HVB.out.trans hbv
      have HZ3 : Hid (w3.rowIs (w.heap.size + 1) 29 4 (rowN (toL 0 none 0 0 none 0 0 0))) := nrow_below HO0.out HB3.out
      have HBW3 : Hid (Below w.heap.size w w3) := HG0.out.trans (HB3.out.mono HG0.out.size)
      have HT3 := Lib.hid (tab_below HT0.out HB3.out)
      have HO3 := Lib.hid ho3
      clear ho3 hbv
      rcases hpu with ⟨hno, s, rfl⟩ | ⟨hok, hov, s, rfl⟩ | ⟨hok, hln, v, rfl, hown, G', hq3, hsub⟩
      · have HC3 : Hid (Tb.runOf m r l pl = (1, [].reverse, [])) := by
          show _ = _
          rw [HC.out, ← HRN.out, Tb.runA_bad hno]
        obtain ⟨⟨o0, o1, o2, o3⟩, z0, z1, z2, z3⟩ := rowN4 HZ3.out
        have hol := HZ3.out.lt
        go_wp2_with fail
        refine (itoaS_any i (by omega) _ HT3.out).mono ?_
        rintro e w4 ⟨⟨si, rfl, hsi⟩, hb4⟩
        have HZ4 := Lib.hid (nrow_below HZ3.out hb4)
        have HB4 : Hid (Below w.heap.size w w4) := HBW3.out.trans (hb4.mono HBW3.out.size)
        clear hb4 o0 o1 o2 o3 z0 z1 z2 z3 hol
        obtain ⟨⟨o0, o1, o2, o3⟩, z0, z1, z2, z3⟩ := rowN4 HZ4.out
        have hol := HZ4.out.lt
        go_wp2_with fail
        have zr := ZR.out w4 HZ4.out
        have zb : Below w.heap.size w ((((w4.setCell ⟨w.heap.size + 1, 0, none⟩ (.int .i64 0)).setCell ⟨w.heap.size + 1, 1, none⟩ (.slice none 0 0)).setCell ⟨w.heap.size + 1, 2, none⟩ (.slice none 0 0)).setCell ⟨w.heap.size + 1, 3, none⟩ (.int .i64 0)) := (((HB4.out.setCell (p := ⟨w.heap.size + 1, 0, none⟩) (by show w.heap.size ≤ w.heap.size + 1; omega) _).setCell (p := ⟨w.heap.size + 1, 1, none⟩) (by show w.heap.size ≤ w.heap.size + 1; omega) _).setCell (p := ⟨w.heap.size + 1, 2, none⟩) (by show w.heap.size ≤ w.heap.size + 1; omega) _).setCell (p := ⟨w.heap.size + 1, 3, none⟩) (by show w.heap.size ≤ w.heap.size + 1; omega) _
        generalize ((((w4.setCell ⟨w.heap.size + 1, 0, none⟩ (.int .i64 0)).setCell ⟨w.heap.size + 1, 1, none⟩ (.slice none 0 0)).setCell ⟨w.heap.size + 1, 2, none⟩ (.slice none 0 0)).setCell ⟨w.heap.size + 1, 3, none⟩ (.int .i64 0)) = Z at zr zb ⊢
        obtain ⟨⟨c0, c1, c2, c3⟩, _⟩ := rowN4 zr
        exact bodyPost_ret (v := .tuple #[toV 0 none 0 0 none 0 0 0, .iface 72 (.agg #[.string ((⟨#[112, 117, 115, 104, 32]⟩ : ByteArray) ++ si), errV s 1])]) (by simp only [results, Tryd.results35]; simp [go_sem, c0, c1, c2, c3]) rfl ⟨Or.inl ⟨by rw [HC3.out]; simp, _, rfl, by rw [HC3.out]; exact errIs_two _ _ _⟩, zb⟩
      · have HC3 : Hid (Tb.runOf m r l pl = (5, [].reverse, [])) := by
          show _ = _
          rw [HC.out, ← HRN.out, Tb.runA_over hok hov]
        obtain ⟨⟨o0, o1, o2, o3⟩, z0, z1, z2, z3⟩ := rowN4 HZ3.out
        have hol := HZ3.out.lt
        go_wp2_with fail
        refine (itoaS_any i (by omega) _ HT3.out).mono ?_
        rintro e w4 ⟨⟨si, rfl, hsi⟩, hb4⟩
        have HZ4 := Lib.hid (nrow_below HZ3.out hb4)
        have HB4 : Hid (Below w.heap.size w w4) := HBW3.out.trans (hb4.mono HBW3.out.size)
        clear hb4 o0 o1 o2 o3 z0 z1 z2 z3 hol
        obtain ⟨⟨o0, o1, o2, o3⟩, z0, z1, z2, z3⟩ := rowN4 HZ4.out
        have hol := HZ4.out.lt
        go_wp2_with fail
        have zr := ZR.out w4 HZ4.out
        have zb : Below w.heap.size w ((((w4.setCell ⟨w.heap.size + 1, 0, none⟩ (.int .i64 0)).setCell ⟨w.heap.size + 1, 1, none⟩ (.slice none 0 0)).setCell ⟨w.heap.size + 1, 2, none⟩ (.slice none 0 0)).setCell ⟨w.heap.size + 1, 3, none⟩ (.int .i64 0)) := (((HB4.out.setCell (p := ⟨w.heap.size + 1, 0, none⟩) (by show w.heap.size ≤ w.heap.size + 1; omega) _).setCell (p := ⟨w.heap.size + 1, 1, none⟩) (by show w.heap.size ≤ w.heap.size + 1; omega) _).setCell (p := ⟨w.heap.size + 1, 2, none⟩) (by show w.heap.size ≤ w.heap.size + 1; omega) _).setCell (p := ⟨w.heap.size + 1, 3, none⟩) (by show w.heap.size ≤ w.heap.size + 1; omega) _
        generalize ((((w4.setCell ⟨w.heap.size + 1, 0, none⟩ (.int .i64 0)).setCell ⟨w.heap.size + 1, 1, none⟩ (.slice none 0 0)).setCell ⟨w.heap.size + 1, 2, none⟩ (.slice none 0 0)).setCell ⟨w.heap.size + 1, 3, none⟩ (.int .i64 0)) = Z at zr zb ⊢
        obtain ⟨⟨c0, c1, c2, c3⟩, _⟩ := rowN4 zr
        exact bodyPost_ret (v := .tuple #[toV 0 none 0 0 none 0 0 0, .iface 72 (.agg #[.string ((⟨#[112, 117, 115, 104, 32]⟩ : ByteArray) ++ si), errV s 5])]) (by simp only [results, Tryd.results35]; simp [go_sem, c0, c1, c2, c3]) rfl ⟨Or.inl ⟨by rw [HC3.out]; simp, _, rfl, by rw [HC3.out]; exact errIs_two _ _ _⟩, zb⟩
      · have HQ3 := Lib.hid hq3
        have HV3 := Lib.hid hown
        have HOK3 := Lib.hid hok
        obtain ⟨a1, a2, a3, a4, a5, a6, a7, a8⟩ := Tb.psh_all HFL.out hok
        have HA4 := Lib.hid a4
        have HA6 : Hid ((Tb.psh Q (Tb.pg pl i)).1.length ≤ 61) := by show _ ≤ _; have := HFL.out.1.2; omega
        have HA1 : Hid (1 ≤ (Tb.psh Q (Tb.pg pl i)).1.length) := by
          show _ ≤ _
          cases hl : (Tb.psh Q (Tb.pg pl i)).1 with
          | nil => rw [hl] at a1; simp [Tb.wat] at a1; have := hok.1.1; omega
          | cons q l => simp
        have HOV3 : Hid (w3.ownsRow w0.heap.size 38 3 u9 O.length (pv O)) := own_keep HVO.out HO3.out (fun k hk => own_notin HVO.out HVQ.out hk)
        have HLN := Lib.hid hln
        clear hown hq3 hok a1 a2 a3 a4 a5 a6 a7 a8 hln hsub
        obtain ⟨gv, cv, ev, _⟩ := own_some HV3.out HA1.out rfl
        subst ev
        go_wp2_with fail
        refine (fdecay_any _ _ G' _ m _ HQ3.out HA4.out m0 m1).mono ?_
        rintro e w4 ⟨rfl, hq4, ho4⟩
        have HQ4 := Lib.hid hq4
        have HV4 := Lib.hid (own_keep HV3.out ho4 (fun k hk => own_notin HV3.out HQ3.out hk))
        have HOV4 := Lib.hid (own_keep HOV3.out ho4 (fun k hk => own_notin HOV3.out HQ3.out hk))
        have hb4 : Below w0.heap.size w3 w4 := ho4.below (fun k hk => (HQ3.out.lt hk).1) HB3.out.size
        have HB4 : Hid (Below w0.heap.size w0 w4) := HB3.out.trans hb4
        have hs4 : w0.heap.size ≤ w4.heap.size := HB4.out.size
        have hol4 := HOL.out
        have hgl4 := HA6.out
        clear hq4 ho4 hb4
        go_wp2_with (at_builtin; refine wpList_append_own _ rfl _ _ 23 rfl w0.heap.size 38 i1 _ 3 24 Tryd.underlying23 hi1 hy0 hy1 hy2 rfl (by decide) _ _ _ rfl HOV4.out ⟨gv, 0, none⟩ (Tb.psh Q (Tb.pg pl i)).1.length cv (pv (Tb.psh Q (Tb.pg pl i)).1) rfl (pv_len _) ?d1 ?d2 ?d3 ?d4 ?d5 ?_)
        case d1 => exact HV4.out.cells (by simp [Value.ownBlock])
        case d2 =>
          intro x hx
          obtain ⟨z, rfl⟩ := pv_undef hx
          rfl
        case d3 => unfold maxLen; omega
        case d4 => omega
        case d5 => omega
        intro v5 W5 hown hgrow hnil
        have hrow : ∀ k, u9.ownBlock = some k → w0.heap.size ≤ k := fun k e => (HOV4.out.lt k e).1
        have HB5 : Hid (Below w0.heap.size w0 W5) := HB4.out.grown hgrow hs4 hrow
        have HQ5 : Hid (Que w0.heap.size (w0.heap.size + 1) G' ((Tb.psh Q (Tb.pg pl i)).2.map (Tb.dec m)) W5) := HQ4.out.grown hgrow (fun k hk e => own_notin HOV4.out HQ4.out e hk)
        have HO5 : Hid (W5.ownsRow w0.heap.size 38 3 v5 (O ++ (Tb.psh Q (Tb.pg pl i)).1).length (pv (O ++ (Tb.psh Q (Tb.pg pl i)).1))) := by
          show W5.ownsRow _ _ _ _ _ _
          rw [pv_app, List.length_append]
          exact hown
        have HS5 : Hid (RnS w0.heap.size (w0.heap.size + 1) r m RR pl (i + 1) v5 G' ((Tb.psh Q (Tb.pg pl i)).2.map (Tb.dec m)) (O ++ (Tb.psh Q (Tb.pg pl i)).1) w0 W5) :=
          ⟨HQ5.out, Tb.psh_fill HFL.out HOK3.out HLN.out m0 m1, HO5.out, by rw [← HRN.out, Tb.runA_on HOK3.out HLN.out], HB5.out, by rw [List.length_append]; omega, HB5.out.size⟩
        clear hown hgrow hnil hrow
        go_wp2_with fail
        go_roundw
        case rel => exact ⟨i + 1, G', _, _, by omega, by go_num, HS5⟩
        case measure => simp [intOf]; omega
    · obtain rfl : i = pl.length := by omega
      have HRN : Hid (RR = (0, Q, O)) := by
        show _ = _
        rw [← hS.out.run, List.drop_eq_nil_of_le (Nat.le_refl _)]
        rfl
      obtain ⟨pO, dO, eO, howO⟩ := owl_of hS.out.own
      subst eO
      have HS3 : Hid (RfS w.heap.size w0.heap.size (w0.heap.size + 1) r (some ⟨g, 0, none⟩) l.length k G Q O pO dO w wr) :=
        ⟨nrow_below HR0.out hS.out.old, ⟨_, _, _, _, nrow_below HO0.out hS.out.old⟩, hS.out.q, howO.low (Nat.zero_le _), HG0.out.trans (hS.out.old.mono HG0.out.size)⟩
      have HLR : Hid (Q.length ≤ 1000) := by show _ ≤ _; have := hS.out.fill.1.2; omega
      have HSZ3 : Hid (w.heap.size + 2 ≤ wr.heap.size) := by show _ ≤ _; have := HSZ0.out; have := hS.out.sz; omega
      have HOLT : Hid (∀ k, pO = some ⟨k, 0, none⟩ → w0.heap.size ≤ k ∧ k < wr.heap.size) := fun k e => howO.lt e
      clear howO hS
      go_wp2_with fail
      refine wp_region_held_drew (S := RfS w.heap.size w0.heap.size (w0.heap.size + 1) r (some ⟨g, 0, none⟩) l.length k G Q O pO dO w) (by kernel_rfl) (HS3.out.below (Below.refl _ _).drew) (fun hHeld => ?_)
      clear HS3
      refine take_do (i := 0) (v := .pointer (some ⟨w.heap.size, 0, none⟩)) rfl (by kernel_rfl) (by kernel_rfl) (by kernel_rfl) (fun _ _ _ h => h) (by rfl) ?_ (by assumption) ?_
      · intro w hSw
        go_simp
      simp only [Act.put, List.setIfInBounds_toArray, List.set_cons_zero, List.set_cons_succ]
      refine take_do (i := 1) (v := .int .i64 r) rfl (by kernel_rfl) (by kernel_rfl) (by kernel_rfl) (fun _ _ _ h => h) (by rfl) ?_ (by assumption) ?_
      · intro w hSw
        obtain ⟨⟨x0, x1⟩, _⟩ := rowN2 hSw.tub
        go_simp
      simp only [Act.put, List.setIfInBounds_toArray, List.set_cons_zero, List.set_cons_succ]
      refine take_do (i := 2) (v := .pointer (some ⟨w0.heap.size + 1, 0, none⟩)) rfl (by kernel_rfl) (by kernel_rfl) (by kernel_rfl) (fun _ _ _ h => h) (by rfl) ?_ (by assumption) ?_
      · intro w hSw
        go_simp
      simp only [Act.put, List.setIfInBounds_toArray, List.set_cons_zero, List.set_cons_succ]
      refine take_do (i := 5) (v := .slice pO O.length dO) rfl (by kernel_rfl) (by kernel_rfl) (by kernel_rfl) (fun _ _ _ h => h) (by rfl) ?_ (by assumption) ?_
      · intro w hSw
        go_simp
      simp only [Act.put, List.setIfInBounds_toArray, List.set_cons_zero, List.set_cons_succ]
      refine take_call (i := 3) rfl (by kernel_rfl) (fun K2 hK => ?_)
      go_simp
      refine (flist_any _ _ G _ _ hHeld.q HLR.out).mono ?_
      rintro e w5 ⟨⟨a5, c5, rfl, ho5⟩, hb5⟩
      have HO5 : Hid (OwL 38 wr.heap.size (Q.length * 3) a5 c5 (Tb.fl Q.reverse) w5) := ho5
      go_wp2_with fail
      refine hK.out _ _ (hHeld.below hb5) (fun hHeld2 => ?_)
      clear hK hHeld hb5 ho5
      refine take_do (i := 4) (v := .agg #[.int .i64 r, .slice a5 Q.length c5]) rfl (by kernel_rfl) (by kernel_rfl) (by kernel_rfl) (fun _ _ _ h => h) (by rfl) ?_ (by assumption) ?_
      · intro w hSw
        go_simp
      simp only [Act.put, List.setIfInBounds_toArray, List.set_cons_zero, List.set_cons_succ]
      refine take_do (i := 6) (v := .agg #[.int .i64 r, .slice a5 Q.length c5, .slice pO O.length dO, .int .i64 0]) rfl (by kernel_rfl) (by kernel_rfl) (by kernel_rfl) (fun _ _ _ h => h) (by rfl) ?_ (by assumption) ?_
      · intro w hSw
        go_simp
      simp only [Act.put, List.setIfInBounds_toArray, List.set_cons_zero, List.set_cons_succ]
      obtain ⟨v0, v1, v2, v3, hv⟩ := hHeld2.res
      obtain ⟨⟨o0, o1, o2, o3⟩, z0, z1, z2, z3⟩ := rowN4 hv
      have HV := Lib.hid hv
      have hvl := hv.lt
      clear hv
      refine take_call (i := 7) rfl (by kernel_rfl) (fun K2 hK => ?_)
      go_simp
      have hsz0 := HSZ0.out
      have zr := rowN_put (rowN_put (rowN_put (rowN_put HV.out 0 (.int .i64 r) (by simp)) 1 (.slice a5 Q.length c5) (by simp)) 2 (.slice pO O.length dO) (by simp)) 3 (.int .i64 0) (by simp)
      have zb := (((hHeld2.bel.setCell (p := ⟨w.heap.size + 1, 0, none⟩) (by show w.heap.size ≤ w.heap.size + 1; omega) (.int .i64 r)).setCell (p := ⟨w.heap.size + 1, 1, none⟩) (by show w.heap.size ≤ w.heap.size + 1; omega) (.slice a5 Q.length c5)).setCell (p := ⟨w.heap.size + 1, 2, none⟩) (by show w.heap.size ≤ w.heap.size + 1; omega) (.slice pO O.length dO)).setCell (p := ⟨w.heap.size + 1, 3, none⟩) (by show w.heap.size ≤ w.heap.size + 1; omega) (.int .i64 0)
      have zk : ∀ k, k < w5.heap.size → k ≠ w.heap.size + 1 → ((((w5.setCell ⟨w.heap.size + 1, 0, none⟩ (.int .i64 r)).setCell ⟨w.heap.size + 1, 1, none⟩ (.slice a5 Q.length c5)).setCell ⟨w.heap.size + 1, 2, none⟩ (.slice pO O.length dO)).setCell ⟨w.heap.size + 1, 3, none⟩ (.int .i64 0)).heap[k]? = w5.heap[k]? := fun k _ hk => by
        rw [Below.heap_setCell _ _ _ _ (by show k ≠ w.heap.size + 1; exact hk), Below.heap_setCell _ _ _ _ (by show k ≠ w.heap.size + 1; exact hk), Below.heap_setCell _ _ _ _ (by show k ≠ w.heap.size + 1; exact hk), Below.heap_setCell _ _ _ _ (by show k ≠ w.heap.size + 1; exact hk)]
      clear o0 o1 o2 o3 z0 z1 z2 z3
      generalize (((w5.setCell ⟨w.heap.size + 1, 0, none⟩ (.int .i64 r)).setCell ⟨w.heap.size + 1, 1, none⟩ (.slice a5 Q.length c5)).setCell ⟨w.heap.size + 1, 2, none⟩ (.slice pO O.length dO)).setCell ⟨w.heap.size + 1, 3, none⟩ (.int .i64 0) = Z at zr zb zk ⊢
      have hq5 : ∀ k, inQ (w0.heap.size + 1) G Q.length k → k ≠ w.heap.size + 1 := fun k hk => by have := (hHeld2.q.lt hk).1; omega
      refine hK.out _ _ ⟨hHeld2.tub.of_block (zk _ hHeld2.tub.lt (by omega)), ⟨_, _, _, _, zr⟩, hHeld2.q.same (fun k hk hl => zk k hl (hq5 k hk)), hHeld2.own.keep (fun k e hk => zk k hk (by have := (HOLT.out k e).1; omega)), zb⟩ (fun hHeld3 => ?_)
      refine take_do (i := 8) (v := .nilIface) rfl (by kernel_rfl) (by kernel_rfl) (by kernel_rfl) (fun _ _ _ h => h) (by rfl) ?_ (by assumption) ?_
      · intro w hSw
        go_simp
      simp only [Act.put, List.setIfInBounds_toArray, List.set_cons_zero, List.set_cons_succ]
      refine wpAnyH_done (by kernel_rfl) ?_ _
      obtain ⟨⟨o0, o1, o2, o3⟩, _⟩ := rowN4 zr
      have HH3 := Lib.hid hHeld3.own
      have HL5 : Hid (OwL 38 wr.heap.size (Q.length * 3) a5 c5 (Tb.fl Q.reverse) Z) := HO5.out.keep (fun k e hk => zk k hk (by have := (HO5.out.lt e).1; have := HSZ3.out; omega))
      have HZB := Lib.hid zb
      clear hK hHeld2 hHeld3 zr zb zk hq5
      go_wp2_with fail
      refine bodyPost_ret (v := .tuple #[toV r a5 Q.length c5 pO O.length dO 0, .nilIface]) (by simp only [results, Tryd.results35]; simp [go_sem, o0, o1, o2, o3]) rfl ⟨Or.inr ⟨by rw [HC.out, HRN.out], a5, c5, pO, dO, ?_, ?_⟩, HZB.out⟩
      · rw [HC.out, HRN.out]; simp
      · rw [HC.out, HRN.out]
        have e1 : Q.reverse.length = Q.length := by simp
        have h1 := HL5.out
        rw [← e1] at h1
        have hsz3 := HSZ3.out
        exact ⟨h1.low (by omega), HH3.out.low (Nat.zero_le _) |> fun h => by
          rcases h with h | ⟨g, e, _, h⟩
          · exact Or.inl h
          · exact Or.inr ⟨g, e, by have := (HOLT.out g e).1; omega, h⟩, fun k e1 e2 => by
          have := (HL5.out.lt e1).1
          have := (HOLT.out k e2).2
          omega⟩
end Go.Proofs.YtjmnehlgefpheaaDoor
