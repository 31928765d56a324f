/-
  Plugs taken off a filling, whole and in part.
-/
import Derived.Test.YtjmnehlgefpheaaDoorTbDc
namespace Go.Proofs.YtjmnehlgefpheaaDoor
open Go.RowKit Go.Deep

theorem pg_cons (q : Tb.Pc) (Q : List Tb.Pc) (j : Nat) : Tb.pg (q :: Q) (j + 1) = Tb.pg Q j := by simp [Tb.pg]
theorem pg_head (q : Tb.Pc) (Q : List Tb.Pc) : Tb.pg (q :: Q) 0 = q := by simp [Tb.pg]
theorem nxA_succ (G : Nat → Nat) (j n : Nat) : nxA (fun i => G (i + 1)) j n = nxA G (j + 1) (n + 1) := by
  unfold nxA
  by_cases h : j < n
  · rw [if_pos h, if_pos (by omega)]
  · rw [if_neg h, if_neg (by omega)]
/-- The plug at the end is gone. -/
theorem Que.tail {B h : Nat} {G : Nat → Nat} {q : Tb.Pc} {Q : List Tb.Pc} {W W' : World} (u : Que B h G (q :: Q) W) {bg : Option Addr} (hbg : 0 < (q :: Q).length → bg = some ⟨G ((q :: Q).length - 1), 0, none⟩)
    (h1 : W'.rowIs h 93 3 (rowN (fiL (nxA G 1 (Q.length + 1)) bg Q.length))) (hb : ∀ k, k < W.heap.size → k ≠ h → W'.heap[k]? = W.heap[k]?) : Que B h (fun i => G (i + 1)) Q W' := by
  have el : (q :: Q).length = Q.length + 1 := rfl
  refine ⟨⟨bg, by rw [nxA_succ]; exact h1, fun h0 => ?_⟩, fun j hj => ?_, fun i j hi hj e => ?_, ⟨u.lo.1, fun j hj => u.lo.2 (j + 1) (by rw [el]; omega)⟩, fun j hj => u.ne (j + 1) (by rw [el]; omega)⟩
  · rw [hbg (by rw [el]; omega), el]
    have : Q.length + 1 - 1 = Q.length - 1 + 1 := by omega
    rw [this]
  · have hn := u.node (j + 1) (by rw [el]; omega)
    rw [pg_cons, el] at hn
    rw [nxA_succ]
    exact hn.of_block (hb _ hn.lt (u.ne (j + 1) (by rw [el]; omega)))
  · have := u.inj (i + 1) (j + 1) (by rw [el]; omega) (by rw [el]; omega) e
    omega
set_option maxRecDepth 100000 in
set_option maxHeartbeats 4000000 in
theorem takeOff_any (B h : Nat) (G : Nat → Nat) (q : Tb.Pc) (Q : List Tb.Pc) (w : World) (u : Que B h G (q :: Q) w) (hl : Q.length ≤ 1000) :
    Calls Tryd.prog 61 #[.pointer (some ⟨h, 0, none⟩)] w fun e w' => e = .returned (pcV q) ∧ Que B h (fun i => G (i + 1)) Q w' ∧ OnlyP (fun k => k = h) w w' := by
  obtain ⟨bg, hf, hbg⟩ := u.fill
  obtain ⟨⟨f0, f1, f2⟩, z0, z1, z2⟩ := rowN3 hf
  have hh : h < w.heap.size := hf.lt
  have hn := u.node 0 (by simp)
  rw [pg_head] at hn
  obtain ⟨⟨n0, n1, n2, n3⟩, _⟩ := rowN4 hn
  have hgl : G 0 < w.heap.size := hn.lt
  have hgh : G 0 ≠ h := u.ne 0 (by simp)
  have e1 : nxA G 0 (q :: Q).length = some ⟨G 0, 0, none⟩ := by unfold nxA; rw [if_pos (by simp)]
  rw [e1] at f0
  have el : ((q :: Q).length : Int) = (Q.length : Int) + 1 := by simp
  rw [el] at f2
  have HU := Lib.hid u
  have HF := Lib.hid hf
  have HBG := Lib.hid hbg
  clear u hf hbg hn e1 el
  go_enter Tryd.func61, Tryd.ntmps61
  go_wp2_with fail
  refine bodyPost_ret (v := pcV q) (by simp only [results, Tryd.results61]; simp [go_sem]) rfl ⟨rfl, ?_, ?_⟩
  · refine HU.out.tail HBG.out (nrow_below (rowN_put (rowN_put HF.out 0 _ (by simp)) 2 _ (by simp)) (nbel_alloc _ _)) (fun k hk hne => ?_)
    rw [Below.heap_alloc _ _ _ (by simpa using hk), Below.heap_setCell _ _ _ _ (by show k ≠ h; exact hne), Below.heap_setCell _ _ _ _ (by show k ≠ h; exact hne)]
  · exact (((OnlyP.refl (fun k => k = h) w).set (p := ⟨h, 0, none⟩) rfl _).set (p := ⟨h, 2, none⟩) rfl _).alloc _
theorem nrow_drew3 {w : World} {g : Nat} {t : TypeId} {m : Nat} {F : Nat → Value} (h : w.rowIs g t m F) : w.drew.drew.drew.rowIs g t m F := h.of_block rfl
set_option maxRecDepth 100000 in
set_option maxHeartbeats 4000000 in
theorem part_any (g : Nat) (q : Tb.Pc) (nx : Option Addr) (wv : Int) (w : World) (hn : w.rowIs g 99 4 (rowN (plL q nx))) (hq : Tb.Ok q) (h0 : 0 < wv) (h1 : wv < q.w) :
    Calls Tryd.prog 60 #[.pointer (some ⟨g, 0, none⟩), .int .i64 wv] w fun e w' => e = .returned (pcV (Tb.partOf q wv)) ∧ w'.rowIs g 99 4 (rowN (plL (Tb.restOf q wv) nx)) ∧ OnlyP (fun k => k = g) w w' := by
  obtain ⟨⟨n0, n1, n2, n3⟩, y0, y1, y2, y3⟩ := rowN4 hn
  have hgl : g < w.heap.size := hn.lt
  have HN := Lib.hid hn
  obtain ⟨⟨m0, m1⟩, c0, c1⟩ := Tb.cut_bd hq (by omega) (by omega : wv ≤ q.w)
  obtain ⟨⟨q0, q1⟩, ⟨q2, q3⟩, q4, q5⟩ := hq
  have hz : (q.w == 0) = false := by simp; omega
  have t0 : 0 ≤ (q.g * wv).tdiv q.w := c0
  have t1 : (q.g * wv).tdiv q.w ≤ q.g := c1
  clear hn c0 c1
  go_enter Tryd.func60, Tryd.ntmps60
  go_wp2_with fail
  go_region
  go_wp2_with fail
  go_region
  go_wp2_with fail
  go_region
  go_wp2_with fail
  refine bodyPost_ret (v := pcV (Tb.partOf q wv)) (by simp only [results, Tryd.results60]; simp [go_sem, Tb.partOf, Tb.cut]) rfl ⟨rfl, ?_, ?_⟩
  · exact nrow_drew3 (nrow_below (nrow_below (rowN_put (rowN_put HN.out 0 (.int .i64 (q.w - wv)) (by simp)) 1 (.int .i64 (q.g - (q.g * wv).tdiv q.w)) (by simp)) (nbel_alloc _ _)) (nbel_alloc _ _))
  · exact (((((((OnlyP.refl (fun k => k = g) w).set (p := ⟨g, 0, none⟩) rfl _).set (p := ⟨g, 1, none⟩) rfl _).alloc _).alloc _).drew).drew).drew
/-- The plug at the end is another one, at the same place. -/
theorem Que.head {B h : Nat} {G : Nat → Nat} {q q' : Tb.Pc} {Q : List Tb.Pc} {W W' : World} (u : Que B h G (q :: Q) W) (h1 : W'.rowIs (G 0) 99 4 (rowN (plL q' (nxA G 1 (Q.length + 1))))) (ho : OnlyP (fun k => k = G 0) W W') : Que B h G (q' :: Q) W' := by
  have el : (q' :: Q).length = (q :: Q).length := rfl
  obtain ⟨bg, f1, f2⟩ := u.fill
  refine ⟨⟨bg, ho.row f1 (fun e => u.ne 0 (by simp) e.symm), f2⟩, fun j hj => ?_, u.inj, u.lo, u.ne⟩
  by_cases e : j = 0
  · subst e
    rw [pg_head]
    exact h1
  · obtain ⟨i, rfl⟩ : ∃ i, j = i + 1 := ⟨j - 1, by omega⟩
    have hn := u.node (i + 1) hj
    rw [pg_cons] at hn ⊢
    exact ho.row hn (fun e2 => by have := u.inj (i + 1) 0 hj (by simp) e2; omega)
theorem own_only {B n s : Nat} {t : TypeId} {v : Value} {xs : List Value} {W W' : World} {P : Nat → Prop} (h : W.ownsRow B t s v n xs) (ho : OnlyP P W W') (hp : ∀ k, P k → k < B) : W'.ownsRow B t s v n xs := by
  refine ⟨h.1, ?_⟩
  rcases h.2 with h2 | ⟨g, cap, cur, e1, e2, e3, e4, e5, e6, e7⟩
  · exact Or.inl h2
  · exact Or.inr ⟨g, cap, cur, e1, e2, (ho.block g (Array.getElem?_eq_some_iff.1 e3).1 (fun hg => by have := hp g hg; omega)).trans e3, e4, e5, e6, e7⟩
theorem OnlyP.grown {P : Nat → Prop} {w W W' : World} {row : Option Nat} (h : OnlyP P w W) (hg : W.grownBy W' row) (hr : ∀ k, row = some k → w.heap.size ≤ k) : OnlyP P w W' :=
  ⟨hg.os.trans h.os, hg.tape.trans h.tape, hg.output.trans h.output, Nat.le_trans h.size hg.size, fun k hk hp => (hg.block k (Nat.lt_of_lt_of_le hk h.size) (fun e => by have := hr k e.symm; omega)).trans (h.block k hk hp)⟩
theorem Que.grown {B h : Nat} {G : Nat → Nat} {Q : List Tb.Pc} {W W' : World} {row : Option Nat} (q : Que B h G Q W) (hg : W.grownBy W' row) (hr : ∀ k, inQ h G Q.length k → row ≠ some k) : Que B h G Q W' := q.same (fun k hk hl => hg.block k hl (fun e => hr k hk e.symm))
/-- What stands between two rounds of the driving out. -/
structure DoS (B h : Nat) (G0 : Nat → Nat) (N : Nat) (D1 D2 : List Tb.Pc) (x : Int) (ov : Value) (O : List Tb.Pc) (G : Nat → Nat) (Q : List Tb.Pc) (w W : World) : Prop where
  q : Que B h G Q W
  ok : ∀ p, p ∈ Q → Tb.Ok p
  x0 : 0 ≤ x
  x1 : x < Tb.wat Q
  d1 : O ++ (Tb.drive x Q).1 = D1
  d2 : (Tb.drive x Q).2 = D2
  own : W.ownsRow w.heap.size 38 3 ov O.length (pv O)
  fr : OnlyP (inQ h G0 N) w W
  sub : ∀ k, inQ h G Q.length k → inQ h G0 N k
  len : O.length + Q.length ≤ N
set_option maxRecDepth 100000 in
set_option maxHeartbeats 8000000 in
theorem driveOut_any (B h : Nat) (G : Nat → Nat) (Q : List Tb.Pc) (x : Int) (w : World) (u : Que B h G Q w) (hQ : ∀ p, p ∈ Q → Tb.Ok p) (h0 : 0 ≤ x) (h1 : x < Tb.wat Q) (hl : Q.length ≤ 1000) :
    Calls Tryd.prog 52 #[.pointer (some ⟨h, 0, none⟩), .int .i64 x] w fun e w' => (∃ v, e = .returned v ∧ w'.ownsRow w.heap.size 38 3 v (Tb.drive x Q).1.length (pv (Tb.drive x Q).1)) ∧ (∃ G', Que B h G' (Tb.drive x Q).2 w' ∧ ∀ k, inQ h G' (Tb.drive x Q).2.length k → inQ h G Q.length k) ∧ OnlyP (inQ h G Q.length) w w' := by
  obtain ⟨i1, hi1, hy0, hy1, hy2⟩ := info_parts pinfo
  have HS0 : Hid (DoS B h G Q.length (Tb.drive x Q).1 (Tb.drive x Q).2 x (.slice none 0 0) [] G Q w w) := ⟨u, hQ, h0, h1, by simp, rfl, World.ownsRow_nil _ _ _ _, OnlyP.refl _ _, fun _ h => h, by simp⟩
  have HLT : Hid (∀ k, inQ h G Q.length k → k < w.heap.size) := fun k hk => (u.lt hk).2
  have hx1 : x ≤ 1000000000 := by have := (Tb.wat_bd hQ).2; omega
  clear u hQ
  generalize (Tb.drive x Q).1 = D1 at *
  generalize (Tb.drive x Q).2 = D2 at *
  go_enter Tryd.func52, Tryd.ntmps52
  go_wp2_with fail
  go_loopw [1, 5] (fun xv ov wr => ∃ (y : Int) (O : List Tb.Pc) (G' : Nat → Nat) (Q' : List Tb.Pc), xv = .int .i64 y ∧ y ≤ 1000000000 ∧ Hid (DoS B h G Q.length D1 D2 y ov O G' Q' w wr)) (fun xv _ _ => (intOf xv).toNat)
  case atStart => exact ⟨x, [], G, Q, rfl, hx1, HS0⟩
  case round =>
    obtain ⟨y, O, G', Q', rfl, hy9, hS⟩ := hrel
    clear HS0
    by_cases hy : 0 < y
    · cases Q' with
      | nil => exact absurd hS.out.x1 (by simp [Tb.wat]; omega)
      | cons q Q' =>
        have hok := hS.out.ok q (List.mem_cons_self ..)
        obtain ⟨bg, hf, _⟩ := hS.out.q.fill
        obtain ⟨⟨f0, f1, f2⟩, _⟩ := rowN3 hf
        have hn := hS.out.q.node 0 (by simp)
        rw [pg_head] at hn
        obtain ⟨⟨n0, n1, n2, n3⟩, _⟩ := rowN4 hn
        have e1 : nxA G' 0 (q :: Q').length = some ⟨G' 0, 0, none⟩ := by unfold nxA; rw [if_pos (by simp)]
        rw [e1] at f0
        have HN := Lib.hid hn
        have HOK := Lib.hid hok
        have hos : w.heap.size ≤ wr.heap.size := hS.out.fr.size
        have hll : O.length + (Q'.length + 1) ≤ Q.length := by simpa using hS.out.len
        have HOL : Hid (O.length ≤ 1000) := by show _ ≤ _; omega
        clear hf hn e1 f1 f2 n1 n2 n3
        by_cases hq : y < q.w
        · go_wp2_with fail
          refine (part_any (G' 0) q _ y _ HN.out HOK.out hy hq).mono ?_
          rintro e w2 ⟨rfl, hr2, ho2⟩
          have HQ2 := Lib.hid (hS.out.q.head hr2 ho2)
          have hin : inQ h G Q.length (G' 0) := hS.out.sub _ (Or.inr ⟨0, by simp, rfl⟩)
          have HO2 := Lib.hid (own_only hS.out.own ho2 (fun k e => by rw [e]; exact HLT.out _ hin))
          have HF2 : Hid (OnlyP (inQ h G Q.length) w w2) := hS.out.fr.trans ho2 (fun k _ e => by rw [e]; exact hin)
          have HD : Hid (D1 = O ++ [Tb.partOf q y] ∧ D2 = Tb.restOf q y :: Q') := by
            have e1 := hS.out.d1
            have e2 := hS.out.d2
            rw [Tb.drive_part hy hq] at e1 e2
            exact ⟨e1.symm, e2.symm⟩
          have hos2 : w.heap.size ≤ w2.heap.size := HF2.out.size
          clear hr2 ho2 hin f0 n0 hos
          go_wp2_with (at_builtin; refine wpList_append_own _ rfl _ _ 23 rfl w.heap.size 38 i1 _ 3 24 Tryd.underlying23 hi1 hy0 hy1 hy2 rfl (by decide) _ _ _ rfl (HO2.out.alloc _) ⟨w2.heap.size, 0, none⟩ 1 1 (pcL (Tb.partOf q y)) rfl rfl ?d1 ?d2 ?d3 ?d4 ?d5 ?_)
          case d1 =>
            intro j x hj
            match j, hj with
            | 0, hj => simp at hj; subst hj; simp [Addr.add]
            | 1, hj => simp at hj; subst hj; simp [Addr.add]
            | 2, hj => simp at hj; subst hj; simp [Addr.add]
          case d2 =>
            intro x hx
            simp at hx
            rcases hx with rfl | rfl | rfl <;> rfl
          case d3 => unfold maxLen; have := HOL.out; omega
          case d4 => have := HOL.out; omega
          case d5 => simp; omega
          intro v5 W5 hown hgrow hnil
          have hrow : ∀ k, u5.ownBlock = some k → w.heap.size ≤ k := fun k e => (HO2.out.lt k e).1
          have hsub : ∀ k, inQ h G' (Tb.restOf q y :: Q').length k → inQ h G Q.length k := hS.out.sub
          have HF5 : Hid (OnlyP (inQ h G Q.length) w W5) := (HF2.out.alloc _).grown hgrow hrow
          have HQ5 : Hid (Que B h G' (Tb.restOf q y :: Q') W5) := (HQ2.out.below (nbel_alloc _ _)).grown hgrow (fun k hk e => by have := hrow k e; have := HLT.out k (hsub k hk); omega)
          have HO5 : Hid (W5.ownsRow w.heap.size 38 3 v5 (O ++ [Tb.partOf q y]).length (pv (O ++ [Tb.partOf q y]))) := by
            show W5.ownsRow _ _ _ _ _ _
            rw [pv_app, pv_one, List.length_append]
            exact hown
          have HSUB := Lib.hid hsub
          clear hown hgrow hnil hrow hsub hS HQ2 HO2 HF2
          go_wp2_with fail
          go_ret
          exact ⟨⟨v5, rfl, by rw [HD.out.1]; exact HO5.out⟩, ⟨G', by rw [HD.out.2]; exact HQ5.out, by rw [HD.out.2]; exact HSUB.out⟩, HF5.out⟩
        · go_wp2_with fail
          refine (takeOff_any B h G' q Q' _ hS.out.q (by omega)).mono ?_
          rintro e w2 ⟨rfl, hq2, ho2⟩
          have hin : inQ h G Q.length h := Or.inl rfl
          have HO2 := Lib.hid (own_only hS.out.own ho2 (fun k e => by rw [e]; exact HLT.out _ hin))
          have HF2 : Hid (OnlyP (inQ h G Q.length) w w2) := hS.out.fr.trans ho2 (fun k _ e => by rw [e]; exact hin)
          have HQ2 := Lib.hid hq2
          have hsub : ∀ k, inQ h (fun i => G' (i + 1)) Q'.length k → inQ h G Q.length k := fun k hk => hS.out.sub k (by
            rcases hk with rfl | ⟨j, hj, rfl⟩
            · exact Or.inl rfl
            · exact Or.inr ⟨j + 1, by simp; omega, rfl⟩)
          have HSUB := Lib.hid hsub
          have HE : Hid (((O ++ [q]) ++ (Tb.drive (y - q.w) Q').1 = D1 ∧ (Tb.drive (y - q.w) Q').2 = D2) ∧ y - q.w < Tb.wat Q') := by
            have e1 := hS.out.d1
            have e2 := hS.out.d2
            have e3 := hS.out.x1
            rw [Tb.drive_whole hy (by omega)] at e1 e2
            simp only [Tb.wat] at e3
            exact ⟨⟨by rw [← e1]; simp, e2⟩, by omega⟩
          have HOKS : Hid (∀ p, p ∈ Q' → Tb.Ok p) := fun p hp => hS.out.ok p (List.mem_cons_of_mem _ hp)
          have hos2 : w.heap.size ≤ w2.heap.size := HF2.out.size
          obtain ⟨⟨k0, k1⟩, _⟩ := HOK.out
          clear hq2 ho2 hin f0 n0 hos hS hsub
          go_wp2_with (at_builtin; refine wpList_append_own _ rfl _ _ 23 rfl w.heap.size 38 i1 _ 3 24 Tryd.underlying23 hi1 hy0 hy1 hy2 rfl (by decide) _ _ _ rfl ((HO2.out.alloc _).alloc _) ⟨w2.heap.size + 1, 0, none⟩ 1 1 (pcL q) rfl rfl ?d1 ?d2 ?d3 ?d4 ?d5 ?_)
          case d1 =>
            intro j x hj
            match j, hj with
            | 0, hj => simp at hj; subst hj; simp [Addr.add]
            | 1, hj => simp at hj; subst hj; simp [Addr.add]
            | 2, hj => simp at hj; subst hj; simp [Addr.add]
          case d2 =>
            intro x hx
            simp at hx
            rcases hx with rfl | rfl | rfl <;> rfl
          case d3 => unfold maxLen; have := HOL.out; omega
          case d4 => have := HOL.out; omega
          case d5 => simp; omega
          intro v5 W5 hown hgrow hnil
          have hrow : ∀ k, u5.ownBlock = some k → w.heap.size ≤ k := fun k e => (HO2.out.lt k e).1
          have HF5 : Hid (OnlyP (inQ h G Q.length) w W5) := ((HF2.out.alloc _).alloc _).grown hgrow hrow
          have HQ5 : Hid (Que B h (fun i => G' (i + 1)) Q' W5) := ((HQ2.out.below (nbel_alloc _ _)).below (nbel_alloc _ _)).grown hgrow (fun k hk e => by have := hrow k e; have := HLT.out k (HSUB.out k hk); omega)
          have HO5 : Hid (W5.ownsRow w.heap.size 38 3 v5 (O ++ [q]).length (pv (O ++ [q]))) := by
            show W5.ownsRow _ _ _ _ _ _
            rw [pv_app, pv_one, List.length_append]
            exact hown
          clear hown hgrow hnil hrow HQ2 HO2 HF2
          go_wp2_with fail
          go_roundw
          case rel => exact ⟨y - q.w, O ++ [q], _, Q', by go_num, by omega, ⟨HQ5.out, HOKS.out, by omega, HE.out.2, HE.out.1.1, HE.out.1.2, HO5.out, HF5.out, HSUB.out, by simp; omega⟩⟩
          case measure => simp [intOf]; omega
    · have hz : y = 0 := by have := hS.out.x0; omega
      subst hz
      have HD : Hid (D1 = O ∧ D2 = Q') := by
        have e1 := hS.out.d1
        have e2 := hS.out.d2
        rw [Tb.drive_nought (by omega)] at e1 e2
        exact ⟨by rw [← e1]; simp, e2.symm⟩
      go_wp2_with fail
      go_ret
      exact ⟨⟨_, rfl, by rw [HD.out.1]; exact hS.out.own⟩, ⟨G', by rw [HD.out.2]; exact hS.out.q, by rw [HD.out.2]; exact hS.out.sub⟩, hS.out.fr⟩
end Go.Proofs.YtjmnehlgefpheaaDoor
