/-
  The model's TubeRun.
-/
import Derived.Test.YtjmnehlgefpheaaDoorTbS1
import Derived.Maps.AppendAt
import Derived.Deep.RegionLaw
import Derived.Deep.DeepCutAuto
namespace Go.Proofs.YtjmnehlgefpheaaDoor
open Go.RowKit Go.Deep

theorem step_append_at {P : Program} {ops : Array Oper} {o : Oper} {a : Act} {w : World} {K : Act → World → Prop} {Q : Exit → Act → World → Prop} {E : Prop}
    (hg : o.guard = none) (s x : Operand) (t : TypeId) (hop : o.op = Op.call { callee := Callee.builtin Builtin.append, args := #[s, x], argTypes := #[t, t] }) (B : Nat)
    (e : TypeId) (i : TypeInfo) (z : Value) (size bytes : Nat) (h1 : P.underlying t = some (.slice e)) (h2 : P.info? e = some i) (h3 : i.zero = some z) (h4 : i.size = size) (h5 : i.bytes = bytes) (h6 : z.cells.size = size) (h7 : 0 < size)
    (v : Value) (n : Nat) (olds : List Value) (hs : a.eval s = v) (hown : w.ownsRow B e size v n olds)
    (ad : Addr) (m c : Nat) (news : List Value) (hx : a.eval x = .slice (some ad) m c) (hn : news.length = m * size) (hc : ∀ j u, news[j]? = some u → w.cell? (ad.add j) = some u) (h1c : ∀ u ∈ news, u.oneCell' = true)
    (b1 : n + m ≤ maxLen) (b2 : (n + m) * bytes ≤ 140737488355328) (hB : B ≤ w.heap.size)
    (hK : ∀ v' w', w'.ownsRow B e size v' (n + m) (olds ++ news) → w.grownBy w' v.ownBlock → K (a.put o.dst v') w') :
    if Region.wanted o (yielded ops a.tmps) = true then Oper.wp P o a w K Q else E := by
  have hw : Region.wanted o (yielded ops a.tmps) = true := by simp [Region.wanted, hg]
  rw [if_pos hw]
  obtain ⟨v', w', hrun, r1, r2, _⟩ := run_append_own (P := P) w B t o.type e i z size bytes h1 h2 h3 h4 h5 h6 h7 v n olds hown ad m c news hn hc h1c b1 b2 hB
  unfold Oper.wp
  simp [execOp, hop, resolve, invoke, builtin, hs, hx, hrun, Result.andThen]
  exact hK v' w' r1 r2
theorem blk_ne {T T' : TypeId} {g N o m : Nat} {f : Nat → Int} {F : Nat → Value} {W : World} (h : IsBlk T g N f W) (hr : W.rowIs o T' m F) (hT : T ≠ T') : g ≠ o := by
  intro e
  subst e
  obtain ⟨M, F', _, ⟨c1, h1, _⟩, _⟩ := h
  obtain ⟨c2, h2, _⟩ := hr
  rw [h1] at h2
  simp at h2
  exact hT h2.2
theorem owl_ne {B N c o m : Nat} {a : Option Addr} {f : Nat → Int} {F : Nat → Value} {W : World} (h : OwL 38 B N a c f W) (hr : W.rowIs o 29 m F) {k : Nat} (e : a = some ⟨k, 0, none⟩) : k ≠ o := by
  rcases h with h0 | ⟨g, e', _, hb⟩
  · rw [h0.1] at e; cases e
  · rw [e'] at e; cases e; exact blk_ne hb hr (by decide)
theorem own_ne {B n o m : Nat} {v : Value} {xs : List Value} {F : Nat → Value} {W : World} (ho : W.ownsRow B 38 3 v n xs) (hr : W.rowIs o 29 m F) {k : Nat} (hk : v.ownBlock = some k) : k ≠ o := by
  rcases ho.2 with h2 | ⟨g, cap, cur, e1, e2, e3, _⟩
  · rw [h2.1] at hk; cases hk
  · rw [e1] at hk
    obtain rfl : g = k := by simpa [Value.ownBlock] using hk
    intro e
    subst e
    obtain ⟨c2, hb, _⟩ := hr
    rw [e3] at hb
    simp at hb
/-- What stands from push to push of the model's run. -/
structure SrS (s o B : Nat) (r : Int) (m : Int) (RR : Ans) (pl : List Tb.Pc) (i : Nat) (aT : Option Addr) (kT : Nat) (ov : Value) (L O : List Tb.Pc) (w w0 W : World) : Prop where
  res : W.rowIs (s + 1) 29 4 (rowN (toL 0 none 0 0 none 0 0 0))
  out : W.rowIs o 29 4 (rowN [.int .i64 r, .slice aT L.length kT, ov, .int .i64 0])
  tl : OwL 38 B (L.length * 3) aT kT (Tb.fl L) W
  own : W.ownsRow B 38 3 ov O.length (pv O)
  ne : ∀ k, aT = some ⟨k, 0, none⟩ → ov.ownBlock ≠ some k
  fill : Tb.Fill r L.reverse
  run : Tb.runA m L.reverse O (pl.drop i) = RR
  old : Below B w0 W
  bo : B ≤ o
  len : O.length ≤ 61 * i
  bel : Below s w W
theorem SrS.below {s o B : Nat} {r m : Int} {RR : Ans} {pl : List Tb.Pc} {i : Nat} {aT : Option Addr} {kT : Nat} {ov : Value} {L O : List Tb.Pc} {w w0 W W' : World} (h : SrS s o B r m RR pl i aT kT ov L O w w0 W) (hb : Below W.heap.size W W') : SrS s o B r m RR pl i aT kT ov L O w w0 W' :=
  ⟨nrow_below h.res hb, nrow_below h.out hb, h.tl.below hb, own_below h.own hb, h.ne, h.fill, h.run, h.old.trans (hb.mono (Nat.le_of_lt (Nat.lt_of_le_of_lt h.bo h.out.lt))), h.bo, h.len, h.bel.trans (hb.mono (Nat.le_of_lt (Nat.lt_of_succ_lt (Nat.succ_lt_succ h.res.lt) |> fun _ => (by have := h.res.lt; omega))))⟩
theorem Tb.fill_right {r : Int} {L : List Tb.Pc} (h : Tb.Fill r L.reverse) : Tb.Right r L := ⟨by simpa using h.1, fun p hp => h.2.1 p (List.mem_reverse.2 hp), by have := h.2.2; rwa [Tb.wat_rev] at this⟩
/-- What stands when one has been pushed. -/
structure SrX (s o B xb : Nat) (r : Int) (m : Int) (RR : Ans) (pl : List Tb.Pc) (i : Nat) (aT : Option Addr) (kT : Nat) (ov : Value) (L O : List Tb.Pc) (X : Ans) (a5 : Option Addr) (k5 : Nat) (p5 : Option Addr) (d5 : Nat) (w w0 W : World) : Prop where
  st : SrS s o B r m RR pl i aT kT ov L O w w0 W
  row : W.rowIs xb 29 4 (rowN (toL (roomOf r X) a5 X.2.1.length k5 p5 X.2.2.length d5 X.1))
  two : TwO 0 a5 k5 X.2.1 p5 d5 X.2.2 W
  ob : o < xb
  sx : s + 1 < xb
set_option maxRecDepth 100000 in
set_option maxHeartbeats 8000000 in
theorem sRun_any (r : Int) (a : Option Addr) (l : List Tb.Pc) (k : Nat) (pa : Option Addr) (pl : List Tb.Pc) (kp : Nat) (m : Int) (w : World) (h : IsAt a (l.length * 3) (Tb.fl l) w) (hp : IsAt pa (pl.length * 3) (Tb.fl pl) w) (hpl : pl.length ≤ 1048576) :
    Calls Tryd.prog 8 #[tbV r a l.length k, .slice pa pl.length kp, .int .i64 m] w fun e w' => TuEnd w.heap.size r (runX m r l pl) e w' ∧ Below w.heap.size w w' := by
  obtain ⟨i1, hi1, hy0, hy1, hy2⟩ := info_parts pinfo
  obtain ⟨W, hW⟩ : ∃ W, W = (w.alloc (.cells #[.int .i64 r, .slice a l.length k] 25)).alloc (.cells #[.int .i64 0, .slice none 0 0, .slice none 0 0, .int .i64 0] 29) := ⟨_, rfl⟩
  have HB : Hid (Below w.heap.size w W) := by show Below _ _ _; rw [hW]; exact (nbel_alloc _ _).alloc (by simp) _
  have HO : Hid (W.rowIs (w.heap.size + 1) 29 4 (rowN (toL 0 none 0 0 none 0 0 0))) := by show W.rowIs _ _ _ _; rw [hW]; exact rowN_alloc' (by simp) _ _
  have HR : Hid (W.rowIs w.heap.size 25 2 (rowN [.int .i64 r, .slice a l.length k])) := by show W.rowIs _ _ _ _; rw [hW]; exact nrow_below (rowN_alloc w _ _) (nbel_alloc _ _)
  have HSZ : Hid (W.heap.size = w.heap.size + 2) := by show _ = _; rw [hW]; simp
  obtain ⟨⟨x0, x1⟩, _⟩ := rowN2 HR.out
  obtain ⟨⟨o0, o1, o2, o3⟩, z0, z1, z2, z3⟩ := rowN4 HO.out
  have hol := HO.out.lt
  rw [hW] at x0 x1 o0 o1 o2 o3 z0 z1 z2 z3 hol
  have HW := Lib.hid hW
  have H := Lib.hid (h.below HB.out)
  have HP := Lib.hid (hp.below HB.out)
  clear hW h hp
  have BAD : Hid (∀ (V : World) (c : Int), c ≠ 0 → runX m r l pl = (c, [], []) → V.rowIs (w.heap.size + 1) 29 4 (rowN (toL 0 none 0 0 none 0 0 0)) → Below w.heap.size w V → ∃ Z, Z = ((((V.setCell ⟨w.heap.size + 1, 0, none⟩ (.int .i64 0)).setCell ⟨w.heap.size + 1, 1, none⟩ (.slice none 0 0)).setCell ⟨w.heap.size + 1, 2, none⟩ (.slice none 0 0)).setCell ⟨w.heap.size + 1, 3, none⟩ (.int .i64 c)) ∧ Z.rowIs (w.heap.size + 1) 29 4 (rowN (toL 0 none 0 0 none 0 0 c)) ∧ TuEnd w.heap.size r (runX m r l pl) (.returned (toV 0 none 0 0 none 0 0 c)) Z ∧ Below w.heap.size w Z) := by
    intro V c hc he hV hb
    exact ⟨_, rfl, put4 hV _ _ _ _, by rw [he]; exact TuEnd.bad hc _, bel4 (g := w.heap.size + 1) hb (by omega) _ _ _ _⟩
  by_cases hl : 60 < pl.length
  · have hz : (60 : Int) < (pl.length : Int) := by omega
    obtain ⟨Z, hZ, zr, zt, zb⟩ := BAD.out W 2 (by omega) (by unfold runX; rw [if_pos hl]) HO.out HB.out
    have ZT := Lib.hid (And.intro zt zb)
    have ZR := Lib.hid zr
    rw [HW.out] at hZ
    have HZ := Lib.hid hZ
    clear hZ zr zt zb x0 x1 o0 o1 o2 o3 z0 z1 z2 z3 hol
    go_enter Tryd.func8, Tryd.ntmps8
    go_wp2_with fail
    refine bodyPost_ret (v := toV 0 none 0 0 none 0 0 2) ?_ rfl ⟨by rw [show runX m r l pl = (2, [], []) by unfold runX; rw [if_pos hl]]; exact TuEnd.bad (by omega) _, ?_⟩
    · simp only [results, Tryd.results8]; simp [go_sem]
    · exact (nbel_alloc _ _).alloc (by simp) _
  have hz : ¬ (60 : Int) < (pl.length : Int) := by omega
  have HEX : Hid (runX m r l pl = Tb.runOf m r l pl) := by show _ = _; unfold runX; rw [if_neg hl]
  clear x0 x1 o0 o1 o2 o3 z0 z1 z2 z3 hol
  by_cases m0 : m < 0
  · go_enter Tryd.func8, Tryd.ntmps8
    go_wp2_with fail
    refine bodyPost_ret (v := toV 0 none 0 0 none 0 0 1) ?_ rfl ⟨by rw [HEX.out, Tb.runOf_no (fun h => by omega)]; exact TuEnd.bad (by omega) _, ?_⟩
    · simp only [results, Tryd.results8]; simp [go_sem]
    · exact (nbel_alloc _ _).alloc (by simp) _
  by_cases m1 : 1000 < m
  · go_enter Tryd.func8, Tryd.ntmps8
    go_wp2_with fail
    refine bodyPost_ret (v := toV 0 none 0 0 none 0 0 1) ?_ rfl ⟨by rw [HEX.out, Tb.runOf_no (fun h => by omega)]; exact TuEnd.bad (by omega) _, ?_⟩
    · simp only [results, Tryd.results8]; simp [go_sem]
    · exact (nbel_alloc _ _).alloc (by simp) _
  obtain ⟨⟨x0, x1⟩, _⟩ := rowN2 HR.out
  rw [HW.out] at x0 x1
  go_enter Tryd.func8, Tryd.ntmps8
  go_wp2_with fail
  rw [← HW.out]
  clear HW x0 x1
  refine (sTRight_any r a l k _ H.out).mono ?_
  rintro e w0 ⟨⟨b1, rfl, hb1⟩, hb⟩
  have K1 := Lib.hid hb1
  have HR0 := Lib.hid (nrow_below HR.out hb)
  have HO0 := Lib.hid (nrow_below HO.out hb)
  have H0 := Lib.hid (H.out.below hb)
  have HP0 := Lib.hid (HP.out.below hb)
  have HB0 : Hid (Below w.heap.size w w0) := HB.out.trans (hb.mono HB.out.size)
  have HS0 : Hid (w.heap.size + 2 ≤ w0.heap.size) := by show _ ≤ _; have := HSZ.out; have := hb.size; omega
  clear hb1 hb HR HO H HB HP
  obtain ⟨⟨o0, o1, o2, o3⟩, z0, z1, z2, z3⟩ := rowN4 HO0.out
  have hol := HO0.out.lt
  rcases b1 with _ | _
  · obtain ⟨Z, hZ, zr, zt, zb⟩ := BAD.out w0 1 (by omega) (by rw [HEX.out]; exact Tb.runOf_no (fun h => by have := K1.out.2 h.2; cases this)) HO0.out HB0.out
    have HZ := Lib.hid hZ
    have ZT := Lib.hid (And.intro zt zb)
    have ZR := Lib.hid zr
    clear hZ zr zt zb
    go_wp2_with fail
    rw [← HZ.out]
    obtain ⟨⟨c0, c1, c2, c3⟩, _⟩ := rowN4 ZR.out
    exact bodyPost_ret (v := toV 0 none 0 0 none 0 0 1) (by simp only [results, Tryd.results8]; simp [go_sem, c0, c1, c2, c3]) rfl ZT.out
  have HRT : Hid (Tb.Right r l) := K1.out.1 rfl
  have HLEN : Hid (1 ≤ l.length ∧ l.length ≤ 60) := HRT.out.1
  obtain ⟨g, ea, c0, _⟩ := H0.out.pc (i := 0) (by have := HLEN.out; omega)
  subst ea
  obtain ⟨RR, hRR⟩ : ∃ RR, RR = Tb.runA m l.reverse [] pl := ⟨_, rfl⟩
  have HC : Hid (runX m r l pl = (RR.1, RR.2.1.reverse, RR.2.2)) := by show _ = _; rw [HEX.out, hRR]; exact Tb.runOf_yes ⟨⟨by omega, by omega⟩, HRT.out⟩
  have HRR := Lib.hid hRR
  have hm0 : 0 ≤ m := by omega
  have hm1 : m ≤ 1000 := by omega
  have hlen := HLEN.out
  have HD2 : Hid (∀ (V : World), Below w0.heap.size w0 V → ∀ j u, (pv l)[j]? = some u → V.cell? ((⟨g, 0, none⟩ : Addr).add j) = some u) := by
    intro V hV j u hj
    have hjl : j < l.length * 3 := by
      have := (List.getElem?_eq_some_iff.1 hj).1
      rwa [pv_len] at this
    rw [pv_get l hjl] at hj
    cases hj
    rcases H0.out.below hV with h | ⟨b, e, h⟩
    · omega
    · cases e
      rw [Addr.add_lit, Nat.zero_add]
      exact h j hjl
  have H1C : Hid (∀ u, u ∈ pv l → u.oneCell' = true) := fun u hu => by obtain ⟨z, rfl⟩ := pv_undef hu; rfl
  clear K1 hRR c0 o0 o1 o2 o3 z0 z1 z2 z3 hol
  go_wp2_with fail
  go_cut [7] (fun p W => ∃ o aT kT, p = .pointer (some ⟨o, 0, none⟩) ∧ Hid (SrS w.heap.size o w0.heap.size r m RR pl 0 aT kT (.slice none 0 0) l [] w w0 W))
  case first =>
    refine wp_region_held_drew (S := fun V => V.rowIs w.heap.size 25 2 (rowN [.int .i64 r, .slice (some ⟨g, 0, none⟩) l.length k]) ∧ Below w0.heap.size w0 V) (by kernel_rfl) ⟨nrow_below HR0.out (Below.refl _ _).drew, (Below.refl _ _).drew⟩ (fun hHeld => ?_)
    obtain ⟨Z, hZ⟩ : ∃ Z, Z = w0.drew := ⟨_, rfl⟩
    rw [← hZ] at hHeld ⊢
    clear hZ
    refine take_do (i := 0) (v := .pointer (some ⟨w.heap.size, 0, none⟩)) rfl (by kernel_rfl) (by kernel_rfl) (by kernel_rfl) (fun _ _ _ h => h) (by rfl) ?_ (by assumption) ?_
    · intro w hSw
      go_simp
    simp only [Act.put, List.setIfInBounds_toArray, List.set_cons_zero, List.set_cons_succ]
    refine take_do (i := 1) (v := .int .i64 r) rfl (by kernel_rfl) (by kernel_rfl) (by kernel_rfl) (fun _ _ _ h => h) (by rfl) ?_ (by assumption) ?_
    · intro w hSw
      obtain ⟨⟨x0, x1⟩, _⟩ := rowN2 hSw.1
      go_simp
    simp only [Act.put, List.setIfInBounds_toArray, List.set_cons_zero, List.set_cons_succ]
    refine take_do (i := 3) (v := .pointer (some ⟨w.heap.size, 1, none⟩)) rfl (by kernel_rfl) (by kernel_rfl) (by kernel_rfl) (fun _ _ _ h => h) (by rfl) ?_ (by assumption) ?_
    · intro w hSw
      go_simp
    simp only [Act.put, List.setIfInBounds_toArray, List.set_cons_zero, List.set_cons_succ]
    refine take_do (i := 4) (v := .slice (some ⟨g, 0, none⟩) l.length k) rfl (by kernel_rfl) (by kernel_rfl) (by kernel_rfl) (fun _ _ _ h => h) (by rfl) ?_ (by assumption) ?_
    · intro w hSw
      obtain ⟨⟨x0, x1⟩, _⟩ := rowN2 hSw.1
      go_simp
    simp only [Act.put, List.setIfInBounds_toArray, List.set_cons_zero, List.set_cons_succ]
    refine wpAnyH_ready (rs := [2, 8]) (by kernel_rfl) (by simp) (AllReadyH.cons (at_drop (i := 2) rfl) (fun K2 hK => ?_) (AllReadyH.cons (at_drop (i := 8) rfl) (fun K2 hK => ?_) (AllReadyH.nil)))
    · obtain ⟨Z1, hZ1⟩ : ∃ Z1, Z1 = Z.alloc (.cells #[] 38) := ⟨_, rfl⟩
      have hbZ1 : Below Z.heap.size Z Z1 := by rw [hZ1]; exact nbel_alloc _ _
      have OW : Hid (Z1.ownsRow w0.heap.size 38 3 (.slice (some ⟨Z.heap.size, 0, none⟩) 0 0) 0 []) := by show World.ownsRow _ _ _ _ _ _ _; rw [hZ1]; exact World.ownsRow_made Z #[] 0 hHeld.2.size (Nat.zero_le _) rfl
      go_simp
      rw [← hZ1]
      clear hZ1
      refine hK.out _ _ ⟨nrow_below hHeld.1 hbZ1, hHeld.2.trans (hbZ1.mono hHeld.2.size)⟩ (fun hHeld2 => ?_)
      clear hK hHeld
      have hHeld := hHeld2
      clear hHeld2 hbZ1
      refine wpAnyH_ready (rs := [5, 8]) (by kernel_rfl) (by simp) (AllReadyH.cons (at_drop (i := 5) rfl) (fun K2 hK => ?_) (AllReadyH.cons (at_drop (i := 8) rfl) (fun K2 hK => ?_) (AllReadyH.nil)))
      · refine step_append_at rfl (.tmp 28) (.tmp 30) 23 rfl w0.heap.size 38 i1 _ 3 24 Tryd.underlying23 hi1 hy0 hy1 hy2 rfl (by decide) _ 0 [] rfl OW.out ⟨g, 0, none⟩ l.length k (pv l) rfl (pv_len _) (HD2.out _ hHeld.2) H1C.out (by unfold maxLen; omega) (by omega) hHeld.2.size ?_
        intro v5 Z2 hown hgrow
        have hbZ2 : Below w0.heap.size Z1 Z2 := (Below.refl _ _).grown hgrow hHeld.2.size (fun k e => (OW.out.lt k e).1)
        have OW2 : Hid (Z2.ownsRow w0.heap.size 38 3 v5 l.length (pv l)) := by show World.ownsRow _ _ _ _ _ _ _; simpa using hown
        clear OW
        have OW := OW2
        obtain ⟨aT, kT, ev5, how⟩ := owl_of OW.out
        subst ev5
        have HTL := Lib.hid how
        refine hK.out _ _ ⟨hHeld.1.of_block (hbZ2.block _ (by have := HS0.out; omega)), hHeld.2.trans hbZ2⟩ (fun hHeld2 => ?_)
        clear hK hHeld hown hgrow how
        have hHeld := hHeld2
        clear hHeld2 hbZ2 OW2
        simp only [Act.put, List.setIfInBounds_toArray, List.set_cons_zero, List.set_cons_succ]
        refine take_do (i := 6) (v := .agg #[.int .i64 r, .slice aT l.length kT]) rfl (by kernel_rfl) (by kernel_rfl) (by kernel_rfl) (fun _ _ _ h => h) (by rfl) ?_ (by assumption) ?_
        · intro w hSw
          go_simp
        simp only [Act.put, List.setIfInBounds_toArray, List.set_cons_zero, List.set_cons_succ]
        refine take_do (i := 7) (v := .agg #[.int .i64 r, .slice aT l.length kT, .slice none 0 0, .int .i64 0]) rfl (by kernel_rfl) (by kernel_rfl) (by kernel_rfl) (fun _ _ _ h => h) (by rfl) ?_ (by assumption) ?_
        · intro w hSw
          go_simp
        simp only [Act.put, List.setIfInBounds_toArray, List.set_cons_zero, List.set_cons_succ]
        refine wpAnyH_ready (rs := [8]) (by kernel_rfl) (by simp) (AllReadyH.cons (at_drop (i := 8) rfl) (fun K2 hK => ?_) (AllReadyH.nil))
        obtain ⟨Z3, hZ3⟩ : ∃ Z3, Z3 = Z2.alloc (.cells #[.int .i64 0, .slice none 0 0, .slice none 0 0, .int .i64 0] 29) := ⟨_, rfl⟩
        have hbZ3 : Below Z2.heap.size Z2 Z3 := by rw [hZ3]; exact nbel_alloc _ _
        have HV : Hid (Z3.rowIs Z2.heap.size 29 4 (rowN (toL 0 none 0 0 none 0 0 0))) := by show World.rowIs _ _ _ _ _; rw [hZ3]; exact rowN_alloc _ _ _
        obtain ⟨o, ho⟩ : ∃ o, o = Z2.heap.size := ⟨_, rfl⟩
        rw [← ho] at HV
        have HOB : Hid (w0.heap.size ≤ o) := by show _ ≤ _; rw [ho]; exact hHeld.2.size
        have OW2 := Lib.hid (own_below OW.out hbZ3)
        clear OW
        have OW := OW2
        clear OW2
        go_simp
        rw [← hZ3, ← ho]
        clear hZ3
        refine hK.out _ _ ⟨nrow_below hHeld.1 hbZ3, hHeld.2.trans (hbZ3.mono hHeld.2.size)⟩ (fun hHeld2 => ?_)
        clear hK hHeld ho
        have hHeld := hHeld2
        clear hHeld2 hbZ3
        obtain ⟨aT, kT, ev6, how⟩ := owl_of OW.out
        cases ev6
        have HTL := Lib.hid how
        have zr := put4 HV.out (.int .i64 r) (.slice aT l.length kT) (.slice none 0 0) (.int .i64 0)
        have hoo := HOB.out
        have zk := fun (k : Nat) (hk : k ≠ o) => blk4 Z3 hk (.int .i64 r) (.slice aT l.length kT) (.slice none 0 0) (.int .i64 0)
        have zb := bel4 (g := o) hHeld.2 hoo (.int .i64 r) (.slice aT l.length kT) (.slice none 0 0) (.int .i64 0)
        have zt := HTL.out.keep (fun k e _ => zk k (owl_ne HTL.out HV.out e))
        obtain ⟨⟨o0, o1, o2, o3⟩, z0, z1, z2, z3⟩ := rowN4 HV.out
        have hol := HV.out.lt
        refine take_call (i := 9) rfl (by kernel_rfl) (fun K2 hK => ?_)
        go_simp
        clear o0 o1 o2 o3 z0 z1 z2 z3 hol
        generalize (((Z3.setCell ⟨o, 0, none⟩ (.int .i64 r)).setCell ⟨o, 1, none⟩ (.slice aT l.length kT)).setCell ⟨o, 2, none⟩ (.slice none 0 0)).setCell ⟨o, 3, none⟩ (.int .i64 0) = Y at zr zk zb zt ⊢
        have hs0 := HS0.out
        refine hK.out _ _ ⟨hHeld.1.of_block (zk _ (by omega)), zb⟩ (fun hHeld2 => ?_)
        clear hK hHeld hHeld2
        refine wpAnyH_done (by kernel_rfl) ?_ _
        have HSF : Hid (SrS w.heap.size o w0.heap.size r m RR pl 0 aT kT (.slice none 0 0) l [] w w0 Y) := ⟨nrow_below HO0.out zb, zr, zt, World.ownsRow_nil _ _ _ _, fun k _ e => (by cases e), Tb.right_fill HRT.out, by rw [List.drop_zero]; exact HRR.out.symm, zb, hoo, by simp, HB0.out.trans (zb.mono HB0.out.size)⟩
        clear zr zk zb zt
        go_wp2_with fail
        go_meet
        case rel => exact ⟨o, aT, kT, rfl, HSF⟩
      · obtain ⟨Z2, hZ2⟩ : ∃ Z2, Z2 = Z1.alloc (.cells #[.int .i64 0, .slice none 0 0, .slice none 0 0, .int .i64 0] 29) := ⟨_, rfl⟩
        have hbZ2 : Below Z1.heap.size Z1 Z2 := by rw [hZ2]; exact nbel_alloc _ _
        have HV : Hid (Z2.rowIs Z1.heap.size 29 4 (rowN (toL 0 none 0 0 none 0 0 0))) := by show World.rowIs _ _ _ _ _; rw [hZ2]; exact rowN_alloc _ _ _
        obtain ⟨o, ho⟩ : ∃ o, o = Z1.heap.size := ⟨_, rfl⟩
        rw [← ho] at HV
        have HOB : Hid (w0.heap.size ≤ o) := by show _ ≤ _; rw [ho]; exact hHeld.2.size
        have OW2 := Lib.hid (own_below OW.out hbZ2)
        clear OW
        have OW := OW2
        clear OW2
        go_simp
        rw [← hZ2, ← ho]
        clear hZ2
        refine hK.out _ _ ⟨nrow_below hHeld.1 hbZ2, hHeld.2.trans (hbZ2.mono hHeld.2.size)⟩ (fun hHeld2 => ?_)
        clear hK hHeld ho
        have hHeld := hHeld2
        clear hHeld2 hbZ2
        refine wpAnyH_ready (rs := [5]) (by kernel_rfl) (by simp) (AllReadyH.cons (at_drop (i := 5) rfl) (fun K2 hK => ?_) (AllReadyH.nil))
        refine step_append_at rfl (.tmp 28) (.tmp 30) 23 rfl w0.heap.size 38 i1 _ 3 24 Tryd.underlying23 hi1 hy0 hy1 hy2 rfl (by decide) _ 0 [] rfl OW.out ⟨g, 0, none⟩ l.length k (pv l) rfl (pv_len _) (HD2.out _ hHeld.2) H1C.out (by unfold maxLen; omega) (by omega) hHeld.2.size ?_
        intro v5 Z3 hown hgrow
        have hbZ3 : Below w0.heap.size Z2 Z3 := (Below.refl _ _).grown hgrow hHeld.2.size (fun k e => (OW.out.lt k e).1)
        have OW2 : Hid (Z3.ownsRow w0.heap.size 38 3 v5 l.length (pv l)) := by show World.ownsRow _ _ _ _ _ _ _; simpa using hown
        have HV2 : Hid (Z3.rowIs o 29 4 (rowN (toL 0 none 0 0 none 0 0 0))) := HV.out.of_block (hgrow.block _ HV.out.lt (fun e => own_ne OW.out HV.out e.symm rfl))
        clear HV
        have HV := HV2
        clear HV2
        clear OW
        have OW := OW2
        obtain ⟨aT, kT, ev5, how⟩ := owl_of OW.out
        subst ev5
        have HTL := Lib.hid how
        refine hK.out _ _ ⟨hHeld.1.of_block (hbZ3.block _ (by have := HS0.out; omega)), hHeld.2.trans hbZ3⟩ (fun hHeld2 => ?_)
        clear hK hHeld hown hgrow how
        have hHeld := hHeld2
        clear hHeld2 hbZ3 OW2
        simp only [Act.put, List.setIfInBounds_toArray, List.set_cons_zero, List.set_cons_succ]
        refine take_do (i := 6) (v := .agg #[.int .i64 r, .slice aT l.length kT]) rfl (by kernel_rfl) (by kernel_rfl) (by kernel_rfl) (fun _ _ _ h => h) (by rfl) ?_ (by assumption) ?_
        · intro w hSw
          go_simp
        simp only [Act.put, List.setIfInBounds_toArray, List.set_cons_zero, List.set_cons_succ]
        refine take_do (i := 7) (v := .agg #[.int .i64 r, .slice aT l.length kT, .slice none 0 0, .int .i64 0]) rfl (by kernel_rfl) (by kernel_rfl) (by kernel_rfl) (fun _ _ _ h => h) (by rfl) ?_ (by assumption) ?_
        · intro w hSw
          go_simp
        simp only [Act.put, List.setIfInBounds_toArray, List.set_cons_zero, List.set_cons_succ]
        obtain ⟨aT, kT, ev6, how⟩ := owl_of OW.out
        cases ev6
        have HTL := Lib.hid how
        have zr := put4 HV.out (.int .i64 r) (.slice aT l.length kT) (.slice none 0 0) (.int .i64 0)
        have hoo := HOB.out
        have zk := fun (k : Nat) (hk : k ≠ o) => blk4 Z3 hk (.int .i64 r) (.slice aT l.length kT) (.slice none 0 0) (.int .i64 0)
        have zb := bel4 (g := o) hHeld.2 hoo (.int .i64 r) (.slice aT l.length kT) (.slice none 0 0) (.int .i64 0)
        have zt := HTL.out.keep (fun k e _ => zk k (owl_ne HTL.out HV.out e))
        obtain ⟨⟨o0, o1, o2, o3⟩, z0, z1, z2, z3⟩ := rowN4 HV.out
        have hol := HV.out.lt
        refine take_call (i := 9) rfl (by kernel_rfl) (fun K2 hK => ?_)
        go_simp
        clear o0 o1 o2 o3 z0 z1 z2 z3 hol
        generalize (((Z3.setCell ⟨o, 0, none⟩ (.int .i64 r)).setCell ⟨o, 1, none⟩ (.slice aT l.length kT)).setCell ⟨o, 2, none⟩ (.slice none 0 0)).setCell ⟨o, 3, none⟩ (.int .i64 0) = Y at zr zk zb zt ⊢
        have hs0 := HS0.out
        refine hK.out _ _ ⟨hHeld.1.of_block (zk _ (by omega)), zb⟩ (fun hHeld2 => ?_)
        clear hK hHeld hHeld2
        refine wpAnyH_done (by kernel_rfl) ?_ _
        have HSF : Hid (SrS w.heap.size o w0.heap.size r m RR pl 0 aT kT (.slice none 0 0) l [] w w0 Y) := ⟨nrow_below HO0.out zb, zr, zt, World.ownsRow_nil _ _ _ _, fun k _ e => (by cases e), Tb.right_fill HRT.out, by rw [List.drop_zero]; exact HRR.out.symm, zb, hoo, by simp, HB0.out.trans (zb.mono HB0.out.size)⟩
        clear zr zk zb zt
        go_wp2_with fail
        go_meet
        case rel => exact ⟨o, aT, kT, rfl, HSF⟩
    · obtain ⟨Z1, hZ1⟩ : ∃ Z1, Z1 = Z.alloc (.cells #[.int .i64 0, .slice none 0 0, .slice none 0 0, .int .i64 0] 29) := ⟨_, rfl⟩
      have hbZ1 : Below Z.heap.size Z Z1 := by rw [hZ1]; exact nbel_alloc _ _
      have HV : Hid (Z1.rowIs Z.heap.size 29 4 (rowN (toL 0 none 0 0 none 0 0 0))) := by show World.rowIs _ _ _ _ _; rw [hZ1]; exact rowN_alloc _ _ _
      obtain ⟨o, ho⟩ : ∃ o, o = Z.heap.size := ⟨_, rfl⟩
      rw [← ho] at HV
      have HOB : Hid (w0.heap.size ≤ o) := by show _ ≤ _; rw [ho]; exact hHeld.2.size
      go_simp
      rw [← hZ1, ← ho]
      clear hZ1
      refine hK.out _ _ ⟨nrow_below hHeld.1 hbZ1, hHeld.2.trans (hbZ1.mono hHeld.2.size)⟩ (fun hHeld2 => ?_)
      clear hK hHeld ho
      have hHeld := hHeld2
      clear hHeld2 hbZ1
      refine wpAnyH_ready (rs := [2]) (by kernel_rfl) (by simp) (AllReadyH.cons (at_drop (i := 2) rfl) (fun K2 hK => ?_) (AllReadyH.nil))
      obtain ⟨Z2, hZ2⟩ : ∃ Z2, Z2 = Z1.alloc (.cells #[] 38) := ⟨_, rfl⟩
      have hbZ2 : Below Z1.heap.size Z1 Z2 := by rw [hZ2]; exact nbel_alloc _ _
      have OW : Hid (Z2.ownsRow w0.heap.size 38 3 (.slice (some ⟨Z1.heap.size, 0, none⟩) 0 0) 0 []) := by show World.ownsRow _ _ _ _ _ _ _; rw [hZ2]; exact World.ownsRow_made Z1 #[] 0 hHeld.2.size (Nat.zero_le _) rfl
      have HV2 := Lib.hid (nrow_below HV.out hbZ2)
      clear HV
      have HV := HV2
      clear HV2
      go_simp
      rw [← hZ2]
      clear hZ2
      refine hK.out _ _ ⟨nrow_below hHeld.1 hbZ2, hHeld.2.trans (hbZ2.mono hHeld.2.size)⟩ (fun hHeld2 => ?_)
      clear hK hHeld
      have hHeld := hHeld2
      clear hHeld2 hbZ2
      refine wpAnyH_ready (rs := [5]) (by kernel_rfl) (by simp) (AllReadyH.cons (at_drop (i := 5) rfl) (fun K2 hK => ?_) (AllReadyH.nil))
      refine step_append_at rfl (.tmp 28) (.tmp 30) 23 rfl w0.heap.size 38 i1 _ 3 24 Tryd.underlying23 hi1 hy0 hy1 hy2 rfl (by decide) _ 0 [] rfl OW.out ⟨g, 0, none⟩ l.length k (pv l) rfl (pv_len _) (HD2.out _ hHeld.2) H1C.out (by unfold maxLen; omega) (by omega) hHeld.2.size ?_
      intro v5 Z3 hown hgrow
      have hbZ3 : Below w0.heap.size Z2 Z3 := (Below.refl _ _).grown hgrow hHeld.2.size (fun k e => (OW.out.lt k e).1)
      have OW2 : Hid (Z3.ownsRow w0.heap.size 38 3 v5 l.length (pv l)) := by show World.ownsRow _ _ _ _ _ _ _; simpa using hown
      have HV2 : Hid (Z3.rowIs o 29 4 (rowN (toL 0 none 0 0 none 0 0 0))) := HV.out.of_block (hgrow.block _ HV.out.lt (fun e => own_ne OW.out HV.out e.symm rfl))
      clear HV
      have HV := HV2
      clear HV2
      clear OW
      have OW := OW2
      obtain ⟨aT, kT, ev5, how⟩ := owl_of OW.out
      subst ev5
      have HTL := Lib.hid how
      refine hK.out _ _ ⟨hHeld.1.of_block (hbZ3.block _ (by have := HS0.out; omega)), hHeld.2.trans hbZ3⟩ (fun hHeld2 => ?_)
      clear hK hHeld hown hgrow how
      have hHeld := hHeld2
      clear hHeld2 hbZ3 OW2
      simp only [Act.put, List.setIfInBounds_toArray, List.set_cons_zero, List.set_cons_succ]
      refine take_do (i := 6) (v := .agg #[.int .i64 r, .slice aT l.length kT]) rfl (by kernel_rfl) (by kernel_rfl) (by kernel_rfl) (fun _ _ _ h => h) (by rfl) ?_ (by assumption) ?_
      · intro w hSw
        go_simp
      simp only [Act.put, List.setIfInBounds_toArray, List.set_cons_zero, List.set_cons_succ]
      refine take_do (i := 7) (v := .agg #[.int .i64 r, .slice aT l.length kT, .slice none 0 0, .int .i64 0]) rfl (by kernel_rfl) (by kernel_rfl) (by kernel_rfl) (fun _ _ _ h => h) (by rfl) ?_ (by assumption) ?_
      · intro w hSw
        go_simp
      simp only [Act.put, List.setIfInBounds_toArray, List.set_cons_zero, List.set_cons_succ]
      obtain ⟨aT, kT, ev6, how⟩ := owl_of OW.out
      cases ev6
      have HTL := Lib.hid how
      have zr := put4 HV.out (.int .i64 r) (.slice aT l.length kT) (.slice none 0 0) (.int .i64 0)
      have hoo := HOB.out
      have zk := fun (k : Nat) (hk : k ≠ o) => blk4 Z3 hk (.int .i64 r) (.slice aT l.length kT) (.slice none 0 0) (.int .i64 0)
      have zb := bel4 (g := o) hHeld.2 hoo (.int .i64 r) (.slice aT l.length kT) (.slice none 0 0) (.int .i64 0)
      have zt := HTL.out.keep (fun k e _ => zk k (owl_ne HTL.out HV.out e))
      obtain ⟨⟨o0, o1, o2, o3⟩, z0, z1, z2, z3⟩ := rowN4 HV.out
      have hol := HV.out.lt
      refine take_call (i := 9) rfl (by kernel_rfl) (fun K2 hK => ?_)
      go_simp
      clear o0 o1 o2 o3 z0 z1 z2 z3 hol
      generalize (((Z3.setCell ⟨o, 0, none⟩ (.int .i64 r)).setCell ⟨o, 1, none⟩ (.slice aT l.length kT)).setCell ⟨o, 2, none⟩ (.slice none 0 0)).setCell ⟨o, 3, none⟩ (.int .i64 0) = Y at zr zk zb zt ⊢
      have hs0 := HS0.out
      refine hK.out _ _ ⟨hHeld.1.of_block (zk _ (by omega)), zb⟩ (fun hHeld2 => ?_)
      clear hK hHeld hHeld2
      refine wpAnyH_done (by kernel_rfl) ?_ _
      have HSF : Hid (SrS w.heap.size o w0.heap.size r m RR pl 0 aT kT (.slice none 0 0) l [] w w0 Y) := ⟨nrow_below HO0.out zb, zr, zt, World.ownsRow_nil _ _ _ _, fun k _ e => (by cases e), Tb.right_fill HRT.out, by rw [List.drop_zero]; exact HRR.out.symm, zb, hoo, by simp, HB0.out.trans (zb.mono HB0.out.size)⟩
      clear zr zk zb zt
      go_wp2_with fail
      go_meet
      case rel => exact ⟨o, aT, kT, rfl, HSF⟩
  case rest =>
    obtain ⟨o, aT, kT, rfl, hS0⟩ := hcut
    obtain ⟨W1, hW1⟩ : ∃ W1, W1 = wc := ⟨_, rfl⟩
    rw [← hW1] at hS0 ⊢
    clear hW1
    go_wp2_with fail
    go_loopw [8] (fun iv wr => ∃ (i : Nat) (aT : Option Addr) (kT : Nat) (ov : Value) (L O : List Tb.Pc), i ≤ pl.length ∧ iv = .int .i64 i ∧ Hid (SrS w.heap.size o w0.heap.size r m RR pl i aT kT ov L O w w0 wr)) (fun iv _ => pl.length - (intOf iv).toNat)
    case atStart => exact ⟨0, aT, kT, _, l, [], Nat.zero_le _, rfl, hS0⟩
    case round =>
      clear hS0
      clear aT kT
      obtain ⟨i, aT, kT, ov, L, O, hi, rfl, hS⟩ := hrel
      by_cases hlt : i < pl.length
      · have hltz : (i : Int) < (pl.length : Int) := by omega
        obtain ⟨b, eb, _⟩ := (HP0.out.below hS.out.old).pc hlt
        subst eb
        have HPC : Hid (∀ V, Below w0.heap.size w0 V → V.cell? ⟨b, i * 3, none⟩ = some (.int .i64 (Tb.pg pl i).w) ∧ V.cell? ⟨b, i * 3 + 1, none⟩ = some (.int .i64 (Tb.pg pl i).g) ∧ V.cell? ⟨b, i * 3 + 2, none⟩ = some (.int .i64 (Tb.pg pl i).b)) := by
          intro V hV
          obtain ⟨b', e', c⟩ := (HP0.out.below hV).pc hlt
          cases e'
          exact c
        have hpl60 : pl.length ≤ 60 := by omega
        go_wp2_with fail
        go_cut [9] (fun p W => ∃ xb a5 k5 p5 d5, p = .pointer (some ⟨xb, 0, none⟩) ∧ Hid (SrX w.heap.size o w0.heap.size xb r m RR pl i aT kT ov L O (Tb.pushX r L (Tb.pg pl i)) a5 k5 p5 d5 w w0 W))
        case first =>
          refine wp_region_held_drew (S := SrS w.heap.size o w0.heap.size r m RR pl i aT kT ov L O w w0) (by kernel_rfl) (hS.out.below (Below.refl _ _).drew) (fun hHeld => ?_)
          obtain ⟨Z, hZ⟩ : ∃ Z, Z = wr.drew := ⟨_, rfl⟩
          rw [← hZ] at hHeld ⊢
          clear hZ hS
          refine take_do (i := 0) (v := .pointer (some ⟨o, 0, none⟩)) rfl (by kernel_rfl) (by kernel_rfl) (by kernel_rfl) (fun _ _ _ h => h) (by rfl) ?_ (by assumption) ?_
          · intro w hSw
            go_simp
          simp only [Act.put, List.setIfInBounds_toArray, List.set_cons_zero, List.set_cons_succ]
          refine take_do (i := 1) (v := .agg #[.int .i64 r, .slice aT L.length kT]) rfl (by kernel_rfl) (by kernel_rfl) (by kernel_rfl) (fun _ _ _ h => h) (by rfl) ?_ (by assumption) ?_
          · intro w hSw
            obtain ⟨⟨o0, o1, o2, o3⟩, _⟩ := rowN4 hSw.out
            go_simp
          simp only [Act.put, List.setIfInBounds_toArray, List.set_cons_zero, List.set_cons_succ]
          refine take_do (i := 2) (v := .slice (some ⟨b, 0, none⟩) pl.length kp) rfl (by kernel_rfl) (by kernel_rfl) (by kernel_rfl) (fun _ _ _ h => h) (by rfl) ?_ (by assumption) ?_
          · intro w hSw
            go_simp
          simp only [Act.put, List.setIfInBounds_toArray, List.set_cons_zero, List.set_cons_succ]
          refine take_do (i := 3) (v := .int .i64 i) rfl (by kernel_rfl) (by kernel_rfl) (by kernel_rfl) (fun _ _ _ h => h) (by rfl) ?_ (by assumption) ?_
          · intro w hSw
            go_simp
          simp only [Act.put, List.setIfInBounds_toArray, List.set_cons_zero, List.set_cons_succ]
          refine take_do (i := 4) (v := .pointer (some ⟨b, i * 3, none⟩)) rfl (by kernel_rfl) (by kernel_rfl) (by kernel_rfl) (fun _ _ _ h => h) (by rfl) ?_ (by assumption) ?_
          · intro w hSw
            go_simp
          simp only [Act.put, List.setIfInBounds_toArray, List.set_cons_zero, List.set_cons_succ]
          refine take_do (i := 5) (v := pcV (Tb.pg pl i)) rfl (by kernel_rfl) (by kernel_rfl) (by kernel_rfl) (fun _ _ _ h => h) (by rfl) ?_ (by assumption) ?_
          · intro w hSw
            obtain ⟨c0, c1, c2⟩ := HPC.out w hSw.old
            go_simp
          simp only [Act.put, List.setIfInBounds_toArray, List.set_cons_zero, List.set_cons_succ]
          refine wpAnyH_ready (rs := [6, 7]) (by kernel_rfl) (by simp) (AllReadyH.cons (at_drop (i := 6) rfl) (fun K2 hK => ?_) (AllReadyH.cons (at_drop (i := 7) rfl) (fun K2 hK => ?_) (AllReadyH.nil)))
          · go_simp
            refine (sPush_any r aT L kT (Tb.pg pl i) _ hHeld.tl.at_).mono ?_
            rintro e Za ⟨⟨a5, k5, p5, d5, rfl, htw⟩, hb⟩
            have HTW : Hid (TwO 0 a5 k5 (Tb.pushX r L (Tb.pg pl i)).2.1 p5 d5 (Tb.pushX r L (Tb.pg pl i)).2.2 Za) := htw.low (Nat.zero_le _)
            go_wp2_with fail
            refine hK.out _ _ (hHeld.below hb) (fun hHeld2 => ?_)
            clear hK hHeld hb htw
            have hHeld := hHeld2
            clear hHeld2
            refine wpAnyH_ready (rs := [7]) (by kernel_rfl) (by simp) (AllReadyH.cons (at_drop (i := 7) rfl) (fun K2 hK => ?_) (AllReadyH.nil))
            obtain ⟨Zb, hZb⟩ : ∃ Zb, Zb = Za.alloc (.cells #[.int .i64 0, .slice none 0 0, .slice none 0 0, .int .i64 0] 29) := ⟨_, rfl⟩
            have hbZb : Below Za.heap.size Za Zb := by rw [hZb]; exact nbel_alloc _ _
            have HV : Hid (Zb.rowIs Za.heap.size 29 4 (rowN (toL 0 none 0 0 none 0 0 0))) := by show World.rowIs _ _ _ _ _; rw [hZb]; exact rowN_alloc _ _ _
            obtain ⟨xb, hxb⟩ : ∃ xb, xb = Za.heap.size := ⟨_, rfl⟩
            rw [← hxb] at HV
            have HOX : Hid (o < xb ∧ w.heap.size + 1 < xb) := by show _ ∧ _; rw [hxb]; exact ⟨hHeld.out.lt, hHeld.res.lt⟩
            have HTW2 : Hid (TwO 0 a5 k5 (Tb.pushX r L (Tb.pg pl i)).2.1 p5 d5 (Tb.pushX r L (Tb.pg pl i)).2.2 Zb) := HTW.out.keep (fun k _ hk => hbZb.block k hk)
            clear HTW
            have HTW := HTW2
            clear HTW2
            go_simp
            rw [← hZb, ← hxb]
            clear hZb
            refine hK.out _ _ (hHeld.below hbZb) (fun hHeld2 => ?_)
            clear hK hHeld hxb
            have hHeld := hHeld2
            clear hHeld2 hbZb
            obtain ⟨X, hX⟩ : ∃ X, X = Tb.pushX r L (Tb.pg pl i) := ⟨_, rfl⟩
            have HX := Lib.hid hX
            rw [← hX] at HTW ⊢
            clear hX
            have zr := put4 HV.out (.int .i64 (roomOf r X)) (.slice a5 X.2.1.length k5) (.slice p5 X.2.2.length d5) (.int .i64 X.1)
            have zk := fun (k : Nat) (hk : k ≠ xb) => blk4 Zb hk (.int .i64 (roomOf r X)) (.slice a5 X.2.1.length k5) (.slice p5 X.2.2.length d5) (.int .i64 X.1)
            have hox := HOX.out
            have zb := bel4 (w := Zb) (B := xb) (g := xb) (Below.refl _ _) (Nat.le_refl _) (.int .i64 (roomOf r X)) (.slice a5 X.2.1.length k5) (.slice p5 X.2.2.length d5) (.int .i64 X.1)
            have zt : TwO 0 a5 k5 X.2.1 p5 d5 X.2.2 _ := ⟨HTW.out.x.keep (fun k e _ => zk k (owl_ne HTW.out.x HV.out e)), HTW.out.y.keep (fun k e _ => zk k (owl_ne HTW.out.y HV.out e)), HTW.out.ne⟩
            obtain ⟨⟨o0, o1, o2, o3⟩, z0, z1, z2, z3⟩ := rowN4 HV.out
            have hol := HV.out.lt
            refine take_call (i := 8) rfl (by kernel_rfl) (fun K2 hK => ?_)
            go_simp
            clear o0 o1 o2 o3 z0 z1 z2 z3
            generalize (((Zb.setCell ⟨xb, 0, none⟩ (.int .i64 (roomOf r X))).setCell ⟨xb, 1, none⟩ (.slice a5 X.2.1.length k5)).setCell ⟨xb, 2, none⟩ (.slice p5 X.2.2.length d5)).setCell ⟨xb, 3, none⟩ (.int .i64 X.1) = Y at zr zk zb zt ⊢
            have hst : SrS w.heap.size o w0.heap.size r m RR pl i aT kT ov L O w w0 Y := ⟨hHeld.res.of_block (zk _ (by omega)), hHeld.out.of_block (zk _ (by omega)), hHeld.tl.keep (fun k e _ => zk k (owl_ne hHeld.tl HV.out e)), own_keep hHeld.own (P := fun k => k = xb) ⟨zb.os, zb.tape, zb.output, zb.size, fun k _ hk => zk k hk⟩ (fun k e => own_ne hHeld.own HV.out e), hHeld.ne, hHeld.fill, hHeld.run, hHeld.old.trans (zb.mono (by have := hHeld.bo; omega)), hHeld.bo, hHeld.len, hHeld.bel.trans (zb.mono (by omega))⟩
            have HST := Lib.hid hst
            refine hK.out _ _ hst (fun hHeld2 => ?_)
            clear hK hHeld hHeld2 hst
            refine wpAnyH_done (by kernel_rfl) ?_ _
            have HSF : Hid (SrX w.heap.size o w0.heap.size xb r m RR pl i aT kT ov L O (Tb.pushX r L (Tb.pg pl i)) a5 k5 p5 d5 w w0 Y) := by rw [← HX.out]; exact ⟨HST.out, zr, zt, hox.1, hox.2⟩
            clear zr zk zb zt HST
            go_wp2_with fail
            go_meet
            case rel => exact ⟨xb, a5, k5, p5, d5, rfl, HSF⟩
          · obtain ⟨Za, hZa⟩ : ∃ Za, Za = Z.alloc (.cells #[.int .i64 0, .slice none 0 0, .slice none 0 0, .int .i64 0] 29) := ⟨_, rfl⟩
            have hbZa : Below Z.heap.size Z Za := by rw [hZa]; exact nbel_alloc _ _
            have HV : Hid (Za.rowIs Z.heap.size 29 4 (rowN (toL 0 none 0 0 none 0 0 0))) := by show World.rowIs _ _ _ _ _; rw [hZa]; exact rowN_alloc _ _ _
            obtain ⟨xb, hxb⟩ : ∃ xb, xb = Z.heap.size := ⟨_, rfl⟩
            rw [← hxb] at HV
            have HOX : Hid (o < xb ∧ w.heap.size + 1 < xb) := by show _ ∧ _; rw [hxb]; exact ⟨hHeld.out.lt, hHeld.res.lt⟩
            go_simp
            rw [← hZa, ← hxb]
            clear hZa
            refine hK.out _ _ (hHeld.below hbZa) (fun hHeld2 => ?_)
            clear hK hHeld hxb
            have hHeld := hHeld2
            clear hHeld2 hbZa
            refine wpAnyH_ready (rs := [6]) (by kernel_rfl) (by simp) (AllReadyH.cons (at_drop (i := 6) rfl) (fun K2 hK => ?_) (AllReadyH.nil))
            go_simp
            refine (sPush_any r aT L kT (Tb.pg pl i) _ hHeld.tl.at_).mono ?_
            rintro e Zb ⟨⟨a5, k5, p5, d5, rfl, htw⟩, hb⟩
            have HTW : Hid (TwO 0 a5 k5 (Tb.pushX r L (Tb.pg pl i)).2.1 p5 d5 (Tb.pushX r L (Tb.pg pl i)).2.2 Zb) := htw.low (Nat.zero_le _)
            have HV2 := Lib.hid (nrow_below HV.out hb)
            clear HV
            have HV := HV2
            clear HV2
            go_wp2_with fail
            refine hK.out _ _ (hHeld.below hb) (fun hHeld2 => ?_)
            clear hK hHeld hb htw
            have hHeld := hHeld2
            clear hHeld2
            obtain ⟨X, hX⟩ : ∃ X, X = Tb.pushX r L (Tb.pg pl i) := ⟨_, rfl⟩
            have HX := Lib.hid hX
            rw [← hX] at HTW ⊢
            clear hX
            have zr := put4 HV.out (.int .i64 (roomOf r X)) (.slice a5 X.2.1.length k5) (.slice p5 X.2.2.length d5) (.int .i64 X.1)
            have zk := fun (k : Nat) (hk : k ≠ xb) => blk4 Zb hk (.int .i64 (roomOf r X)) (.slice a5 X.2.1.length k5) (.slice p5 X.2.2.length d5) (.int .i64 X.1)
            have hox := HOX.out
            have zb := bel4 (w := Zb) (B := xb) (g := xb) (Below.refl _ _) (Nat.le_refl _) (.int .i64 (roomOf r X)) (.slice a5 X.2.1.length k5) (.slice p5 X.2.2.length d5) (.int .i64 X.1)
            have zt : TwO 0 a5 k5 X.2.1 p5 d5 X.2.2 _ := ⟨HTW.out.x.keep (fun k e _ => zk k (owl_ne HTW.out.x HV.out e)), HTW.out.y.keep (fun k e _ => zk k (owl_ne HTW.out.y HV.out e)), HTW.out.ne⟩
            obtain ⟨⟨o0, o1, o2, o3⟩, z0, z1, z2, z3⟩ := rowN4 HV.out
            have hol := HV.out.lt
            refine take_call (i := 8) rfl (by kernel_rfl) (fun K2 hK => ?_)
            go_simp
            clear o0 o1 o2 o3 z0 z1 z2 z3
            generalize (((Zb.setCell ⟨xb, 0, none⟩ (.int .i64 (roomOf r X))).setCell ⟨xb, 1, none⟩ (.slice a5 X.2.1.length k5)).setCell ⟨xb, 2, none⟩ (.slice p5 X.2.2.length d5)).setCell ⟨xb, 3, none⟩ (.int .i64 X.1) = Y at zr zk zb zt ⊢
            have hst : SrS w.heap.size o w0.heap.size r m RR pl i aT kT ov L O w w0 Y := ⟨hHeld.res.of_block (zk _ (by omega)), hHeld.out.of_block (zk _ (by omega)), hHeld.tl.keep (fun k e _ => zk k (owl_ne hHeld.tl HV.out e)), own_keep hHeld.own (P := fun k => k = xb) ⟨zb.os, zb.tape, zb.output, zb.size, fun k _ hk => zk k hk⟩ (fun k e => own_ne hHeld.own HV.out e), hHeld.ne, hHeld.fill, hHeld.run, hHeld.old.trans (zb.mono (by have := hHeld.bo; omega)), hHeld.bo, hHeld.len, hHeld.bel.trans (zb.mono (by omega))⟩
            have HST := Lib.hid hst
            refine hK.out _ _ hst (fun hHeld2 => ?_)
            clear hK hHeld hHeld2 hst
            refine wpAnyH_done (by kernel_rfl) ?_ _
            have HSF : Hid (SrX w.heap.size o w0.heap.size xb r m RR pl i aT kT ov L O (Tb.pushX r L (Tb.pg pl i)) a5 k5 p5 d5 w w0 Y) := by rw [← HX.out]; exact ⟨HST.out, zr, zt, hox.1, hox.2⟩
            clear zr zk zb zt HST
            go_wp2_with fail
            go_meet
            case rel => exact ⟨xb, a5, k5, p5, d5, rfl, HSF⟩
        case rest =>
          obtain ⟨xb, a5, k5, p5, d5, rfl, hX⟩ := hcut
          obtain ⟨W1, hW1⟩ : ∃ W1, W1 = wc := ⟨_, rfl⟩
          rw [← hW1] at hX ⊢
          clear hW1 hS
          have hrt := Tb.fill_right hX.out.st.fill
          have HRN : Hid (Tb.runA m L.reverse O (Tb.pg pl i :: pl.drop (i + 1)) = RR) := by show _ = _; rw [← Tb.drop_pg hlt]; exact hX.out.st.run
          by_cases hok : Tb.Ok (Tb.pg pl i)
          case neg =>
            have hx := Tb.pushX_no (r := r) (l := L) (p := Tb.pg pl i) (fun h => hok h.2)
            rw [hx] at hX
            have HC3 : Hid (runX m r l pl = (1, [], [])) := by show _ = _; rw [HC.out, ← HRN.out, Tb.runA_bad hok]; rfl
            obtain ⟨⟨o0, o1, o2, o3⟩, z0, z1, z2, z3⟩ := rowN4 hX.out.st.res
            have hol := hX.out.st.res.lt
            obtain ⟨⟨x0, x1, x2, x3⟩, _⟩ := rowN4 hX.out.row
            obtain ⟨Y, hY, zr, zt, zb⟩ := BAD.out W1 1 (by omega) HC3.out hX.out.st.res hX.out.st.bel
            have HY := Lib.hid hY
            have ZT := Lib.hid (And.intro zt zb)
            have ZR := Lib.hid zr
            clear hY zr zt zb hX hx
            go_wp2_with fail
            rw [← HY.out]
            obtain ⟨⟨c0, c1, c2, c3⟩, _⟩ := rowN4 ZR.out
            exact bodyPost_ret (v := toV 0 none 0 0 none 0 0 1) (by simp only [results, Tryd.results8]; simp [go_sem, c0, c1, c2, c3]) rfl ZT.out
          by_cases hov : 60 < (Tb.psh L.reverse (Tb.pg pl i)).2.length
          · have hx := Tb.pushX_over (r := r) (l := L) (p := Tb.pg pl i) ⟨hrt, hok⟩ hov
            rw [hx] at hX
            have HC3 : Hid (runX m r l pl = (5, [], [])) := by show _ = _; rw [HC.out, ← HRN.out, Tb.runA_over hok hov]; rfl
            obtain ⟨⟨o0, o1, o2, o3⟩, z0, z1, z2, z3⟩ := rowN4 hX.out.st.res
            have hol := hX.out.st.res.lt
            obtain ⟨⟨x0, x1, x2, x3⟩, _⟩ := rowN4 hX.out.row
            obtain ⟨Y, hY, zr, zt, zb⟩ := BAD.out W1 5 (by omega) HC3.out hX.out.st.res hX.out.st.bel
            have HY := Lib.hid hY
            have ZT := Lib.hid (And.intro zt zb)
            have ZR := Lib.hid zr
            clear hY zr zt zb hX hx
            go_wp2_with fail
            rw [← HY.out]
            obtain ⟨⟨c0, c1, c2, c3⟩, _⟩ := rowN4 ZR.out
            exact bodyPost_ret (v := toV 0 none 0 0 none 0 0 5) (by simp only [results, Tryd.results8]; simp [go_sem, c0, c1, c2, c3]) rfl ZT.out
          have hx := Tb.pushX_ok (r := r) (l := L) (p := Tb.pg pl i) ⟨hrt, hok⟩ hov
          obtain ⟨a1, a2, a3, a4, a5', a6, a7, a8⟩ := Tb.psh_all hX.out.st.fill hok
          have HFN : Hid (Tb.Fill r ((Tb.psh L.reverse (Tb.pg pl i)).2.map (Tb.dec m))) := Tb.psh_fill hX.out.st.fill hok (by omega) hm0 hm1
          have HRN2 : Hid (Tb.runA m ((Tb.psh L.reverse (Tb.pg pl i)).2.map (Tb.dec m)) (O ++ (Tb.psh L.reverse (Tb.pg pl i)).1) (pl.drop (i + 1)) = RR) := by show _ = _; rw [← HRN.out, Tb.runA_on hok (by omega)]
          obtain ⟨D1, hD1⟩ : ∃ D1, D1 = (Tb.psh L.reverse (Tb.pg pl i)).1 := ⟨_, rfl⟩
          obtain ⟨D2, hD2⟩ : ∃ D2, D2 = (Tb.psh L.reverse (Tb.pg pl i)).2 := ⟨_, rfl⟩
          rw [← hD1] at HRN2
          rw [← hD2] at HFN HRN2
          rw [hx, ← hD1, ← hD2] at hX
          rw [← hD1] at a1 a6
          rw [← hD2] at a2 a4 a7 a8 hov
          have HL1 : Hid (1 ≤ D1.length ∧ D1.length ≤ 61) := by
            refine ⟨?_, by have := hX.out.st.fill.1.2; omega⟩
            cases hl1 : D1 with
            | nil => rw [hl1] at a1; simp [Tb.wat] at a1; have := hok.1.1; omega
            | cons q l => simp
          have HRD : Hid (Tb.Right r D2.reverse ∧ 0 ≤ m ∧ m ≤ 1000) := ⟨⟨by simp; omega, fun q hq => a4 q (List.mem_reverse.1 hq), by rw [Tb.wat_rev]; exact a2⟩, hm0, hm1⟩
          clear a1 a2 a3 a4 a5' a6 a7 a8 hx hD1 hD2 hov hrt HRN
          have HROW := Lib.hid hX.out.row
          have HTWO := Lib.hid hX.out.two
          have HST := Lib.hid hX.out.st
          have HXB := Lib.hid (And.intro hX.out.ob hX.out.sx)
          have HROWLT := Lib.hid hX.out.row.lt
          clear hX
          have hro : roomOf r (0, D2.reverse, D1) = r := by unfold roomOf; rw [if_pos rfl]
          rw [hro] at HROW
          obtain ⟨⟨x0, x1, x2, x3⟩, _⟩ := rowN4 HROW.out
          clear hro
          simp only [List.length_reverse] at x1
          go_wp2_with fail
          have hlr : D2.reverse.length = D2.length := by simp
          refine ((hlr ▸ sDecay_any r a5 D2.reverse k5 m W1 HTWO.out.x.at_ : Calls Tryd.prog 33 #[tbV r a5 D2.length k5, .int .i64 m] W1 fun e w' => TbEnd W1.heap.size (Tb.decR r D2.reverse m) (Tb.decL r D2.reverse m) e w' ∧ Below W1.heap.size W1 w')).mono ?_
          rintro e w2 ⟨⟨a6, c6, rfl, ho6⟩, hb⟩
          obtain ⟨e1, e2⟩ := Tb.dec_yes HRD.out
          rw [e1, e2]
          rw [e2] at ho6
          obtain ⟨L', hL'⟩ : ∃ L', L' = D2.reverse.map (Tb.dec m) := ⟨_, rfl⟩
          rw [← hL'] at ho6 ⊢
          have HLR : Hid (L'.reverse = D2.map (Tb.dec m)) := by show _ = _; rw [hL']; simp
          have HO6 := Lib.hid ho6
          have HST2 := Lib.hid (HST.out.below hb)
          have HROW2 := Lib.hid (nrow_below HROW.out hb)
          have HTW2 : Hid (TwO 0 a5 k5 D2.reverse p5 d5 D1 w2) := HTWO.out.keep (fun k _ hk => hb.block k hk)
          have HS2 := Lib.hid hb.size
          have HOVL : Hid (∀ k, ov.ownBlock = some k → k < W1.heap.size) := fun k e => (HST.out.own.lt k e).2
          clear e1 e2 hL' ho6 hb x0 x1 x2 x3 HROW HTWO HST hlr
          obtain ⟨⟨o0, o1, o2, o3⟩, z0, z1, z2, z3⟩ := rowN4 HST2.out.out
          have hol := HST2.out.out.lt
          obtain ⟨⟨x0, x1, x2, x3⟩, _⟩ := rowN4 HROW2.out
          have hxo : xb ≠ o := by have := HXB.out.1; omega
          -- the tube's field
          obtain ⟨W2, hW2⟩ : ∃ W2, W2 = (w2.setCell ⟨o, 0, none⟩ (.int .i64 r)).setCell ⟨o, 1, none⟩ (.slice a6 L'.length c6) := ⟨_, rfl⟩
          have zk : ∀ k, k ≠ o → W2.heap[k]? = w2.heap[k]? := fun k hk => by rw [hW2, Below.heap_setCell _ _ _ _ (by show k ≠ o; exact hk), Below.heap_setCell _ _ _ _ (by show k ≠ o; exact hk)]
          have hs2 : W2.heap.size = w2.heap.size := by rw [hW2]; simp
          have ho2 : W2.rowIs o 29 4 (rowN [.int .i64 r, .slice a6 L'.length c6, ov, .int .i64 0]) := by rw [hW2]; exact rowN_put (rowN_put HST2.out.out 0 _ (by simp)) 1 _ (by simp)
          have hbo := HST2.out.bo
          have h6a : ∀ k, a6 = some ⟨k, 0, none⟩ → W1.heap.size ≤ k := fun k e => (HO6.out.lt e).1
          have hoW : o < W1.heap.size := by have := HXB.out.1; have := HROWLT.out; omega
          have HW2R : Hid (W2.rowIs xb 29 4 (rowN (toL r a5 D2.reverse.length k5 p5 D1.length d5 0))) := HROW2.out.of_block (zk _ hxo)
          have HW2O := Lib.hid ho2
          have HW2L : Hid (OwL 38 W1.heap.size (L'.length * 3) a6 c6 (Tb.fl L') W2) := HO6.out.keep (fun k e _ => zk k (by have := h6a k e; omega))
          have HW2V : Hid (W2.ownsRow w0.heap.size 38 3 ov O.length (pv O)) := by
            show World.ownsRow _ _ _ _ _ _ _
            refine own_keep HST2.out.own (P := fun k => k = o) ⟨by rw [hW2]; rfl, by rw [hW2]; rfl, by rw [hW2]; rfl, by omega, fun k _ hk => zk k hk⟩ (fun k e => own_ne HST2.out.own HST2.out.out e)
          have HW2P : Hid (OwL 38 0 (D1.length * 3) p5 d5 (Tb.fl D1) W2) := HTW2.out.y.keep (fun k e _ => zk k (owl_ne HTW2.out.y HST2.out.out e))
          have HW2B : Hid (Below w0.heap.size w0 W2) := by show Below _ _ _; rw [hW2]; exact (HST2.out.old.setCell (p := ⟨o, 0, none⟩) hbo _).setCell (p := ⟨o, 1, none⟩) hbo _
          have HW2S : Hid (W1.heap.size ≤ W2.heap.size) := by show _ ≤ _; have := HS2.out; omega
          have HW2Z : Hid (W2.rowIs (w.heap.size + 1) 29 4 (rowN (toL 0 none 0 0 none 0 0 0))) := HST2.out.res.of_block (zk _ (by have := HS0.out; omega))
          have HW2E : Hid (Below w.heap.size w W2) := by show Below _ _ _; have h0 := HS0.out; rw [hW2]; exact (HST2.out.bel.setCell (p := ⟨o, 0, none⟩) (by show w.heap.size ≤ o; omega) _).setCell (p := ⟨o, 1, none⟩) (by show w.heap.size ≤ o; omega) _
          have HS22 := Lib.hid hs2
          have HW2 := Lib.hid hW2
          have HLEN2 := Lib.hid HST2.out.len
          have HBO := Lib.hid hbo
          have HBEL := Lib.hid HST2.out.bel
          clear hW2 zk hs2 ho2 hbo h6a HST2 HROW2 HTW2 HO6 hoW
          obtain ⟨gp, ep, hcp⟩ : ∃ gp, p5 = some ⟨gp, 0, none⟩ ∧ ∀ j u, (pv D1)[j]? = some u → W2.cell? ((⟨gp, 0, none⟩ : Addr).add j) = some u := by
            rcases HW2P.out with ⟨_, h0, _⟩ | ⟨gp, e, _, hb⟩
            · have := HL1.out.1; omega
            · refine ⟨gp, e, fun j u hj => ?_⟩
              have hjl : j < D1.length * 3 := by
                have := (List.getElem?_eq_some_iff.1 hj).1
                rwa [pv_len] at this
              rw [pv_get D1 hjl] at hj
              cases hj
              rw [Addr.add_lit, Nat.zero_add]
              exact hb.cell hjl
          subst ep
          have HCP := Lib.hid hcp
          have hw0s : w0.heap.size ≤ W2.heap.size := HW2B.out.size
          have hl1 := HL1.out
          have hlo := HLEN2.out
          obtain ⟨⟨o0', o1', o2', o3'⟩, z0', z1', z2', z3'⟩ := rowN4 HW2O.out
          obtain ⟨⟨x0', x1', x2', x3'⟩, _⟩ := rowN4 HW2R.out
          have hol' := HW2O.out.lt
          rw [HW2.out] at o0' o1' o2' o3' z0' z1' z2' z3' x0' x1' x2' x3' hol'
          clear hcp x0 x1 x2 x3
          go_wp2_with (at_builtin; refine wpList_append_own_at _ rfl _ _ 23 rfl w0.heap.size 38 i1 _ 3 24 Tryd.underlying23 hi1 hy0 hy1 hy2 rfl (by decide) _ _ _ rfl (by rw [← HW2.out]; exact HW2V.out) ⟨gp, 0, none⟩ D1.length d5 (pv D1) rfl (pv_len _) ?d1 ?d2 ?d3 ?d4 ?d5 ?_)
          case d1 => rw [← HW2.out]; exact HCP.out
          case d2 =>
            intro x hx
            obtain ⟨z, rfl⟩ := pv_undef hx
            rfl
          case d3 => unfold maxLen; omega
          case d4 => omega
          case d5 => rw [← HW2.out]; omega
          rw [← HW2.out]
          intro v5 W5 hown hgrow hnil hat
          have hrow : ∀ k, ov.ownBlock = some k → w0.heap.size ≤ k := fun k e => (HW2V.out.lt k e).1
          have hb5 : Below w0.heap.size W2 W5 := (Below.refl _ _).grown hgrow hw0s hrow
          have hs0 := HS0.out
          have ho5 : W5.rowIs o 29 4 (rowN [.int .i64 r, .slice a6 L'.length c6, ov, .int .i64 0]) := HW2O.out.of_block (hgrow.block _ HW2O.out.lt (fun e => own_ne HW2V.out HW2O.out e.symm rfl))
          have hl5 : OwL 38 W1.heap.size (L'.length * 3) a6 c6 (Tb.fl L') W5 := HW2L.out.keep (fun k e hk => hgrow.block k hk (fun e2 => by have h1 := HOVL.out k e2.symm; have h2 := (HW2L.out.lt e).1; omega))
          have hv5 : W5.ownsRow w0.heap.size 38 3 v5 (O ++ D1).length (pv (O ++ D1)) := by rw [pv_app, List.length_append]; exact hown
          obtain ⟨av, nv, cv, ev5⟩ : ∃ a n c, v5 = .slice a n c := by
            rcases hown.2 with h | ⟨g, cp, _, e, _⟩
            · exact ⟨none, 0, 0, h.1⟩
            · exact ⟨_, _, _, e⟩
          have HNE : Hid (∀ k, a6 = some ⟨k, 0, none⟩ → v5.ownBlock ≠ some k) := fun k e e2 => by
            have h1 := (HW2L.out.lt e).1
            have h2 := (HW2L.out.lt e).2
            rcases hat with h | h
            · rw [h] at e2
              have := HOVL.out k e2
              omega
            · rw [h] at e2
              simp at e2
              have := HS22.out
              omega
          have HS6 : Hid (SrS w.heap.size o w0.heap.size r m RR pl (i + 1) a6 c6 v5 L' (O ++ D1) w w0 (W5.setCell ⟨o, 2, none⟩ v5)) := by
            have hbo := HBO.out
            have zk : ∀ k, k ≠ o → (W5.setCell ⟨o, 2, none⟩ v5).heap[k]? = W5.heap[k]? := fun k hk => Below.heap_setCell _ _ _ _ (by show k ≠ o; exact hk)
            refine ⟨(HW2Z.out.of_block (hb5.block _ (by omega))).of_block (zk _ (by omega)), rowN_put ho5 2 _ (by simp), (hl5.keep (fun k e _ => zk k (owl_ne hl5 ho5 e))).low (by have := HW2B.out.size; have := HROWLT.out; have := HXB.out.1; omega), own_keep hv5 (P := fun k => k = o) ⟨rfl, rfl, rfl, by simp, fun k _ hk => zk k hk⟩ (fun k e => own_ne hv5 ho5 e), HNE.out, by rw [HLR.out]; exact HFN.out, by rw [HLR.out]; exact HRN2.out, (HW2B.out.trans hb5).setCell (p := ⟨o, 2, none⟩) hbo _, hbo, by rw [List.length_append]; omega, (HW2E.out.trans (hb5.mono (by omega))).setCell (p := ⟨o, 2, none⟩) (by show w.heap.size ≤ o; omega) _⟩
          have HO5 := Lib.hid ho5
          subst ev5
          clear hown hgrow hat hnil hrow hb5 hl5 hv5 ho5 o0 o1 o2 o3 z0 z1 z2 z3 hol o0' o1' o2' o3' z0' z1' z2' z3' x0' x1' x2' x3' hol'
          obtain ⟨⟨o0, o1, o2, o3⟩, z0, z1, z2, z3⟩ := rowN4 HO5.out
          have hol := HO5.out.lt
          go_wp2_with fail
          go_roundw
          case rel => exact ⟨i + 1, a6, c6, _, L', O ++ D1, by omega, by go_num, HS6⟩
          case measure => simp [intOf]; omega
      · obtain rfl : i = pl.length := by omega
        have HRN : Hid (RR = (0, L.reverse, O)) := by
          show _ = _
          rw [← hS.out.run, List.drop_eq_nil_of_le (Nat.le_refl _)]
          rfl
        obtain ⟨pO, dO, eO, howO⟩ := owl_of hS.out.own
        subst eO
        have HOW := Lib.hid howO
        have HTL := Lib.hid hS.out.tl
        have HNE := Lib.hid hS.out.ne
        have HBE := Lib.hid hS.out.bel
        have HRS := Lib.hid hS.out.res
        obtain ⟨⟨o0, o1, o2, o3⟩, z0, z1, z2, z3⟩ := rowN4 hS.out.res
        have hol := hS.out.res.lt
        obtain ⟨⟨x0, x1, x2, x3⟩, _⟩ := rowN4 hS.out.out
        have hs0 := HS0.out
        clear howO hS
        go_wp2_with fail
        have zr := put4 HRS.out (.int .i64 r) (.slice aT L.length kT) (.slice pO O.length dO) (.int .i64 0)
        have zb := bel4 (g := w.heap.size + 1) HBE.out (by omega) (.int .i64 r) (.slice aT L.length kT) (.slice pO O.length dO) (.int .i64 0)
        have zk := fun (k : Nat) (hk : k ≠ w.heap.size + 1) => blk4 wr hk (.int .i64 r) (.slice aT L.length kT) (.slice pO O.length dO) (.int .i64 0)
        generalize (((wr.setCell ⟨w.heap.size + 1, 0, none⟩ (.int .i64 r)).setCell ⟨w.heap.size + 1, 1, none⟩ (.slice aT L.length kT)).setCell ⟨w.heap.size + 1, 2, none⟩ (.slice pO O.length dO)).setCell ⟨w.heap.size + 1, 3, none⟩ (.int .i64 0) = Y at zr zb zk ⊢
        obtain ⟨⟨c0, c1, c2, c3⟩, _⟩ := rowN4 zr
        refine bodyPost_ret (v := toV r aT L.length kT pO O.length dO 0) (by simp only [results, Tryd.results8]; simp [go_sem, c0, c1, c2, c3]) rfl ⟨?_, zb⟩
        rw [HC.out, HRN.out]
        have er : L.reverse.reverse = L := by simp
        show TuEnd w.heap.size r (0, L.reverse.reverse, O) _ Y
        rw [er]
        refine ⟨aT, kT, pO, dO, ?_, (HTL.out.keep (fun k e _ => zk k (by have := (HTL.out.lt e).1; omega))).low (by omega), (HOW.out.keep (fun k e _ => zk k (by have := (HOW.out.lt e).1; omega))).low (by omega), fun k e1 e2 => HNE.out k e1 (by rw [e2]; simp [Value.ownBlock])⟩
        unfold roomOf
        rw [if_pos rfl]
end Go.Proofs.YtjmnehlgefpheaaDoor
