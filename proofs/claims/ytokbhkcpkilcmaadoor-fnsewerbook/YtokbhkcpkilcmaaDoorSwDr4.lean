/-
  The draw of a run of a river.
-/
import Derived.Test.YtokbhkcpkilcmaaDoorSwS5
import Derived.Test.YtokbhkcpkilcmaaDoorSwDr2
namespace Go.Proofs.YtokbhkcpkilcmaaDoor
open Go.RowKit Go.Deep

/-- A drawn rain. -/
structure Rn where
  g : Nat
  cap : Nat
  len : Nat
  f : Nat → Int
def Rn.v (x : Rn) : Value := .slice (some ⟨x.g, 0, none⟩) x.len x.cap
/-- What stands while rains are drawn. -/
structure QL (w : World) (sb gl n : Nat) (rs : Nat → Sw.Rc) (v : Value) (qs : List Rn) (W : World) : Prop where
  own : W.ownsRow w.heap.size 23 1 v qs.length (qs.map Rn.v)
  all : ∀ x, x ∈ qs → x.g ≠ sb ∧ InBlk x.g x.len x.f W ∧ x.len ≤ 101
  ls : RcBlk gl n rs W
  ne : gl ≠ sb
  dr : Drew sb w W
  lt : sb < w.heap.size
theorem QL.draw {w : World} {sb gl n : Nat} {rs : Nat → Sw.Rc} {v : Value} {qs : List Rn} {W W' : World} (h : QL w sb gl n rs v qs W) (hd : Drew sb W W') : QL w sb gl n rs v qs W' :=
  ⟨own_far h.own (fun k hk hl => hd.2.2.2.2.2 k hl (by have := (h.own.lt k hk).1; have := h.lt; omega)), fun x hx => ⟨(h.all x hx).1, (h.all x hx).2.1.block (hd.2.2.2.2.2 _ (h.all x hx).2.1.lt (h.all x hx).1), (h.all x hx).2.2⟩, h.ls.block (hd.2.2.2.2.2 _ h.ls.lt h.ne), h.ne, ⟨hd.1, h.dr.2.trans hd.2⟩, h.lt⟩
theorem QL.push {w : World} {sb gl n : Nat} {rs : Nat → Sw.Rc} {v v' : Value} {qs : List Rn} {x : Rn} {W W' : World} {o : Obj} (h : QL w sb gl n rs v qs W) (hx : x.g ≠ sb ∧ InBlk x.g x.len x.f W ∧ x.len ≤ 101) (hg : (W.alloc o).grownBy W' v.ownBlock)
    (hown : W'.ownsRow w.heap.size 23 1 v' (qs.length + 1) (qs.map Rn.v ++ [x.v])) : QL w sb gl n rs v' (qs ++ [x]) W' := by
  have hz := h.dr.2.size
  have hrow : ∀ k, v.ownBlock = some k → w.heap.size ≤ k := fun k e => (h.own.lt k e).1
  have hk : ∀ k, k < w.heap.size → W'.heap[k]? = W.heap[k]? := fun k hk => by
    rw [hg.block k (by simp; omega) (fun e => by have := hrow k e.symm; omega)]
    exact blk_alloc_lt _ _ _ (by omega)
  have hin : ∀ {g m f}, InBlk g m f W → InBlk g m f W' := fun {g m f} hi => by
    obtain ⟨m9, F9, hr⟩ := isblk_row hi
    refine hi.block ?_
    rw [hg.block g (by have := hi.lt; simp; omega) (rown_ne h.own hr (by decide))]
    exact blk_alloc_lt _ _ _ hi.lt
  have hlsb : RcBlk gl n rs W' := by
    obtain ⟨m9, F9, hr⟩ := isblk_row h.ls
    refine h.ls.block ?_
    rw [hg.block gl (by have := h.ls.lt; simp; omega) (rown_ne h.own hr (by decide))]
    exact blk_alloc_lt _ _ _ h.ls.lt
  refine ⟨by simpa using hown, fun y hy => ?_, hlsb, h.ne, ⟨h.dr.1.keep (fun k hk2 => hk k (by have := h.lt; omega)), ?_⟩, h.lt⟩
  · rcases List.mem_append.1 hy with hy | hy
    · exact ⟨(h.all y hy).1, hin (h.all y hy).2.1, (h.all y hy).2.2⟩
    · obtain rfl : y = x := by simpa using hy
      exact ⟨hx.1, hin hx.2.1, hx.2.2⟩
  · exact ⟨hg.os.trans h.dr.2.1, hg.tape.trans h.dr.2.2.1, hg.output.trans h.dr.2.2.2.1, by have := hg.size; simp at this; omega, fun k hk1 hk2 => (hk k hk1).trans (h.dr.2.2.2.2.2 k hk1 hk2)⟩
def qOf (qs : List Rn) (k : Nat) : Sw.Rain := ⟨(qs.getD k ⟨0, 0, 0, fun _ => 0⟩).len, (qs.getD k ⟨0, 0, 0, fun _ => 0⟩).f⟩
theorem QL.rains {w : World} {sb gl n : Nat} {rs : Nat → Sw.Rc} {v : Value} {qs : List Rn} {W : World} (h : QL w sb gl n rs v qs W) : ∃ ra cr, v = .slice ra qs.length cr ∧ RainsAt ra qs.length (qOf qs) W ∧ ∀ k, k < qs.length → (qOf qs k).len ≤ 101 := by
  have hq : ∀ k, (hk : k < qs.length) → qs.getD k ⟨0, 0, 0, fun _ => 0⟩ = qs[k] := fun k hk => by
    rw [List.getD_eq_getElem?_getD, List.getElem?_eq_getElem hk]; rfl
  have hlen : ∀ k, k < qs.length → (qOf qs k).len ≤ 101 := fun k hk => by
    unfold qOf; rw [hq k hk]; exact (h.all _ (List.getElem_mem hk)).2.2
  obtain ⟨_, h2⟩ := h.own
  rcases h2 with ⟨e1, e2⟩ | ⟨g, cap, cur, e1, e2, e3, e4, e5, e6, e7⟩
  · refine ⟨none, 0, by rw [e1, e2], Or.inl e2, hlen⟩
  · refine ⟨some ⟨g, 0, none⟩, cap, e1, Or.inr ⟨g, rfl, fun k hk => ⟨some ⟨qs[k].g, 0, none⟩, qs[k].cap, ?_, ?_⟩⟩, hlen⟩
    · have := h.own.cells (show v.ownBlock = some g by rw [e1]; rfl) k (.slice (some ⟨qs[k].g, 0, none⟩) qs[k].len qs[k].cap) (by rw [List.getElem?_map, List.getElem?_eq_getElem hk]; rfl)
      rw [Addr.add_lit, Nat.zero_add] at this
      unfold qOf; rw [hq k hk]; exact this
    · unfold qOf; rw [hq k hk]; exact (h.all _ (List.getElem_mem hk)).2.1.at_
theorem rinfo_is : (Tryd.prog.info? 23).map (fun i => (i.zero, i.size, i.bytes)) = some (some (.slice none 0 0), 1, 24) := by kernel_rfl
theorem rsrc_size {sb : Nat} {W : World} (h : Src sb W) : ∃ z : Int, W.cell? ⟨sb, 3, none⟩ = some (.int .i64 z) ∧ 0 ≤ z ∧ z ≤ 12 := by
  obtain ⟨a, len, cap, at_, mix, size, ⟨c0, c1, c2, c3, _⟩, h1, h2, h3, h4, h5, h6⟩ := h
  exact ⟨size, c3, h4, h5⟩
theorem Drew.to {sb : Nat} {a b c : World} (h : Drew sb a b) (k : Drew sb b c) : Drew sb a c := ⟨k.1, h.2.trans k.2⟩

/-- What a draw of a run leaves. -/
def DrE (e : Ending) (w' : World) : Prop := ∃ n gl cl rs M ra cr q, e = .returned (.tuple #[.slice (some ⟨gl, 0, none⟩) n cl, .slice ra M cr]) ∧ (1 ≤ n ∧ n ≤ 100) ∧ RcBlk gl n rs w' ∧ RainsAt ra M q w' ∧ M ≤ 61 ∧ ∀ k, k < M → (q k).len ≤ 101
set_option maxRecDepth 100000 in
set_option maxHeartbeats 8000000 in
theorem drawRun_any (a : Option Addr) (len cap : Nat) (w : World) (h : Bytes a len w) (hl : len ≤ 4194304) :
    Calls Tryd.prog 28 #[.slice a len cap] w fun e w' => DrE e w' ∧ Below w.heap.size w w' := by
  have H := Lib.hid h
  clear h
  obtain ⟨i0, hi, hz0, hz1, hz2⟩ := info_parts rinfo_is
  go_enter Tryd.func28, Tryd.ntmps28
  go_wp2_with fail
  refine (source_any a len cap _ H.out hl).mono ?_
  rintro e w1 ⟨rfl, hS, hb⟩
  have S1 := Lib.hid hS
  have B1 := Lib.hid hb
  clear hS hb
  go_wp2_with fail
  refine (sewers_any w.heap.size _ S1.out).mono ?_
  rintro e w2 ⟨v, rfl, n, zs, hzs1, hzs2, hR⟩
  obtain ⟨gl, cl, rfl, hgl, hblk⟩ : ∃ g cap, v = .slice (some ⟨g, 0, none⟩) n cap ∧ w1.heap.size ≤ g ∧ RcBlk g n (scOf (inList zs)) w2 := by
    have hown : w2.ownsRow w1.heap.size 55 6 v n (inVs (scF (scOf (inList zs))) (n * 6)) := by rw [scF_ofE, ← hR.2.2.2, ← map_inVs]; exact hR.1
    exact own_rc hown hzs1
  have S2 := Lib.hid hR.2.1.1
  have zz : w.heap.size < w1.heap.size := hR.2.2.1
  have B2 : Hid (Below w.heap.size w w2) := B1.out.trans (hR.2.1.2.below (Nat.le_refl _) (Nat.le_of_lt zz))
  have K2 := Lib.hid hblk
  have HNE : Hid (gl ≠ w.heap.size) := by show _ ≠ _; omega
  clear hR hblk S1 B1 hgl
  generalize scOf (inList zs) = rs at *
  have H0 : Hid (QL w2 w.heap.size gl n rs (.slice (some ⟨w2.heap.size, 0, none⟩) 0 0) [] (w2.alloc (.cells #[] 23))) := by
    have hb : Below w2.heap.size w2 (w2.alloc (.cells #[] 23)) := rbel _ _
    exact ⟨World.ownsRow_made w2 #[] 0 (Nat.le_refl _) (Nat.zero_le _) rfl, (fun x hx => by cases hx), K2.out.block (hb.block _ K2.out.lt), HNE.out, ⟨S2.out.below hb, Chg.of_below hb⟩, S2.out.lt⟩
  obtain ⟨w3, hw3⟩ : ∃ w', w' = w2.alloc (.cells #[] 23) := ⟨_, rfl⟩
  rw [← hw3] at H0
  have HW3 := Lib.hid hw3
  clear hw3 K2 S2
  obtain ⟨z, cz, z0, z1⟩ := rsrc_size H0.out.dr.1
  go_upto_region 4 with fail
  rw [← HW3.out]
  clear HW3
  go_wp2_with fail
  refine (n_any w.heap.size _ _ H0.out.dr.1 (by omega)).mono ?_
  rintro e w4 ⟨⟨u, rfl, u0, u1, _⟩, hD⟩
  have u2 : u ≤ 20 := by
    have := u1 (by omega)
    omega
  replace H0 := Lib.hid (H0.out.draw hD)
  clear hD u1 cz
  go_wp2_with fail
  refine (one_any w.heap.size 60 _ H0.out.dr.1 (by omega)).mono ?_
  rintro e w5 ⟨⟨b, rfl⟩, hD⟩
  replace H0 := Lib.hid (H0.out.draw hD)
  clear hD
  go_upto_if 23 with fail
  go_cut [7] from 24 to 26 (fun nv wx => ∃ N : Int, nv = .int .i64 N ∧ 0 ≤ N ∧ N ≤ 61 ∧ Hid (QL w2 w.heap.size gl n rs (.slice (some ⟨w2.heap.size, 0, none⟩) 0 0) [] wx))
  case first =>
    cases b
    · go_wp2_with fail
      go_meet
      case rel => exact ⟨u, rfl, u0, by omega, H0⟩
    · go_wp2_with fail
      refine (n_any w.heap.size 3 _ H0.out.dr.1 (by omega)).mono ?_
      rintro e w6 ⟨⟨y, rfl, y0, y1, _⟩, hD⟩
      have y2 : y < 3 := y1 (by omega)
      replace H0 := Lib.hid (H0.out.draw hD)
      clear hD y1
      go_wp2_with fail
      go_meet
      case rel => exact ⟨59 + y, rfl, by omega, by omega, H0⟩
  case rest =>
    obtain ⟨N, rfl, n0, n1, hN⟩ := hcut
    clear H0 u0 u2 z0 z1
    obtain ⟨w7, hw7⟩ : ∃ w', w' = wc := ⟨_, rfl⟩
    rw [← hw7] at hN ⊢
    clear hw7
    go_wp2_with fail
    go_loopw [6, 7, 8] (fun ov nv _ wr => ∃ (m : Int) (qs : List Rn), nv = .int .i64 m ∧ 0 ≤ m ∧ m ≤ 1000 ∧ Hid (m + qs.length ≤ 61) ∧ Hid (QL w2 w.heap.size gl n rs ov qs wr)) (fun _ nv _ _ => (intOf nv).toNat)
    case atStart => exact ⟨N, [], rfl, n0, by omega, by show _ ≤ _; simp; omega, hN⟩
    case round =>
      obtain ⟨m, qs, rfl, m0, m1, hm, HF⟩ := hrel
      clear hN
      obtain ⟨av, cv, rfl⟩ := own_shape HF.out.own
      by_cases hlt2 : 0 < m
      · go_wp2_with fail
        refine (list_any w.heap.size n (by omega) 150 (by omega) (by omega) _ HF.out.dr.1).mono ?_
        rintro e w8 ⟨v, rfl, ys, hy, hI⟩
        obtain ⟨gr, cr, rfl, hgr, hblk⟩ := il_form hI (by omega)
        replace HF := Lib.hid (HF.out.draw hI.2.1)
        have HX : Hid (gr ≠ w.heap.size ∧ InBlk gr n (inList ys) w8 ∧ n ≤ 101) := ⟨by have := hI.2.2; omega, by rw [← hy]; exact hblk, by omega⟩
        clear hI hblk hgr
        go_wp2_with fail
        refine (one_any w.heap.size 60 _ HF.out.dr.1 (by omega)).mono ?_
        rintro e w9 ⟨⟨b1, rfl⟩, hD⟩
        replace HF := Lib.hid (HF.out.draw hD)
        replace HX : Hid (gr ≠ w.heap.size ∧ InBlk gr n (inList ys) w9 ∧ n ≤ 101) := ⟨HX.out.1, HX.out.2.1.block (hD.2.2.2.2.2 _ HX.out.2.1.lt HX.out.1), HX.out.2.2⟩
        clear hD
        go_upto_if 36 with fail
        go_cut [8] from 37 to 40 (fun xv wx => ∃ x : Rn, xv = .slice (some ⟨x.g, 0, none⟩) x.len x.cap ∧ Hid ((x.g ≠ w.heap.size ∧ InBlk x.g x.len x.f wx ∧ x.len ≤ 101) ∧ QL w2 w.heap.size gl n rs (.slice av qs.length cv) qs wx))
        case first =>
          cases b1
          · go_wp2_with fail
            go_meet
            case rel => exact ⟨⟨gr, cr, n, inList ys⟩, rfl, HX.out, HF.out⟩
          · clear HX
            go_wp2_with fail
            refine (rain_any w.heap.size n hzs1 (by omega) _ HF.out.dr.1).mono ?_
            rintro e wA ⟨v, rfl, xs, hx1, hx2, hI⟩
            obtain ⟨gr2, cr2, rfl, hgr, hblk⟩ := il_form hI hx1
            replace HF := Lib.hid (HF.out.draw hI.2.1)
            have HX : Hid (gr2 ≠ w.heap.size ∧ InBlk gr2 xs.length (inList xs) wA ∧ xs.length ≤ 101) := ⟨by have := hI.2.2; omega, hblk, by omega⟩
            clear hI hblk hgr
            go_wp2_with fail
            go_meet
            case rel => exact ⟨⟨gr2, cr2, xs.length, inList xs⟩, rfl, HX.out, HF.out⟩
        case rest =>
          clear HF HX
          obtain ⟨x, rfl, hH⟩ := hcut
          obtain ⟨WW, hWW⟩ : ∃ w', w' = wc := ⟨_, rfl⟩
          rw [← hWW] at hH ⊢
          clear hWW
          go_wp2_with (at_builtin; refine wpList_append_own _ rfl _ _ 38 rfl w2.heap.size 23 i0 (.slice none 0 0) 1 24 Tryd.underlying38 hi hz0 hz1 hz2 rfl (by decide) _ _ _ rfl (hH.out.2.own.alloc _) ⟨WW.heap.size, 0, none⟩ 1 1 [.slice (some ⟨x.g, 0, none⟩) x.len x.cap] rfl rfl ?c1 ?c2 ?c3 ?c4 ?c5 ?_)
          try (case c1 => (intro j u hj; match j, hj with
            | 0, hj => (simp at hj; subst hj; simp [Addr.add])))
          try (case c2 => first | rfl | (intro u hu; simp at hu; subst hu; rfl))
          try (case c3 => (have := hm.out; unfold maxLen; omega))
          try (case c4 => (have := hm.out; omega))
          try (case c5 => (have := hH.out.2.dr.2.size; first | omega | (simp; omega)))
          intro v' wB hown hgrow hnil
          have HF2 : Hid (QL w2 w.heap.size gl n rs v' (qs ++ [x]) wB) := hH.out.2.push hH.out.1 hgrow hown
          clear hown hgrow hnil hH
          go_wp2_with fail
          go_roundw
          case rel => exact ⟨m - 1, qs ++ [x], by go_num, by omega, by omega, by show _ ≤ _; have := hm.out; simp; omega, HF2⟩
          case measure => simp [intOf]; omega
      · obtain rfl : m = 0 := by omega
        obtain ⟨ra, cr, e, hra, hlen⟩ := HF.out.rains
        cases e
        have HQ := Lib.hid (And.intro hra hlen)
        have hM := hm.out
        have B9 : Hid (Below w.heap.size w wr) := B2.out.trans (HF.out.dr.2.below (Nat.le_refl _) B2.out.size)
        have HM : Hid (qs.length ≤ 61) := by show _ ≤ _; omega
        clear hra hlen
        go_wp2_with fail
        exact bodyPost_ret (v := .tuple #[.slice (some ⟨gl, 0, none⟩) n cl, .slice av qs.length cv]) (by simp [results, Tryd.results28, go_sem]) rfl ⟨⟨n, gl, cl, rs, qs.length, av, cv, qOf qs, rfl, ⟨hzs1, by omega⟩, HF.out.ls, HQ.out.1, HM.out, HQ.out.2⟩, B9.out⟩
end Go.Proofs.YtokbhkcpkilcmaaDoor
