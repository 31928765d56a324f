/-
  The contract of the model's PlantRun.
-/
import Derived.Test.YtcjeieagpcphjaaDoorWkPi
import Derived.Test.YtcjeieagpcphjaaDoorWkS2
import Derived.Test.YtcjeieagpcphjaaDoorWkFl3
import Derived.Test.YtcjeieagpcphjaaDoorWkMw
namespace Go.Proofs.YtcjeieagpcphjaaDoor
open Go.RowKit Go.Deep

/-- What stands from batch to batch: the answer's block, the one that is being filled, the two lists. -/
structure MpS (w : World) (fl : Wk.Fl) (k : Int) (cv : Value) (cn : Nat) (C : Nat → Wk.Bt) (wv : Value) (wn : Nat) (D : Nat → Wk.Bt) (W : World) : Prop where
  res : W.rowIs (w.heap.size + 1) 31 10 (rowL (poL beN beN Wk.flNil 0 0))
  out : W.rowIs (w.heap.size + 1 + 1) 31 10 (rowL (poL beN beN fl k 0))
  cl : PlL (w.heap.size + 3) cv cn C W
  wl : PlL (w.heap.size + 3) wv wn D W
  ne : ∀ g, cv.ownBlock = some g → wv.ownBlock ≠ some g
  bel : Below w.heap.size w W
theorem MpS.below {w : World} {fl : Wk.Fl} {k : Int} {cv : Value} {cn : Nat} {C : Nat → Wk.Bt} {wv : Value} {wn : Nat} {D : Nat → Wk.Bt} {W W' : World} (h : MpS w fl k cv cn C wv wn D W) (hb : Below W.heap.size W W') : MpS w fl k cv cn C wv wn D W' := ⟨wrow_below h.res hb, wrow_below h.out hb, h.cl.below hb, h.wl.below hb, h.ne, h.bel.trans (hb.mono h.bel.size)⟩
/-- Stores into the block that is being filled. -/
theorem MpS.fill {w : World} {fl : Wk.Fl} {k : Int} {cv : Value} {cn : Nat} {C : Nat → Wk.Bt} {wv : Value} {wn : Nat} {D : Nat → Wk.Bt} {W W' : World} (h : MpS w fl k cv cn C wv wn D W) {fl' : Wk.Fl} {k' : Int} (hb : ∀ g, g ≠ w.heap.size + 1 + 1 → W'.heap[g]? = W.heap[g]?) (hr : W'.rowIs (w.heap.size + 1 + 1) 31 10 (rowL (poL beN beN fl' k' 0))) (hB : Below w.heap.size w W') : MpS w fl' k' cv cn C wv wn D W' := by
  have kp : ∀ {v n F}, PlL (w.heap.size + 3) v n F W → PlL (w.heap.size + 3) v n F W' := fun {v n F} hl => hl.kept (fun g hg e1 => hb g (by have := (hl.lt e1).1; omega)) (fun g cur e1 => hb g (blk_ne ⟨cur, e1⟩ (rowIs_type h.out) (by decide)))
  exact ⟨h.res.of_block (hb _ (by omega)), hr, kp h.cl, kp h.wl, h.ne, hB⟩
/-- A list that grows. -/
theorem MpS.rows {w : World} {fl : Wk.Fl} {k : Int} {cv : Value} {cn : Nat} {C : Nat → Wk.Bt} {wv : Value} {wn : Nat} {D : Nat → Wk.Bt} {W W' : World} (h : MpS w fl k cv cn C wv wn D W) {v : Value} (hg : W.grownBy W' v.ownBlock) (hv : ∀ g, v.ownBlock = some g → w.heap.size + 3 ≤ g) : W'.rowIs (w.heap.size + 1) 31 10 (rowL (poL beN beN Wk.flNil 0 0)) ∧ W'.rowIs (w.heap.size + 1 + 1) 31 10 (rowL (poL beN beN fl k 0)) ∧ Below w.heap.size w W' :=
  ⟨h.res.of_block (hg.block _ h.res.lt (fun e => by have := hv _ e.symm; omega)), h.out.of_block (hg.block _ h.out.lt (fun e => by have := hv _ e.symm; omega)), h.bel.grown hg h.bel.size (fun q e => by have := hv _ e; omega)⟩
theorem PlL.other {B : Nat} {v u : Value} {n m : Nat} {C D : Nat → Wk.Bt} {W W' : World} (h : PlL B v n C W) (hu : PlL B u m D W) (hne : ∀ g, v.ownBlock = some g → u.ownBlock ≠ some g) (hg : W.grownBy W' u.ownBlock) : PlL B v n C W' :=
  h.kept (fun g hl e => hg.block g hl (fun e2 => hne g e e2.symm)) (fun g cur e => hg.block g (lt_of_some e) (fun e2 => blk_ne ⟨cur, e⟩ (hu.type e2.symm) (by decide) rfl))
theorem MpS.appC {w : World} {fl : Wk.Fl} {k : Int} {cv v' : Value} {cn : Nat} {C : Nat → Wk.Bt} {wv : Value} {wn : Nat} {D : Nat → Wk.Bt} {W W' : World} (h : MpS w fl k cv cn C wv wn D W) (hg : W.grownBy W' cv.ownBlock) (hw : v'.ownBlock = cv.ownBlock ∨ v'.ownBlock = some W.heap.size) (hl : PlL (w.heap.size + 3) v' (cn + 1) C W') : MpS w fl k v' (cn + 1) C wv wn D W' := by
  obtain ⟨r1, r2, r3⟩ := h.rows hg (fun g e => (h.cl.lt e).1)
  refine ⟨r1, r2, hl, h.wl.other h.cl (fun g e e2 => h.ne g e2 e) hg, fun g e e2 => ?_, r3⟩
  rcases hw with hw | hw
  · exact h.ne g (hw.symm.trans e) e2
  · have := (h.wl.lt e2).2
    rw [hw] at e
    injection e with e
    omega
theorem MpS.appW {w : World} {fl : Wk.Fl} {k : Int} {cv v' : Value} {cn : Nat} {C : Nat → Wk.Bt} {wv : Value} {wn : Nat} {D : Nat → Wk.Bt} {W W' : World} (h : MpS w fl k cv cn C wv wn D W) (hg : W.grownBy W' wv.ownBlock) (hw : v'.ownBlock = wv.ownBlock ∨ v'.ownBlock = some W.heap.size) (hl : PlL (w.heap.size + 3) v' (wn + 1 + 1) D W') : MpS w fl k cv cn C v' (wn + 1 + 1) D W' := by
  obtain ⟨r1, r2, r3⟩ := h.rows hg (fun g e => (h.wl.lt e).1)
  refine ⟨r1, r2, h.cl.other h.wl h.ne hg, hl, fun g e e2 => ?_, r3⟩
  rcases hw with hw | hw
  · exact h.ne g e (hw.symm.trans e2)
  · have := (h.cl.lt e).2
    rw [hw] at e2
    injection e2 with e2
    omega
/-- Two more batches. -/
theorem PlL.push2 {B : Nat} {v v' : Value} {n : Nat} {C : Nat → Wk.Bt} {W W' : World} {cs : Nat → Be} {x y : Be} (hc : ∀ i, i < n → (cs i).b = C i ∧ ∃ g, (cs i).pa = some ⟨g, 0, none⟩ ∧ InBlk g (cs i).n (cs i).f W) (hx : x.b = C n) (hp : ∃ g, x.pa = some ⟨g, 0, none⟩ ∧ InBlk g x.n x.f W) (hy : y.b = C (n + 1)) (hq : ∃ g, y.pa = some ⟨g, 0, none⟩ ∧ InBlk g y.n y.f W)
    (ho : W.ownsRow B 28 2 v n (beL cs n)) (hg : W.grownBy W' v.ownBlock) (ho' : W'.ownsRow B 28 2 v' (n + 1 + 1) (beL cs n ++ [.int .i64 x.wt, .slice x.pa x.n x.k, .int .i64 y.wt, .slice y.pa y.n y.k])) : PlL B v' (n + 1 + 1) C W' := by
  have keep : ∀ g m (f : Nat → Int), InBlk g m f W → InBlk g m f W' := fun g m f h => h.block (hg.block g h.lt (fun e => blk_ne (inBlk_type h) (own_type ho e.symm).2 (by decide) rfl))
  refine ⟨fun i => if i < n then cs i else if i = n then x else y, ?_, fun i hi => ?_⟩
  · have e : beL (fun i => if i < n then cs i else if i = n then x else y) (n + 1 + 1) = beL cs n ++ [.int .i64 x.wt, .slice x.pa x.n x.k, .int .i64 y.wt, .slice y.pa y.n y.k] := by
      simp only [beL]
      rw [beL_congr (ds := cs) (fun i hi => by simp [hi])]
      have h5 : ¬ n + 1 < n := by omega
      simp [h5]
    rw [e]; exact ho'
  · by_cases h2 : i < n
    · simp only [if_pos h2]
      obtain ⟨g, e, h3⟩ := (hc i h2).2
      exact ⟨(hc i h2).1, g, e, keep _ _ _ h3⟩
    · by_cases h3 : i = n
      · subst h3
        simp only [if_neg h2, if_pos]
        obtain ⟨g, e, h3⟩ := hp
        exact ⟨hx, g, e, keep _ _ _ h3⟩
      · obtain rfl : i = n + 1 := by omega
        simp only [if_neg h2, if_neg h3]
        obtain ⟨g, e, h3⟩ := hq
        exact ⟨hy, g, e, keep _ _ _ h3⟩
theorem PlL.made {W : World} {B g : Nat} {C : Nat → Wk.Bt} (hg : B ≤ g) (h : W.heap[g]? = some (.cells #[] 28 (0, 0))) : PlL B (.slice (some ⟨g, 0, none⟩) 0 0) 0 C W :=
  ⟨fun _ => beN, ⟨rfl, Or.inr ⟨g, 0, #[], rfl, hg, h, Nat.le_refl _, Nat.zero_le _, rfl, rfl⟩⟩, fun _ hi => absurd hi (Nat.not_lt_zero _)⟩
set_option maxRecDepth 100000 in
set_option maxHeartbeats 32000000 in
theorem specPlant_any (f : Wk.Fl) (ma : Option Addr) (m mk : Nat) (mi : Nat → Int) (a : Option Addr) (n cap : Nat) (bs : Nat → Be) (w : World) (hl : BtsAt a n bs w) (hn : n ≤ 4194304) (hbn : ∀ i, i < n → (bs i).n ≤ 4194304) (hmi : IntsAt ma m mi w) (hm : m ≤ 4194304) :
    Calls Tryd.prog 6 #[flV f, .slice ma m mk, .slice a n cap] w fun e W => PoEnd w.heap.size (Wk.plant m mi (fun i => (bs i).b) f n) e W ∧ Below w.heap.size w W := by
  obtain ⟨i0, hi0, hz0, hz1, hz2⟩ := info_parts info_bt
  obtain ⟨P, hP⟩ : ∃ P, P = Wk.plant m mi (fun i => (bs i).b) f n := ⟨_, rfl⟩
  rw [← hP]
  have HPE := Lib.hid hP
  obtain ⟨W, hW⟩ : ∃ W, W = (w.alloc (.cells #[.int .i64 f.held, .int .i64 f.most, .int .i64 f.catch_, .int .i64 f.wash] 29)).alloc (.cells #[.int .i64 0, .slice none 0 0, .int .i64 0, .slice none 0 0, .int .i64 0, .int .i64 0, .int .i64 0, .int .i64 0, .int .i64 0, .int .i64 0] 31) := ⟨_, rfl⟩
  have hb : Below w.heap.size w W := by rw [hW]; exact (bel_alloc _ _).alloc (by simp) _
  have hs : W.heap.size = w.heap.size + 2 := by rw [hW]; simp
  have HRO : Hid (W.rowIs (w.heap.size + 1) 31 10 (rowL (poL beN beN Wk.flNil 0 0))) := by
    show World.rowIs _ _ _ _ _
    rw [hW]
    have := rowL_alloc (w.alloc (.cells #[.int .i64 f.held, .int .i64 f.most, .int .i64 f.catch_, .int .i64 f.wash] 29)) (poL beN beN Wk.flNil 0 0) 31
    rwa [World.size_alloc] at this
  have HL := Lib.hid hl
  have HBN := Lib.hid hbn
  have HMI := Lib.hid hmi
  have HW := Lib.hid hW
  have HB := Lib.hid hb
  by_cases hbig : 400 < m ∨ 60 < n
  · have HQE : Hid (P = Wk.badP 2) := hP.trans (Wk.plant_big n hbig)
    clear hW hb hs hl hbn hmi hP
    go_enter Tryd.func6, Tryd.ntmps6
    by_cases hmm : 400 < m
    · have hmz : (400 : Int) < (m : Int) := by omega
      go_wp2_with fail
      refine bodyPost_ret (v := poV beN beN Wk.flNil 0 2) ?_ rfl ⟨by rw [HQE.out]; exact PoEnd.bad _ _ _, ((Below.refl _ _).alloc (Nat.le_refl _) _).alloc (by simp) _⟩
      simp [results, Tryd.results6, go_sem, Wk.flNil]
    · have hmz : ¬ (400 : Int) < (m : Int) := by omega
      have hnz : (60 : Int) < (n : Int) := by omega
      go_wp2_with fail
      refine bodyPost_ret (v := poV beN beN Wk.flNil 0 2) ?_ rfl ⟨by rw [HQE.out]; exact PoEnd.bad _ _ _, ((Below.refl _ _).alloc (Nat.le_refl _) _).alloc (by simp) _⟩
      simp [results, Tryd.results6, go_sem, Wk.flNil]

  · have hmz : ¬ (400 : Int) < (m : Int) := by omega
    have hnz : ¬ (60 : Int) < (n : Int) := by omega
    by_cases hn0 : n = 0
    · have h0z : ((n : Int) == 0) = true := by simp [hn0]
      have HQE : Hid (P = Wk.badP 1) := by
        show _ = _
        rw [hP, hn0]
        have e : (Wk.mix 0 (Wk.pclean m mi (fun i => (bs i).b) f)) = Wk.bad 1 := by unfold Wk.mix; rw [if_neg (by omega), if_neg (fun h => absurd h.1 (by omega))]
        exact (Wk.plant_clean (by omega) rfl (by rw [e]; simp [Wk.bad])).trans (by rw [e]; rfl)
      clear hW hb hs hl hbn hmi hP
      go_enter Tryd.func6, Tryd.ntmps6
      go_wp2_with fail
      refine bodyPost_ret (v := poV beN beN Wk.flNil 0 1) ?_ rfl ⟨by rw [HQE.out]; exact PoEnd.bad _ _ _, ((Below.refl _ _).alloc (Nat.le_refl _) _).alloc (by simp) _⟩
      simp [results, Tryd.results6, go_sem, Wk.flNil]

    have h0z : ((n : Int) == 0) = false := by simp [hn0]
    obtain ⟨W2, hW2⟩ : ∃ W2, W2 = ((W.alloc (.cells #[.int .i64 0, .slice none 0 0, .int .i64 0, .slice none 0 0, .int .i64 f.held, .int .i64 f.most, .int .i64 f.catch_, .int .i64 f.wash, .int .i64 0, .int .i64 0] 31)).alloc (.cells #[] 28)).alloc (.cells #[] 28) := ⟨_, rfl⟩
    have HM0 : Hid (MpS w (Wk.pfl m mi (fun i => (bs i).b) f 0) (Wk.pwash m mi (fun i => (bs i).b) f 0) (.slice (some ⟨w.heap.size + 3, 0, none⟩) 0 0) 0 (Wk.pclean m mi (fun i => (bs i).b) f) (.slice (some ⟨w.heap.size + 4, 0, none⟩) 0 0) (0 * 2) (Wk.pwaste m mi (fun i => (bs i).b) f) W2) := by
      have b1 := bel_alloc W (.cells #[.int .i64 0, .slice none 0 0, .int .i64 0, .slice none 0 0, .int .i64 f.held, .int .i64 f.most, .int .i64 f.catch_, .int .i64 f.wash, .int .i64 0, .int .i64 0] 31)
      have b2 : Below W.heap.size W W2 := by rw [hW2]; exact (b1.alloc (by simp) _).alloc (by simp; omega) _
      refine ⟨wrow_below HRO.out b2, ?_, PlL.made (by omega) ?_, PlL.made (by omega) ?_, ?_, hb.trans (b2.mono hb.size)⟩
      · rw [hW2]
        have := rowL_alloc W (poL beN beN f 0 0) 31
        rw [hs] at this
        exact wrow_below (wrow_below this (bel_alloc _ _)) (bel_alloc _ _)
      · rw [hW2]
        have e : w.heap.size + 3 = (W.alloc (.cells #[.int .i64 0, .slice none 0 0, .int .i64 0, .slice none 0 0, .int .i64 f.held, .int .i64 f.most, .int .i64 f.catch_, .int .i64 f.wash, .int .i64 0, .int .i64 0] 31)).heap.size := by simp [hs]
        rw [(bel_alloc _ _).block _ (by simp [hs]), e]
        exact blk_alloc_new _ _
      · rw [hW2]
        have e : w.heap.size + 4 = ((W.alloc (.cells #[.int .i64 0, .slice none 0 0, .int .i64 0, .slice none 0 0, .int .i64 f.held, .int .i64 f.most, .int .i64 f.catch_, .int .i64 f.wash, .int .i64 0, .int .i64 0] 31)).alloc (.cells #[] 28)).heap.size := by simp [hs]
        rw [e]
        exact blk_alloc_new _ _
      · intro g e1 e2
        simp [Value.ownBlock] at e1 e2
        omega
    have HW2 := Lib.hid hW2
    have HS := Lib.hid hs
    clear hW hW2 hb hs hl hbn hmi hP
    go_enter Tryd.func6, Tryd.ntmps6
    go_wp2_with fail
    rw [← HW.out, ← HW2.out]
    go_loopw [8, 9, 10] (fun cv wv iv wr => ∃ (i : Nat), i ≤ n ∧ iv = .int .i64 i ∧ Hid (Wk.pcode m mi (fun i => (bs i).b) f i = 0) ∧ Hid (MpS w (Wk.pfl m mi (fun i => (bs i).b) f i) (Wk.pwash m mi (fun i => (bs i).b) f i) cv i (Wk.pclean m mi (fun i => (bs i).b) f) wv (i * 2) (Wk.pwaste m mi (fun i => (bs i).b) f) wr)) (fun _ _ iv _ => n - (intOf iv).toNat)
    case atStart => exact ⟨0, Nat.zero_le _, rfl, rfl, HM0⟩
    case round =>
      obtain ⟨i, hi, rfl, hcode, hM⟩ := hrel
      clear HM0
      by_cases hlt : i < n
      · have hltz : (i : Int) < (n : Int) := by omega
        obtain ⟨b, rfl, hbc⟩ := HL.out.all (by omega)
        obtain ⟨q0, q1⟩ := (hbc i hlt).1
        have c0 := (hM.out.bel.cell (p := ⟨b, i * 2, none⟩) (World.block_lt_of_cell? _ _ q0)).trans q0
        have c1 := (hM.out.bel.cell (p := ⟨b, i * 2 + 1, none⟩) (World.block_lt_of_cell? _ _ q1)).trans q1
        obtain ⟨z, hz⟩ : ∃ z, z = bs i := ⟨_, rfl⟩
        rw [← hz] at c0 c1
        have HZI : Hid (IntsAt z.pa z.n z.f wr) := by show IntsAt _ _ _ _; rw [hz]; exact (hbc i hlt).2.below hM.out.bel
        have HZN : Hid (z.n ≤ 4194304) := by show z.n ≤ _; rw [hz]; exact HBN.out i hlt
        have HZ := Lib.hid hz
        clear hz hbc q0 q1
        go_wp2_with fail
        clear c0 c1
        refine (sSettle_any z.b z.pa z.k ma m mk mi _ HZI.out HZN.out (HMI.out.below hM.out.bel) (by omega)).mono ?_
        rintro e W3 ⟨⟨ax, kx, ay, ky, rfl, hT⟩, hb3⟩
        obtain ⟨A, hA⟩ : ∃ A, A = Wk.settle z.b m mi := ⟨_, rfl⟩
        rw [← hA] at hT ⊢
        have HAE : Hid (A = Wk.pse m mi (fun i => (bs i).b) i) := by show _ = _; rw [hA, HZ.out]; rfl
        have HAN : Hid (A.x.n ≤ 4194304) := by show _ ≤ _; rw [hA]; have := HZN.out; have := (Wk.settle_n z.b m mi).1; have e : z.b.n = z.n := rfl; omega
        obtain ⟨W4, hW4⟩ : ∃ W4, W4 = W3.alloc (.cells #[.int .i64 A.x.wt, .slice ax A.x.n kx, .int .i64 A.y.wt, .slice ay A.y.n ky, .int .i64 A.c] 51) := ⟨_, rfl⟩
        have hb4 : Below W3.heap.size W3 W4 := by rw [hW4]; exact bel_alloc _ _
        have HM3 := Lib.hid (hM.out.below hb3)
        have HM4 := Lib.hid (HM3.out.below hb4)
        have HT := Lib.hid (hT.below hb4)
        have HR11 : Hid (W4.rowIs W3.heap.size 51 5 (rowL [.int .i64 A.x.wt, .slice ax A.x.n kx, .int .i64 A.y.wt, .slice ay A.y.n ky, .int .i64 A.c])) := by show World.rowIs _ _ _ _ _; rw [hW4]; exact rowL_alloc W3 _ _
        have HW4 := Lib.hid hW4
        clear hA hW4 hb4 hb3 hT hM HZI HZN
        obtain ⟨⟨_, _, _, _, p4⟩, p5, p6, p7, p8, _⟩ := po_cells HM3.out.out
        have hpl := HM3.out.out.lt
        by_cases hc : A.c = 0
        · have hcz : (A.c == 0) = true := by simp [hc]
          have HCC := Lib.hid hc
          clear hc
          go_wp2_with fail
          rw [← HW4.out]
          clear p4 p5 p6 p7 p8 hpl
          refine (sFilter_any (Wk.pfl m mi (fun i => (bs i).b) f i) A.x ax kx W4 HT.out.px.at_ HAN.out).mono ?_
          rintro e W5 ⟨⟨bx, lx, cy, ly, rfl, hT2⟩, hb5⟩
          obtain ⟨fl, hfl⟩ : ∃ fl, fl = Wk.pfl m mi (fun i => (bs i).b) f i := ⟨_, rfl⟩
          obtain ⟨kw, hkw⟩ : ∃ kw, kw = Wk.pwash m mi (fun i => (bs i).b) f i := ⟨_, rfl⟩
          obtain ⟨F, hF⟩ : ∃ F, F = Wk.step fl A.x := ⟨_, rfl⟩
          rw [← hfl] at hT2 ⊢
          rw [← hF] at hT2 ⊢
          have HFE : Hid (F = Wk.pst m mi (fun i => (bs i).b) f i) := by show _ = _; rw [hF, hfl, HAE.out]; rfl
          have HFS : Hid (F = Wk.step fl A.x) := hF
          have HFL := Lib.hid hfl
          have HKW := Lib.hid hkw
          have HKB : Hid (0 ≤ kw ∧ kw ≤ 60) := by show _ ∧ _; have := Wk.pwash_bounds (m := m) (mi := mi) (bs := (fun i => (bs i).b)) (f := f) i; rw [hkw]; omega
          have HM5 := Lib.hid (HM4.out.below hb5)
          rw [← hfl, ← hkw] at HM5
          replace HR11 := Lib.hid (wrow_below HR11.out hb5)
          replace HT := Lib.hid (HT.out.below hb5)
          have HT2 := Lib.hid hT2
          obtain ⟨W6, hW6⟩ : ∃ W6, W6 = W5.alloc (.cells #[.int .i64 F.f.held, .int .i64 F.f.most, .int .i64 F.f.catch_, .int .i64 F.f.wash, .int .i64 F.clean.wt, .slice bx F.clean.n lx, .int .i64 F.waste.wt, .slice cy F.waste.n ly, .int .i64 F.head, .int .i64 F.c] 54) := ⟨_, rfl⟩
          have HW6 := Lib.hid hW6
          clear hfl hkw hF hT2 hW6 hb5 HM3 HM4
          obtain ⟨⟨_, _, _, _, p4⟩, p5, p6, p7, p8, _⟩ := po_cells HM5.out.out
          obtain ⟨⟨_, _, _, _, e4⟩, e5, e6, e7, e8, _⟩ := po_res HM5.out.out
          have hpl := HM5.out.out.lt
          by_cases hc2 : F.c = 0
          · have hcz2 : (F.c == 0) = true := by simp [hc2]
            have hst : (Wk.step fl A.x).c = 0 := by rw [← HFS.out]; exact hc2
            obtain ⟨hn1, hn2⟩ := step_pos hst
            have wi := Wk.wash_iff hst
            have hax : 0 < A.x.n := (Wk.step_good hst).1.2.2
            rw [← HFS.out] at hn1 hn2 wi
            have hay : 0 < A.y.n := by
              have e : A = Wk.settle z.b m mi := by rw [HAE.out, HZ.out]; rfl
              obtain ⟨_, e2⟩ := Wk.settle_good (b := z.b) (m := m) (mi := mi) (by rw [← e]; exact HCC.out)
              rw [e, e2] at hax ⊢
              exact hax
            have HPX : Hid (∃ g, bx = some ⟨g, 0, none⟩ ∧ InBlk g F.clean.n F.clean.f W5) := by
              rcases HT2.out.px with ⟨_, e, _⟩ | ⟨g, e, _, h⟩
              · omega
              · exact ⟨g, e, h⟩
            have HPY : Hid (∃ g, ay = some ⟨g, 0, none⟩ ∧ InBlk g A.y.n A.y.f W5) := by
              rcases HT.out.py with ⟨_, e, _⟩ | ⟨g, e, _, h⟩
              · omega
              · exact ⟨g, e, h⟩
            obtain ⟨gy, rfl, hgy⟩ : ∃ g, cy = some ⟨g, 0, none⟩ ∧ InBlk g F.waste.n F.waste.f W5 := by
              rcases HT2.out.py with ⟨_, e, _⟩ | ⟨g, e, _, h⟩
              · omega
              · exact ⟨g, e, h⟩
            have HGY := Lib.hid hgy
            have y0 := hgy.cell (i := 0) hn2
            have hgl := hgy.lt
            have hyn : (0 : Int) < (F.waste.n : Int) := by omega
            have HOK : Hid (A.c = 0 ∧ F.c = 0) := ⟨HCC.out, hc2⟩
            obtain ⟨hk0, hk1⟩ := HKB.out
            clear hst hgy hax hay hn1 hn2 hc2
            by_cases hw0 : 0 < F.waste.f 0
            · by_cases hh : F.f.held < fl.held
              · have hke : ∀ g, g ≠ w.heap.size + 1 + 1 → ((((((W5).setCell ⟨w.heap.size + 1 + 1, 8, none⟩ (.int .i64 (kw + 1))).setCell ⟨w.heap.size + 1 + 1, 4, none⟩ (.int .i64 F.f.held)).setCell ⟨w.heap.size + 1 + 1, 5, none⟩ (.int .i64 F.f.most)).setCell ⟨w.heap.size + 1 + 1, 6, none⟩ (.int .i64 F.f.catch_)).setCell ⟨w.heap.size + 1 + 1, 7, none⟩ (.int .i64 F.f.wash)).heap[g]? = W5.heap[g]? := fun g hg => by rw [Below.heap_setCell _ ⟨w.heap.size + 1 + 1, 7, none⟩ _ _ hg, Below.heap_setCell _ ⟨w.heap.size + 1 + 1, 6, none⟩ _ _ hg, Below.heap_setCell _ ⟨w.heap.size + 1 + 1, 5, none⟩ _ _ hg, Below.heap_setCell _ ⟨w.heap.size + 1 + 1, 4, none⟩ _ _ hg, Below.heap_setCell _ ⟨w.heap.size + 1 + 1, 8, none⟩ _ _ hg]
                have HM7 : Hid (MpS w F.f (kw + 1) u8 i (Wk.pclean m mi (fun i => (bs i).b) f) u9 (i * 2) (Wk.pwaste m mi (fun i => (bs i).b) f) ((((((((W5).setCell ⟨w.heap.size + 1 + 1, 8, none⟩ (.int .i64 (kw + 1))).setCell ⟨w.heap.size + 1 + 1, 4, none⟩ (.int .i64 F.f.held)).setCell ⟨w.heap.size + 1 + 1, 5, none⟩ (.int .i64 F.f.most)).setCell ⟨w.heap.size + 1 + 1, 6, none⟩ (.int .i64 F.f.catch_)).setCell ⟨w.heap.size + 1 + 1, 7, none⟩ (.int .i64 F.f.wash)).alloc (.cells #[.int .i64 F.f.held, .int .i64 F.f.most, .int .i64 F.f.catch_, .int .i64 F.f.wash, .int .i64 F.clean.wt, .slice bx F.clean.n lx, .int .i64 F.waste.wt, .slice (some ⟨gy, 0, none⟩) F.waste.n ly, .int .i64 F.head, .int .i64 F.c] 54)).alloc (.cells #[.int .i64 F.clean.wt, .slice bx F.clean.n lx] 28))) := ((HM5.out.fill hke (pl_row_set (pl_row_set (pl_row_set (pl_row_set (pl_row_set HM5.out.out 8 (.int .i64 (kw + 1)) (by simp)) 4 (.int .i64 F.f.held) (by simp)) 5 (.int .i64 F.f.most) (by simp)) 6 (.int .i64 F.f.catch_) (by simp)) 7 (.int .i64 F.f.wash) (by simp)) (((((HM5.out.bel.setCell (p := ⟨w.heap.size + 1 + 1, 8, none⟩) (by show w.heap.size ≤ w.heap.size + 1 + 1; omega) _).setCell (p := ⟨w.heap.size + 1 + 1, 4, none⟩) (by show w.heap.size ≤ w.heap.size + 1 + 1; omega) _).setCell (p := ⟨w.heap.size + 1 + 1, 5, none⟩) (by show w.heap.size ≤ w.heap.size + 1 + 1; omega) _).setCell (p := ⟨w.heap.size + 1 + 1, 6, none⟩) (by show w.heap.size ≤ w.heap.size + 1 + 1; omega) _).setCell (p := ⟨w.heap.size + 1 + 1, 7, none⟩) (by show w.heap.size ≤ w.heap.size + 1 + 1; omega) _)).below (bel_alloc _ _)).below (bel_alloc _ _)
                have hkl : ∀ g, g < W5.heap.size → g ≠ w.heap.size + 1 + 1 → ((((((((W5).setCell ⟨w.heap.size + 1 + 1, 8, none⟩ (.int .i64 (kw + 1))).setCell ⟨w.heap.size + 1 + 1, 4, none⟩ (.int .i64 F.f.held)).setCell ⟨w.heap.size + 1 + 1, 5, none⟩ (.int .i64 F.f.most)).setCell ⟨w.heap.size + 1 + 1, 6, none⟩ (.int .i64 F.f.catch_)).setCell ⟨w.heap.size + 1 + 1, 7, none⟩ (.int .i64 F.f.wash)).alloc (.cells #[.int .i64 F.f.held, .int .i64 F.f.most, .int .i64 F.f.catch_, .int .i64 F.f.wash, .int .i64 F.clean.wt, .slice bx F.clean.n lx, .int .i64 F.waste.wt, .slice (some ⟨gy, 0, none⟩) F.waste.n ly, .int .i64 F.head, .int .i64 F.c] 54)).alloc (.cells #[.int .i64 F.clean.wt, .slice bx F.clean.n lx] 28)).heap[g]? = W5.heap[g]? := fun g hg hn => by
                  rw [Below.heap_alloc _ _ _ (by simp; omega), Below.heap_alloc _ _ _ (by simpa using hg)]
                  exact hke g hn
                have HKL := Lib.hid hkl
                have HSE : Hid (((((((((W5).setCell ⟨w.heap.size + 1 + 1, 8, none⟩ (.int .i64 (kw + 1))).setCell ⟨w.heap.size + 1 + 1, 4, none⟩ (.int .i64 F.f.held)).setCell ⟨w.heap.size + 1 + 1, 5, none⟩ (.int .i64 F.f.most)).setCell ⟨w.heap.size + 1 + 1, 6, none⟩ (.int .i64 F.f.catch_)).setCell ⟨w.heap.size + 1 + 1, 7, none⟩ (.int .i64 F.f.wash)).alloc (.cells #[.int .i64 F.f.held, .int .i64 F.f.most, .int .i64 F.f.catch_, .int .i64 F.f.wash, .int .i64 F.clean.wt, .slice bx F.clean.n lx, .int .i64 F.waste.wt, .slice (some ⟨gy, 0, none⟩) F.waste.n ly, .int .i64 F.head, .int .i64 F.c] 54)).alloc (.cells #[.int .i64 F.clean.wt, .slice bx F.clean.n lx] 28)).heap.size = W5.heap.size + 2) := by show _ = _; simp
                have HR12 : Hid (((((((((W5).setCell ⟨w.heap.size + 1 + 1, 8, none⟩ (.int .i64 (kw + 1))).setCell ⟨w.heap.size + 1 + 1, 4, none⟩ (.int .i64 F.f.held)).setCell ⟨w.heap.size + 1 + 1, 5, none⟩ (.int .i64 F.f.most)).setCell ⟨w.heap.size + 1 + 1, 6, none⟩ (.int .i64 F.f.catch_)).setCell ⟨w.heap.size + 1 + 1, 7, none⟩ (.int .i64 F.f.wash)).alloc (.cells #[.int .i64 F.f.held, .int .i64 F.f.most, .int .i64 F.f.catch_, .int .i64 F.f.wash, .int .i64 F.clean.wt, .slice bx F.clean.n lx, .int .i64 F.waste.wt, .slice (some ⟨gy, 0, none⟩) F.waste.n ly, .int .i64 F.head, .int .i64 F.c] 54)).alloc (.cells #[.int .i64 F.clean.wt, .slice bx F.clean.n lx] 28)).rowIs W5.heap.size 54 10 (rowL [.int .i64 F.f.held, .int .i64 F.f.most, .int .i64 F.f.catch_, .int .i64 F.f.wash, .int .i64 F.clean.wt, .slice bx F.clean.n lx, .int .i64 F.waste.wt, .slice (some ⟨gy, 0, none⟩) F.waste.n ly, .int .i64 F.head, .int .i64 F.c])) := by
                  show World.rowIs _ _ _ _ _
                  refine wrow_below ?_ (bel_alloc _ _)
                  have := rowL_alloc ((((((W5).setCell ⟨w.heap.size + 1 + 1, 8, none⟩ (.int .i64 (kw + 1))).setCell ⟨w.heap.size + 1 + 1, 4, none⟩ (.int .i64 F.f.held)).setCell ⟨w.heap.size + 1 + 1, 5, none⟩ (.int .i64 F.f.most)).setCell ⟨w.heap.size + 1 + 1, 6, none⟩ (.int .i64 F.f.catch_)).setCell ⟨w.heap.size + 1 + 1, 7, none⟩ (.int .i64 F.f.wash)) [.int .i64 F.f.held, .int .i64 F.f.most, .int .i64 F.f.catch_, .int .i64 F.f.wash, .int .i64 F.clean.wt, .slice bx F.clean.n lx, .int .i64 F.waste.wt, .slice (some ⟨gy, 0, none⟩) F.waste.n ly, .int .i64 F.head, .int .i64 F.c] 54
                  simpa using this
                have HLIT : Hid (((((((((W5).setCell ⟨w.heap.size + 1 + 1, 8, none⟩ (.int .i64 (kw + 1))).setCell ⟨w.heap.size + 1 + 1, 4, none⟩ (.int .i64 F.f.held)).setCell ⟨w.heap.size + 1 + 1, 5, none⟩ (.int .i64 F.f.most)).setCell ⟨w.heap.size + 1 + 1, 6, none⟩ (.int .i64 F.f.catch_)).setCell ⟨w.heap.size + 1 + 1, 7, none⟩ (.int .i64 F.f.wash)).alloc (.cells #[.int .i64 F.f.held, .int .i64 F.f.most, .int .i64 F.f.catch_, .int .i64 F.f.wash, .int .i64 F.clean.wt, .slice bx F.clean.n lx, .int .i64 F.waste.wt, .slice (some ⟨gy, 0, none⟩) F.waste.n ly, .int .i64 F.head, .int .i64 F.c] 54)).alloc (.cells #[.int .i64 F.clean.wt, .slice bx F.clean.n lx] 28)).rowIs (W5.heap.size + 1) 28 2 (r2 (.int .i64 F.clean.wt) (.slice bx F.clean.n lx))) := row2' (by simp) _ _ _
                obtain ⟨cs, hown, hcs⟩ := HM7.out.cl
                have HCS := Lib.hid hcs
                have HOW := Lib.hid hown
                clear hke hkl hcs wi
                go_wp2_with (at_builtin; refine wpList_append_own_at _ rfl _ _ 35 rfl (w.heap.size + 3) 28 i0 _ 2 32 Tryd.underlying35 hi0 hz0 hz1 hz2 rfl (by decide) _ _ _ rfl hown ⟨W5.heap.size + 1, 0, none⟩ 1 1 [.int .i64 F.clean.wt, .slice bx F.clean.n lx] rfl rfl ?d1 ?d2 ?d3 ?d4 ?d5 ?_)
                case d1 =>
                  obtain ⟨⟨d0, d1⟩, _⟩ := row2_cells HLIT.out
                  intro j x hj
                  match j, hj with
                  | 0, hj => have hj2 : (.int .i64 F.clean.wt : Value) = x := by simpa using hj
                             subst hj2; exact d0
                  | 1, hj => have hj2 : (.slice bx F.clean.n lx : Value) = x := by simpa using hj
                             subst hj2; exact d1
                case d2 =>
                  intro x hx
                  simp at hx
                  rcases hx with rfl | rfl <;> rfl
                case d3 => unfold maxLen; omega
                case d4 => omega
                case d5 => have := HM7.out.bel.size; have := HSE.out; have := hpl; omega
                intro v1 W8 hown1 hgrow _ hwhere
                have hse := HSE.out
                have HNO : Hid (∀ g t, (∃ cur, ((((((((W5).setCell ⟨w.heap.size + 1 + 1, 8, none⟩ (.int .i64 (kw + 1))).setCell ⟨w.heap.size + 1 + 1, 4, none⟩ (.int .i64 F.f.held)).setCell ⟨w.heap.size + 1 + 1, 5, none⟩ (.int .i64 F.f.most)).setCell ⟨w.heap.size + 1 + 1, 6, none⟩ (.int .i64 F.f.catch_)).setCell ⟨w.heap.size + 1 + 1, 7, none⟩ (.int .i64 F.f.wash)).alloc (.cells #[.int .i64 F.f.held, .int .i64 F.f.most, .int .i64 F.f.catch_, .int .i64 F.f.wash, .int .i64 F.clean.wt, .slice bx F.clean.n lx, .int .i64 F.waste.wt, .slice (some ⟨gy, 0, none⟩) F.waste.n ly, .int .i64 F.head, .int .i64 F.c] 54)).alloc (.cells #[.int .i64 F.clean.wt, .slice bx F.clean.n lx] 28)).heap[g]? = some (Obj.cells cur t (0, 0))) → t ≠ 28 → W8.heap[g]? = ((((((((W5).setCell ⟨w.heap.size + 1 + 1, 8, none⟩ (.int .i64 (kw + 1))).setCell ⟨w.heap.size + 1 + 1, 4, none⟩ (.int .i64 F.f.held)).setCell ⟨w.heap.size + 1 + 1, 5, none⟩ (.int .i64 F.f.most)).setCell ⟨w.heap.size + 1 + 1, 6, none⟩ (.int .i64 F.f.catch_)).setCell ⟨w.heap.size + 1 + 1, 7, none⟩ (.int .i64 F.f.wash)).alloc (.cells #[.int .i64 F.f.held, .int .i64 F.f.most, .int .i64 F.f.catch_, .int .i64 F.f.wash, .int .i64 F.clean.wt, .slice bx F.clean.n lx, .int .i64 F.waste.wt, .slice (some ⟨gy, 0, none⟩) F.waste.n ly, .int .i64 F.head, .int .i64 F.c] 54)).alloc (.cells #[.int .i64 F.clean.wt, .slice bx F.clean.n lx] 28)).heap[g]?) := fun g t ht hne => by
                  obtain ⟨cur, e⟩ := ht
                  exact hgrow.block g (lt_of_some e) (fun e2 => blk_ne ⟨cur, e⟩ (own_type HOW.out e2.symm).2 hne rfl)
                have kpe : ∀ g n (ff : Nat → Int), InBlk g n ff W5 → InBlk g n ff ((((((((W5).setCell ⟨w.heap.size + 1 + 1, 8, none⟩ (.int .i64 (kw + 1))).setCell ⟨w.heap.size + 1 + 1, 4, none⟩ (.int .i64 F.f.held)).setCell ⟨w.heap.size + 1 + 1, 5, none⟩ (.int .i64 F.f.most)).setCell ⟨w.heap.size + 1 + 1, 6, none⟩ (.int .i64 F.f.catch_)).setCell ⟨w.heap.size + 1 + 1, 7, none⟩ (.int .i64 F.f.wash)).alloc (.cells #[.int .i64 F.f.held, .int .i64 F.f.most, .int .i64 F.f.catch_, .int .i64 F.f.wash, .int .i64 F.clean.wt, .slice bx F.clean.n lx, .int .i64 F.waste.wt, .slice (some ⟨gy, 0, none⟩) F.waste.n ly, .int .i64 F.head, .int .i64 F.c] 54)).alloc (.cells #[.int .i64 F.clean.wt, .slice bx F.clean.n lx] 28)) := fun g n ff h2 => h2.block (HKL.out g h2.lt (blk_ne (inBlk_type h2) (rowIs_type HM5.out.out) (by decide)))
                have HX1 : Hid (∃ g, bx = some ⟨g, 0, none⟩ ∧ InBlk g F.clean.n F.clean.f ((((((((W5).setCell ⟨w.heap.size + 1 + 1, 8, none⟩ (.int .i64 (kw + 1))).setCell ⟨w.heap.size + 1 + 1, 4, none⟩ (.int .i64 F.f.held)).setCell ⟨w.heap.size + 1 + 1, 5, none⟩ (.int .i64 F.f.most)).setCell ⟨w.heap.size + 1 + 1, 6, none⟩ (.int .i64 F.f.catch_)).setCell ⟨w.heap.size + 1 + 1, 7, none⟩ (.int .i64 F.f.wash)).alloc (.cells #[.int .i64 F.f.held, .int .i64 F.f.most, .int .i64 F.f.catch_, .int .i64 F.f.wash, .int .i64 F.clean.wt, .slice bx F.clean.n lx, .int .i64 F.waste.wt, .slice (some ⟨gy, 0, none⟩) F.waste.n ly, .int .i64 F.head, .int .i64 F.c] 54)).alloc (.cells #[.int .i64 F.clean.wt, .slice bx F.clean.n lx] 28))) := by obtain ⟨g, e, h2⟩ := HPX.out; exact ⟨g, e, kpe _ _ _ h2⟩
                have HY1 : Hid (∃ g, ay = some ⟨g, 0, none⟩ ∧ InBlk g A.y.n A.y.f W8) := by obtain ⟨g, e, h2⟩ := HPY.out; exact ⟨g, e, (kpe _ _ _ h2).block (HNO.out _ _ (inBlk_type (kpe _ _ _ h2)) (by decide))⟩
                have HG1 : Hid (InBlk gy F.waste.n F.waste.f W8) := (kpe _ _ _ HGY.out).block (HNO.out _ _ (inBlk_type (kpe _ _ _ HGY.out)) (by decide))
                have HM8 : Hid (MpS w F.f (kw + 1) v1 (i + 1) (Wk.pclean m mi (fun i => (bs i).b) f) u9 (i * 2) (Wk.pwaste m mi (fun i => (bs i).b) f) W8) := HM7.out.appC hgrow (by rw [HSE.out]; exact hwhere) (PlL.push (x := ⟨F.clean.wt, bx, F.clean.n, lx, F.clean.f⟩) HCS.out (by show F.clean = _; rw [HFE.out]; rfl) HX1.out HOW.out hgrow hown1)
                have r11 : W8.rowIs W3.heap.size 51 5 (rowL [.int .i64 A.x.wt, .slice ax A.x.n kx, .int .i64 A.y.wt, .slice ay A.y.n ky, .int .i64 A.c]) := by
                  have q := HR11.out.of_block (HKL.out _ HR11.out.lt (blk_ne (rowIs_type HR11.out) (rowIs_type HM5.out.out) (by decide)))
                  exact q.of_block (HNO.out _ _ (rowIs_type q) (by decide))
                have r12 := HR12.out.of_block (HNO.out _ _ (rowIs_type HR12.out) (by decide))
                have q2 : W8.cell? ⟨W3.heap.size, 2, none⟩ = some (.int .i64 A.y.wt) := r11.cell (i := 2) (by omega)
                have q3 : W8.cell? ⟨W3.heap.size, 3, none⟩ = some (.slice ay A.y.n ky) := r11.cell (i := 3) (by omega)
                have s6 : W8.cell? ⟨W5.heap.size, 6, none⟩ = some (.int .i64 F.waste.wt) := r12.cell (i := 6) (by omega)
                have s7 : W8.cell? ⟨W5.heap.size, 7, none⟩ = some (.slice (some ⟨gy, 0, none⟩) F.waste.n ly) := r12.cell (i := 7) (by omega)
                have l11 := r11.lt
                have l12 := r12.lt
                have HM8L : Hid (MpS w F.f (kw + 1) v1 (i + 1) (Wk.pclean m mi (fun i => (bs i).b) f) u9 (i * 2) (Wk.pwaste m mi (fun i => (bs i).b) f) (W8.alloc (.cells #[.int .i64 A.y.wt, .slice ay A.y.n ky, .int .i64 F.waste.wt, .slice (some ⟨gy, 0, none⟩) F.waste.n ly] 28))) := HM8.out.below (bel_alloc _ _)
                obtain ⟨ds, hown2, hds⟩ := HM8L.out.wl
                have HDS := Lib.hid hds
                have HOW2 := Lib.hid hown2
                have hw8 : w.heap.size + 3 ≤ W8.heap.size := by have := HM8.out.out.lt; omega
                clear hown1 hgrow hwhere hse kpe hown r11 r12 hds HNO HM7 HKL HSE HR12 HCS HOW p4 p5 p6 p7 p8 e4 e5 e6 e7 e8 y0
                go_wp2_with (at_builtin; refine wpList_append_own_at _ rfl _ _ 35 rfl (w.heap.size + 3) 28 i0 _ 2 32 Tryd.underlying35 hi0 hz0 hz1 hz2 rfl (by decide) _ _ _ rfl hown2 ⟨W8.heap.size, 0, none⟩ 2 2 [.int .i64 A.y.wt, .slice ay A.y.n ky, .int .i64 F.waste.wt, .slice (some ⟨gy, 0, none⟩) F.waste.n ly] rfl rfl ?c1 ?c2 ?c3 ?c4 ?c5 ?_)
                case c1 =>
                  intro j x hj
                  match j, hj with
                  | 0, hj => simp at hj; subst hj; simp [Addr.add]
                  | 1, hj => simp at hj; subst hj; simp [Addr.add]
                  | 2, hj => simp at hj; subst hj; simp [Addr.add]
                  | 3, hj => simp at hj; subst hj; simp [Addr.add]
                case c2 =>
                  intro x hx
                  simp at hx
                  rcases hx with rfl | rfl | rfl | rfl <;> rfl
                case c3 => unfold maxLen; omega
                case c4 => omega
                case c5 => simp; omega
                intro v2 W9 hown3 hgrow2 _ hwhere2
                have HM9 : Hid (MpS w F.f (kw + 1) v1 (i + 1) (Wk.pclean m mi (fun i => (bs i).b) f) v2 (i * 2 + 1 + 1) (Wk.pwaste m mi (fun i => (bs i).b) f) W9) := HM8L.out.appW hgrow2 (by simpa using hwhere2) (PlL.push2 (x := ⟨A.y.wt, ay, A.y.n, ky, A.y.f⟩) (y := ⟨F.waste.wt, some ⟨gy, 0, none⟩, F.waste.n, ly, F.waste.f⟩) HDS.out (by rw [Wk.pwaste_even, ← HAE.out]; rfl) (by obtain ⟨g, e, h2⟩ := HY1.out; exact ⟨g, e, h2.below (bel_alloc _ _)⟩) (by rw [Wk.pwaste_odd, ← HFE.out]; rfl) ⟨gy, rfl, HG1.out.below (bel_alloc _ _)⟩ HOW2.out hgrow2 hown3)
                clear hown2 hown3 hgrow2 hwhere2 q2 q3 s6 s7 l11 l12
                go_wp2_with fail
                go_roundw
                case rel =>
                  refine ⟨i + 1, by omega, by go_num, Wk.pcode_next hcode.out (by rw [← HAE.out]; exact HOK.out.1) (by rw [← HFE.out]; exact HOK.out.2), ?_⟩
                  have e1 : (i + 1) * 2 = i * 2 + 1 + 1 := by omega
                  have e2 : Wk.pwash m mi (fun i => (bs i).b) f (i + 1) = (kw + 1) := by
                    simp only [Wk.pwash]
                    rw [← HFE.out, ← HKW.out]
                    rw [if_pos hw0]
                  rw [e1, e2, Wk.pfl_succ, ← HFE.out]
                  exact HM9
                case measure => simp [intOf]; omega
              · have h0 : F.f.held = 0 := by have := wi.2 hw0; omega
                have h0z : (F.f.held == 0) = true := by simp [h0]
                clear h0
                have hke : ∀ g, g ≠ w.heap.size + 1 + 1 → ((((((W5).setCell ⟨w.heap.size + 1 + 1, 8, none⟩ (.int .i64 (kw + 1))).setCell ⟨w.heap.size + 1 + 1, 4, none⟩ (.int .i64 F.f.held)).setCell ⟨w.heap.size + 1 + 1, 5, none⟩ (.int .i64 F.f.most)).setCell ⟨w.heap.size + 1 + 1, 6, none⟩ (.int .i64 F.f.catch_)).setCell ⟨w.heap.size + 1 + 1, 7, none⟩ (.int .i64 F.f.wash)).heap[g]? = W5.heap[g]? := fun g hg => by rw [Below.heap_setCell _ ⟨w.heap.size + 1 + 1, 7, none⟩ _ _ hg, Below.heap_setCell _ ⟨w.heap.size + 1 + 1, 6, none⟩ _ _ hg, Below.heap_setCell _ ⟨w.heap.size + 1 + 1, 5, none⟩ _ _ hg, Below.heap_setCell _ ⟨w.heap.size + 1 + 1, 4, none⟩ _ _ hg, Below.heap_setCell _ ⟨w.heap.size + 1 + 1, 8, none⟩ _ _ hg]
                have HM7 : Hid (MpS w F.f (kw + 1) u8 i (Wk.pclean m mi (fun i => (bs i).b) f) u9 (i * 2) (Wk.pwaste m mi (fun i => (bs i).b) f) ((((((((W5).setCell ⟨w.heap.size + 1 + 1, 8, none⟩ (.int .i64 (kw + 1))).setCell ⟨w.heap.size + 1 + 1, 4, none⟩ (.int .i64 F.f.held)).setCell ⟨w.heap.size + 1 + 1, 5, none⟩ (.int .i64 F.f.most)).setCell ⟨w.heap.size + 1 + 1, 6, none⟩ (.int .i64 F.f.catch_)).setCell ⟨w.heap.size + 1 + 1, 7, none⟩ (.int .i64 F.f.wash)).alloc (.cells #[.int .i64 F.f.held, .int .i64 F.f.most, .int .i64 F.f.catch_, .int .i64 F.f.wash, .int .i64 F.clean.wt, .slice bx F.clean.n lx, .int .i64 F.waste.wt, .slice (some ⟨gy, 0, none⟩) F.waste.n ly, .int .i64 F.head, .int .i64 F.c] 54)).alloc (.cells #[.int .i64 F.clean.wt, .slice bx F.clean.n lx] 28))) := ((HM5.out.fill hke (pl_row_set (pl_row_set (pl_row_set (pl_row_set (pl_row_set HM5.out.out 8 (.int .i64 (kw + 1)) (by simp)) 4 (.int .i64 F.f.held) (by simp)) 5 (.int .i64 F.f.most) (by simp)) 6 (.int .i64 F.f.catch_) (by simp)) 7 (.int .i64 F.f.wash) (by simp)) (((((HM5.out.bel.setCell (p := ⟨w.heap.size + 1 + 1, 8, none⟩) (by show w.heap.size ≤ w.heap.size + 1 + 1; omega) _).setCell (p := ⟨w.heap.size + 1 + 1, 4, none⟩) (by show w.heap.size ≤ w.heap.size + 1 + 1; omega) _).setCell (p := ⟨w.heap.size + 1 + 1, 5, none⟩) (by show w.heap.size ≤ w.heap.size + 1 + 1; omega) _).setCell (p := ⟨w.heap.size + 1 + 1, 6, none⟩) (by show w.heap.size ≤ w.heap.size + 1 + 1; omega) _).setCell (p := ⟨w.heap.size + 1 + 1, 7, none⟩) (by show w.heap.size ≤ w.heap.size + 1 + 1; omega) _)).below (bel_alloc _ _)).below (bel_alloc _ _)
                have hkl : ∀ g, g < W5.heap.size → g ≠ w.heap.size + 1 + 1 → ((((((((W5).setCell ⟨w.heap.size + 1 + 1, 8, none⟩ (.int .i64 (kw + 1))).setCell ⟨w.heap.size + 1 + 1, 4, none⟩ (.int .i64 F.f.held)).setCell ⟨w.heap.size + 1 + 1, 5, none⟩ (.int .i64 F.f.most)).setCell ⟨w.heap.size + 1 + 1, 6, none⟩ (.int .i64 F.f.catch_)).setCell ⟨w.heap.size + 1 + 1, 7, none⟩ (.int .i64 F.f.wash)).alloc (.cells #[.int .i64 F.f.held, .int .i64 F.f.most, .int .i64 F.f.catch_, .int .i64 F.f.wash, .int .i64 F.clean.wt, .slice bx F.clean.n lx, .int .i64 F.waste.wt, .slice (some ⟨gy, 0, none⟩) F.waste.n ly, .int .i64 F.head, .int .i64 F.c] 54)).alloc (.cells #[.int .i64 F.clean.wt, .slice bx F.clean.n lx] 28)).heap[g]? = W5.heap[g]? := fun g hg hn => by
                  rw [Below.heap_alloc _ _ _ (by simp; omega), Below.heap_alloc _ _ _ (by simpa using hg)]
                  exact hke g hn
                have HKL := Lib.hid hkl
                have HSE : Hid (((((((((W5).setCell ⟨w.heap.size + 1 + 1, 8, none⟩ (.int .i64 (kw + 1))).setCell ⟨w.heap.size + 1 + 1, 4, none⟩ (.int .i64 F.f.held)).setCell ⟨w.heap.size + 1 + 1, 5, none⟩ (.int .i64 F.f.most)).setCell ⟨w.heap.size + 1 + 1, 6, none⟩ (.int .i64 F.f.catch_)).setCell ⟨w.heap.size + 1 + 1, 7, none⟩ (.int .i64 F.f.wash)).alloc (.cells #[.int .i64 F.f.held, .int .i64 F.f.most, .int .i64 F.f.catch_, .int .i64 F.f.wash, .int .i64 F.clean.wt, .slice bx F.clean.n lx, .int .i64 F.waste.wt, .slice (some ⟨gy, 0, none⟩) F.waste.n ly, .int .i64 F.head, .int .i64 F.c] 54)).alloc (.cells #[.int .i64 F.clean.wt, .slice bx F.clean.n lx] 28)).heap.size = W5.heap.size + 2) := by show _ = _; simp
                have HR12 : Hid (((((((((W5).setCell ⟨w.heap.size + 1 + 1, 8, none⟩ (.int .i64 (kw + 1))).setCell ⟨w.heap.size + 1 + 1, 4, none⟩ (.int .i64 F.f.held)).setCell ⟨w.heap.size + 1 + 1, 5, none⟩ (.int .i64 F.f.most)).setCell ⟨w.heap.size + 1 + 1, 6, none⟩ (.int .i64 F.f.catch_)).setCell ⟨w.heap.size + 1 + 1, 7, none⟩ (.int .i64 F.f.wash)).alloc (.cells #[.int .i64 F.f.held, .int .i64 F.f.most, .int .i64 F.f.catch_, .int .i64 F.f.wash, .int .i64 F.clean.wt, .slice bx F.clean.n lx, .int .i64 F.waste.wt, .slice (some ⟨gy, 0, none⟩) F.waste.n ly, .int .i64 F.head, .int .i64 F.c] 54)).alloc (.cells #[.int .i64 F.clean.wt, .slice bx F.clean.n lx] 28)).rowIs W5.heap.size 54 10 (rowL [.int .i64 F.f.held, .int .i64 F.f.most, .int .i64 F.f.catch_, .int .i64 F.f.wash, .int .i64 F.clean.wt, .slice bx F.clean.n lx, .int .i64 F.waste.wt, .slice (some ⟨gy, 0, none⟩) F.waste.n ly, .int .i64 F.head, .int .i64 F.c])) := by
                  show World.rowIs _ _ _ _ _
                  refine wrow_below ?_ (bel_alloc _ _)
                  have := rowL_alloc ((((((W5).setCell ⟨w.heap.size + 1 + 1, 8, none⟩ (.int .i64 (kw + 1))).setCell ⟨w.heap.size + 1 + 1, 4, none⟩ (.int .i64 F.f.held)).setCell ⟨w.heap.size + 1 + 1, 5, none⟩ (.int .i64 F.f.most)).setCell ⟨w.heap.size + 1 + 1, 6, none⟩ (.int .i64 F.f.catch_)).setCell ⟨w.heap.size + 1 + 1, 7, none⟩ (.int .i64 F.f.wash)) [.int .i64 F.f.held, .int .i64 F.f.most, .int .i64 F.f.catch_, .int .i64 F.f.wash, .int .i64 F.clean.wt, .slice bx F.clean.n lx, .int .i64 F.waste.wt, .slice (some ⟨gy, 0, none⟩) F.waste.n ly, .int .i64 F.head, .int .i64 F.c] 54
                  simpa using this
                have HLIT : Hid (((((((((W5).setCell ⟨w.heap.size + 1 + 1, 8, none⟩ (.int .i64 (kw + 1))).setCell ⟨w.heap.size + 1 + 1, 4, none⟩ (.int .i64 F.f.held)).setCell ⟨w.heap.size + 1 + 1, 5, none⟩ (.int .i64 F.f.most)).setCell ⟨w.heap.size + 1 + 1, 6, none⟩ (.int .i64 F.f.catch_)).setCell ⟨w.heap.size + 1 + 1, 7, none⟩ (.int .i64 F.f.wash)).alloc (.cells #[.int .i64 F.f.held, .int .i64 F.f.most, .int .i64 F.f.catch_, .int .i64 F.f.wash, .int .i64 F.clean.wt, .slice bx F.clean.n lx, .int .i64 F.waste.wt, .slice (some ⟨gy, 0, none⟩) F.waste.n ly, .int .i64 F.head, .int .i64 F.c] 54)).alloc (.cells #[.int .i64 F.clean.wt, .slice bx F.clean.n lx] 28)).rowIs (W5.heap.size + 1) 28 2 (r2 (.int .i64 F.clean.wt) (.slice bx F.clean.n lx))) := row2' (by simp) _ _ _
                obtain ⟨cs, hown, hcs⟩ := HM7.out.cl
                have HCS := Lib.hid hcs
                have HOW := Lib.hid hown
                clear hke hkl hcs wi
                go_wp2_with (at_builtin; refine wpList_append_own_at _ rfl _ _ 35 rfl (w.heap.size + 3) 28 i0 _ 2 32 Tryd.underlying35 hi0 hz0 hz1 hz2 rfl (by decide) _ _ _ rfl hown ⟨W5.heap.size + 1, 0, none⟩ 1 1 [.int .i64 F.clean.wt, .slice bx F.clean.n lx] rfl rfl ?d1 ?d2 ?d3 ?d4 ?d5 ?_)
                case d1 =>
                  obtain ⟨⟨d0, d1⟩, _⟩ := row2_cells HLIT.out
                  intro j x hj
                  match j, hj with
                  | 0, hj => have hj2 : (.int .i64 F.clean.wt : Value) = x := by simpa using hj
                             subst hj2; exact d0
                  | 1, hj => have hj2 : (.slice bx F.clean.n lx : Value) = x := by simpa using hj
                             subst hj2; exact d1
                case d2 =>
                  intro x hx
                  simp at hx
                  rcases hx with rfl | rfl <;> rfl
                case d3 => unfold maxLen; omega
                case d4 => omega
                case d5 => have := HM7.out.bel.size; have := HSE.out; have := hpl; omega
                intro v1 W8 hown1 hgrow _ hwhere
                have hse := HSE.out
                have HNO : Hid (∀ g t, (∃ cur, ((((((((W5).setCell ⟨w.heap.size + 1 + 1, 8, none⟩ (.int .i64 (kw + 1))).setCell ⟨w.heap.size + 1 + 1, 4, none⟩ (.int .i64 F.f.held)).setCell ⟨w.heap.size + 1 + 1, 5, none⟩ (.int .i64 F.f.most)).setCell ⟨w.heap.size + 1 + 1, 6, none⟩ (.int .i64 F.f.catch_)).setCell ⟨w.heap.size + 1 + 1, 7, none⟩ (.int .i64 F.f.wash)).alloc (.cells #[.int .i64 F.f.held, .int .i64 F.f.most, .int .i64 F.f.catch_, .int .i64 F.f.wash, .int .i64 F.clean.wt, .slice bx F.clean.n lx, .int .i64 F.waste.wt, .slice (some ⟨gy, 0, none⟩) F.waste.n ly, .int .i64 F.head, .int .i64 F.c] 54)).alloc (.cells #[.int .i64 F.clean.wt, .slice bx F.clean.n lx] 28)).heap[g]? = some (Obj.cells cur t (0, 0))) → t ≠ 28 → W8.heap[g]? = ((((((((W5).setCell ⟨w.heap.size + 1 + 1, 8, none⟩ (.int .i64 (kw + 1))).setCell ⟨w.heap.size + 1 + 1, 4, none⟩ (.int .i64 F.f.held)).setCell ⟨w.heap.size + 1 + 1, 5, none⟩ (.int .i64 F.f.most)).setCell ⟨w.heap.size + 1 + 1, 6, none⟩ (.int .i64 F.f.catch_)).setCell ⟨w.heap.size + 1 + 1, 7, none⟩ (.int .i64 F.f.wash)).alloc (.cells #[.int .i64 F.f.held, .int .i64 F.f.most, .int .i64 F.f.catch_, .int .i64 F.f.wash, .int .i64 F.clean.wt, .slice bx F.clean.n lx, .int .i64 F.waste.wt, .slice (some ⟨gy, 0, none⟩) F.waste.n ly, .int .i64 F.head, .int .i64 F.c] 54)).alloc (.cells #[.int .i64 F.clean.wt, .slice bx F.clean.n lx] 28)).heap[g]?) := fun g t ht hne => by
                  obtain ⟨cur, e⟩ := ht
                  exact hgrow.block g (lt_of_some e) (fun e2 => blk_ne ⟨cur, e⟩ (own_type HOW.out e2.symm).2 hne rfl)
                have kpe : ∀ g n (ff : Nat → Int), InBlk g n ff W5 → InBlk g n ff ((((((((W5).setCell ⟨w.heap.size + 1 + 1, 8, none⟩ (.int .i64 (kw + 1))).setCell ⟨w.heap.size + 1 + 1, 4, none⟩ (.int .i64 F.f.held)).setCell ⟨w.heap.size + 1 + 1, 5, none⟩ (.int .i64 F.f.most)).setCell ⟨w.heap.size + 1 + 1, 6, none⟩ (.int .i64 F.f.catch_)).setCell ⟨w.heap.size + 1 + 1, 7, none⟩ (.int .i64 F.f.wash)).alloc (.cells #[.int .i64 F.f.held, .int .i64 F.f.most, .int .i64 F.f.catch_, .int .i64 F.f.wash, .int .i64 F.clean.wt, .slice bx F.clean.n lx, .int .i64 F.waste.wt, .slice (some ⟨gy, 0, none⟩) F.waste.n ly, .int .i64 F.head, .int .i64 F.c] 54)).alloc (.cells #[.int .i64 F.clean.wt, .slice bx F.clean.n lx] 28)) := fun g n ff h2 => h2.block (HKL.out g h2.lt (blk_ne (inBlk_type h2) (rowIs_type HM5.out.out) (by decide)))
                have HX1 : Hid (∃ g, bx = some ⟨g, 0, none⟩ ∧ InBlk g F.clean.n F.clean.f ((((((((W5).setCell ⟨w.heap.size + 1 + 1, 8, none⟩ (.int .i64 (kw + 1))).setCell ⟨w.heap.size + 1 + 1, 4, none⟩ (.int .i64 F.f.held)).setCell ⟨w.heap.size + 1 + 1, 5, none⟩ (.int .i64 F.f.most)).setCell ⟨w.heap.size + 1 + 1, 6, none⟩ (.int .i64 F.f.catch_)).setCell ⟨w.heap.size + 1 + 1, 7, none⟩ (.int .i64 F.f.wash)).alloc (.cells #[.int .i64 F.f.held, .int .i64 F.f.most, .int .i64 F.f.catch_, .int .i64 F.f.wash, .int .i64 F.clean.wt, .slice bx F.clean.n lx, .int .i64 F.waste.wt, .slice (some ⟨gy, 0, none⟩) F.waste.n ly, .int .i64 F.head, .int .i64 F.c] 54)).alloc (.cells #[.int .i64 F.clean.wt, .slice bx F.clean.n lx] 28))) := by obtain ⟨g, e, h2⟩ := HPX.out; exact ⟨g, e, kpe _ _ _ h2⟩
                have HY1 : Hid (∃ g, ay = some ⟨g, 0, none⟩ ∧ InBlk g A.y.n A.y.f W8) := by obtain ⟨g, e, h2⟩ := HPY.out; exact ⟨g, e, (kpe _ _ _ h2).block (HNO.out _ _ (inBlk_type (kpe _ _ _ h2)) (by decide))⟩
                have HG1 : Hid (InBlk gy F.waste.n F.waste.f W8) := (kpe _ _ _ HGY.out).block (HNO.out _ _ (inBlk_type (kpe _ _ _ HGY.out)) (by decide))
                have HM8 : Hid (MpS w F.f (kw + 1) v1 (i + 1) (Wk.pclean m mi (fun i => (bs i).b) f) u9 (i * 2) (Wk.pwaste m mi (fun i => (bs i).b) f) W8) := HM7.out.appC hgrow (by rw [HSE.out]; exact hwhere) (PlL.push (x := ⟨F.clean.wt, bx, F.clean.n, lx, F.clean.f⟩) HCS.out (by show F.clean = _; rw [HFE.out]; rfl) HX1.out HOW.out hgrow hown1)
                have r11 : W8.rowIs W3.heap.size 51 5 (rowL [.int .i64 A.x.wt, .slice ax A.x.n kx, .int .i64 A.y.wt, .slice ay A.y.n ky, .int .i64 A.c]) := by
                  have q := HR11.out.of_block (HKL.out _ HR11.out.lt (blk_ne (rowIs_type HR11.out) (rowIs_type HM5.out.out) (by decide)))
                  exact q.of_block (HNO.out _ _ (rowIs_type q) (by decide))
                have r12 := HR12.out.of_block (HNO.out _ _ (rowIs_type HR12.out) (by decide))
                have q2 : W8.cell? ⟨W3.heap.size, 2, none⟩ = some (.int .i64 A.y.wt) := r11.cell (i := 2) (by omega)
                have q3 : W8.cell? ⟨W3.heap.size, 3, none⟩ = some (.slice ay A.y.n ky) := r11.cell (i := 3) (by omega)
                have s6 : W8.cell? ⟨W5.heap.size, 6, none⟩ = some (.int .i64 F.waste.wt) := r12.cell (i := 6) (by omega)
                have s7 : W8.cell? ⟨W5.heap.size, 7, none⟩ = some (.slice (some ⟨gy, 0, none⟩) F.waste.n ly) := r12.cell (i := 7) (by omega)
                have l11 := r11.lt
                have l12 := r12.lt
                have HM8L : Hid (MpS w F.f (kw + 1) v1 (i + 1) (Wk.pclean m mi (fun i => (bs i).b) f) u9 (i * 2) (Wk.pwaste m mi (fun i => (bs i).b) f) (W8.alloc (.cells #[.int .i64 A.y.wt, .slice ay A.y.n ky, .int .i64 F.waste.wt, .slice (some ⟨gy, 0, none⟩) F.waste.n ly] 28))) := HM8.out.below (bel_alloc _ _)
                obtain ⟨ds, hown2, hds⟩ := HM8L.out.wl
                have HDS := Lib.hid hds
                have HOW2 := Lib.hid hown2
                have hw8 : w.heap.size + 3 ≤ W8.heap.size := by have := HM8.out.out.lt; omega
                clear hown1 hgrow hwhere hse kpe hown r11 r12 hds HNO HM7 HKL HSE HR12 HCS HOW p4 p5 p6 p7 p8 e4 e5 e6 e7 e8 y0
                go_wp2_with (at_builtin; refine wpList_append_own_at _ rfl _ _ 35 rfl (w.heap.size + 3) 28 i0 _ 2 32 Tryd.underlying35 hi0 hz0 hz1 hz2 rfl (by decide) _ _ _ rfl hown2 ⟨W8.heap.size, 0, none⟩ 2 2 [.int .i64 A.y.wt, .slice ay A.y.n ky, .int .i64 F.waste.wt, .slice (some ⟨gy, 0, none⟩) F.waste.n ly] rfl rfl ?c1 ?c2 ?c3 ?c4 ?c5 ?_)
                case c1 =>
                  intro j x hj
                  match j, hj with
                  | 0, hj => simp at hj; subst hj; simp [Addr.add]
                  | 1, hj => simp at hj; subst hj; simp [Addr.add]
                  | 2, hj => simp at hj; subst hj; simp [Addr.add]
                  | 3, hj => simp at hj; subst hj; simp [Addr.add]
                case c2 =>
                  intro x hx
                  simp at hx
                  rcases hx with rfl | rfl | rfl | rfl <;> rfl
                case c3 => unfold maxLen; omega
                case c4 => omega
                case c5 => simp; omega
                intro v2 W9 hown3 hgrow2 _ hwhere2
                have HM9 : Hid (MpS w F.f (kw + 1) v1 (i + 1) (Wk.pclean m mi (fun i => (bs i).b) f) v2 (i * 2 + 1 + 1) (Wk.pwaste m mi (fun i => (bs i).b) f) W9) := HM8L.out.appW hgrow2 (by simpa using hwhere2) (PlL.push2 (x := ⟨A.y.wt, ay, A.y.n, ky, A.y.f⟩) (y := ⟨F.waste.wt, some ⟨gy, 0, none⟩, F.waste.n, ly, F.waste.f⟩) HDS.out (by rw [Wk.pwaste_even, ← HAE.out]; rfl) (by obtain ⟨g, e, h2⟩ := HY1.out; exact ⟨g, e, h2.below (bel_alloc _ _)⟩) (by rw [Wk.pwaste_odd, ← HFE.out]; rfl) ⟨gy, rfl, HG1.out.below (bel_alloc _ _)⟩ HOW2.out hgrow2 hown3)
                clear hown2 hown3 hgrow2 hwhere2 q2 q3 s6 s7 l11 l12
                go_wp2_with fail
                go_roundw
                case rel =>
                  refine ⟨i + 1, by omega, by go_num, Wk.pcode_next hcode.out (by rw [← HAE.out]; exact HOK.out.1) (by rw [← HFE.out]; exact HOK.out.2), ?_⟩
                  have e1 : (i + 1) * 2 = i * 2 + 1 + 1 := by omega
                  have e2 : Wk.pwash m mi (fun i => (bs i).b) f (i + 1) = (kw + 1) := by
                    simp only [Wk.pwash]
                    rw [← HFE.out, ← HKW.out]
                    rw [if_pos hw0]
                  rw [e1, e2, Wk.pfl_succ, ← HFE.out]
                  exact HM9
                case measure => simp [intOf]; omega
            · have hh : ¬ F.f.held < fl.held := fun h => hw0 (wi.1 (Or.inl h))
              by_cases h0 : F.f.held = 0
              · have h0z : (F.f.held == 0) = true := by simp [h0]
                clear h0
                have hke : ∀ g, g ≠ w.heap.size + 1 + 1 → (((((W5).setCell ⟨w.heap.size + 1 + 1, 4, none⟩ (.int .i64 F.f.held)).setCell ⟨w.heap.size + 1 + 1, 5, none⟩ (.int .i64 F.f.most)).setCell ⟨w.heap.size + 1 + 1, 6, none⟩ (.int .i64 F.f.catch_)).setCell ⟨w.heap.size + 1 + 1, 7, none⟩ (.int .i64 F.f.wash)).heap[g]? = W5.heap[g]? := fun g hg => by rw [Below.heap_setCell _ ⟨w.heap.size + 1 + 1, 7, none⟩ _ _ hg, Below.heap_setCell _ ⟨w.heap.size + 1 + 1, 6, none⟩ _ _ hg, Below.heap_setCell _ ⟨w.heap.size + 1 + 1, 5, none⟩ _ _ hg, Below.heap_setCell _ ⟨w.heap.size + 1 + 1, 4, none⟩ _ _ hg]
                have HM7 : Hid (MpS w F.f kw u8 i (Wk.pclean m mi (fun i => (bs i).b) f) u9 (i * 2) (Wk.pwaste m mi (fun i => (bs i).b) f) (((((((W5).setCell ⟨w.heap.size + 1 + 1, 4, none⟩ (.int .i64 F.f.held)).setCell ⟨w.heap.size + 1 + 1, 5, none⟩ (.int .i64 F.f.most)).setCell ⟨w.heap.size + 1 + 1, 6, none⟩ (.int .i64 F.f.catch_)).setCell ⟨w.heap.size + 1 + 1, 7, none⟩ (.int .i64 F.f.wash)).alloc (.cells #[.int .i64 F.f.held, .int .i64 F.f.most, .int .i64 F.f.catch_, .int .i64 F.f.wash, .int .i64 F.clean.wt, .slice bx F.clean.n lx, .int .i64 F.waste.wt, .slice (some ⟨gy, 0, none⟩) F.waste.n ly, .int .i64 F.head, .int .i64 F.c] 54)).alloc (.cells #[.int .i64 F.clean.wt, .slice bx F.clean.n lx] 28))) := ((HM5.out.fill hke (pl_row_set (pl_row_set (pl_row_set (pl_row_set HM5.out.out 4 (.int .i64 F.f.held) (by simp)) 5 (.int .i64 F.f.most) (by simp)) 6 (.int .i64 F.f.catch_) (by simp)) 7 (.int .i64 F.f.wash) (by simp)) ((((HM5.out.bel.setCell (p := ⟨w.heap.size + 1 + 1, 4, none⟩) (by show w.heap.size ≤ w.heap.size + 1 + 1; omega) _).setCell (p := ⟨w.heap.size + 1 + 1, 5, none⟩) (by show w.heap.size ≤ w.heap.size + 1 + 1; omega) _).setCell (p := ⟨w.heap.size + 1 + 1, 6, none⟩) (by show w.heap.size ≤ w.heap.size + 1 + 1; omega) _).setCell (p := ⟨w.heap.size + 1 + 1, 7, none⟩) (by show w.heap.size ≤ w.heap.size + 1 + 1; omega) _)).below (bel_alloc _ _)).below (bel_alloc _ _)
                have hkl : ∀ g, g < W5.heap.size → g ≠ w.heap.size + 1 + 1 → (((((((W5).setCell ⟨w.heap.size + 1 + 1, 4, none⟩ (.int .i64 F.f.held)).setCell ⟨w.heap.size + 1 + 1, 5, none⟩ (.int .i64 F.f.most)).setCell ⟨w.heap.size + 1 + 1, 6, none⟩ (.int .i64 F.f.catch_)).setCell ⟨w.heap.size + 1 + 1, 7, none⟩ (.int .i64 F.f.wash)).alloc (.cells #[.int .i64 F.f.held, .int .i64 F.f.most, .int .i64 F.f.catch_, .int .i64 F.f.wash, .int .i64 F.clean.wt, .slice bx F.clean.n lx, .int .i64 F.waste.wt, .slice (some ⟨gy, 0, none⟩) F.waste.n ly, .int .i64 F.head, .int .i64 F.c] 54)).alloc (.cells #[.int .i64 F.clean.wt, .slice bx F.clean.n lx] 28)).heap[g]? = W5.heap[g]? := fun g hg hn => by
                  rw [Below.heap_alloc _ _ _ (by simp; omega), Below.heap_alloc _ _ _ (by simpa using hg)]
                  exact hke g hn
                have HKL := Lib.hid hkl
                have HSE : Hid ((((((((W5).setCell ⟨w.heap.size + 1 + 1, 4, none⟩ (.int .i64 F.f.held)).setCell ⟨w.heap.size + 1 + 1, 5, none⟩ (.int .i64 F.f.most)).setCell ⟨w.heap.size + 1 + 1, 6, none⟩ (.int .i64 F.f.catch_)).setCell ⟨w.heap.size + 1 + 1, 7, none⟩ (.int .i64 F.f.wash)).alloc (.cells #[.int .i64 F.f.held, .int .i64 F.f.most, .int .i64 F.f.catch_, .int .i64 F.f.wash, .int .i64 F.clean.wt, .slice bx F.clean.n lx, .int .i64 F.waste.wt, .slice (some ⟨gy, 0, none⟩) F.waste.n ly, .int .i64 F.head, .int .i64 F.c] 54)).alloc (.cells #[.int .i64 F.clean.wt, .slice bx F.clean.n lx] 28)).heap.size = W5.heap.size + 2) := by show _ = _; simp
                have HR12 : Hid ((((((((W5).setCell ⟨w.heap.size + 1 + 1, 4, none⟩ (.int .i64 F.f.held)).setCell ⟨w.heap.size + 1 + 1, 5, none⟩ (.int .i64 F.f.most)).setCell ⟨w.heap.size + 1 + 1, 6, none⟩ (.int .i64 F.f.catch_)).setCell ⟨w.heap.size + 1 + 1, 7, none⟩ (.int .i64 F.f.wash)).alloc (.cells #[.int .i64 F.f.held, .int .i64 F.f.most, .int .i64 F.f.catch_, .int .i64 F.f.wash, .int .i64 F.clean.wt, .slice bx F.clean.n lx, .int .i64 F.waste.wt, .slice (some ⟨gy, 0, none⟩) F.waste.n ly, .int .i64 F.head, .int .i64 F.c] 54)).alloc (.cells #[.int .i64 F.clean.wt, .slice bx F.clean.n lx] 28)).rowIs W5.heap.size 54 10 (rowL [.int .i64 F.f.held, .int .i64 F.f.most, .int .i64 F.f.catch_, .int .i64 F.f.wash, .int .i64 F.clean.wt, .slice bx F.clean.n lx, .int .i64 F.waste.wt, .slice (some ⟨gy, 0, none⟩) F.waste.n ly, .int .i64 F.head, .int .i64 F.c])) := by
                  show World.rowIs _ _ _ _ _
                  refine wrow_below ?_ (bel_alloc _ _)
                  have := rowL_alloc (((((W5).setCell ⟨w.heap.size + 1 + 1, 4, none⟩ (.int .i64 F.f.held)).setCell ⟨w.heap.size + 1 + 1, 5, none⟩ (.int .i64 F.f.most)).setCell ⟨w.heap.size + 1 + 1, 6, none⟩ (.int .i64 F.f.catch_)).setCell ⟨w.heap.size + 1 + 1, 7, none⟩ (.int .i64 F.f.wash)) [.int .i64 F.f.held, .int .i64 F.f.most, .int .i64 F.f.catch_, .int .i64 F.f.wash, .int .i64 F.clean.wt, .slice bx F.clean.n lx, .int .i64 F.waste.wt, .slice (some ⟨gy, 0, none⟩) F.waste.n ly, .int .i64 F.head, .int .i64 F.c] 54
                  simpa using this
                have HLIT : Hid ((((((((W5).setCell ⟨w.heap.size + 1 + 1, 4, none⟩ (.int .i64 F.f.held)).setCell ⟨w.heap.size + 1 + 1, 5, none⟩ (.int .i64 F.f.most)).setCell ⟨w.heap.size + 1 + 1, 6, none⟩ (.int .i64 F.f.catch_)).setCell ⟨w.heap.size + 1 + 1, 7, none⟩ (.int .i64 F.f.wash)).alloc (.cells #[.int .i64 F.f.held, .int .i64 F.f.most, .int .i64 F.f.catch_, .int .i64 F.f.wash, .int .i64 F.clean.wt, .slice bx F.clean.n lx, .int .i64 F.waste.wt, .slice (some ⟨gy, 0, none⟩) F.waste.n ly, .int .i64 F.head, .int .i64 F.c] 54)).alloc (.cells #[.int .i64 F.clean.wt, .slice bx F.clean.n lx] 28)).rowIs (W5.heap.size + 1) 28 2 (r2 (.int .i64 F.clean.wt) (.slice bx F.clean.n lx))) := row2' (by simp) _ _ _
                obtain ⟨cs, hown, hcs⟩ := HM7.out.cl
                have HCS := Lib.hid hcs
                have HOW := Lib.hid hown
                clear hke hkl hcs wi
                go_wp2_with (at_builtin; refine wpList_append_own_at _ rfl _ _ 35 rfl (w.heap.size + 3) 28 i0 _ 2 32 Tryd.underlying35 hi0 hz0 hz1 hz2 rfl (by decide) _ _ _ rfl hown ⟨W5.heap.size + 1, 0, none⟩ 1 1 [.int .i64 F.clean.wt, .slice bx F.clean.n lx] rfl rfl ?d1 ?d2 ?d3 ?d4 ?d5 ?_)
                case d1 =>
                  obtain ⟨⟨d0, d1⟩, _⟩ := row2_cells HLIT.out
                  intro j x hj
                  match j, hj with
                  | 0, hj => have hj2 : (.int .i64 F.clean.wt : Value) = x := by simpa using hj
                             subst hj2; exact d0
                  | 1, hj => have hj2 : (.slice bx F.clean.n lx : Value) = x := by simpa using hj
                             subst hj2; exact d1
                case d2 =>
                  intro x hx
                  simp at hx
                  rcases hx with rfl | rfl <;> rfl
                case d3 => unfold maxLen; omega
                case d4 => omega
                case d5 => have := HM7.out.bel.size; have := HSE.out; have := hpl; omega
                intro v1 W8 hown1 hgrow _ hwhere
                have hse := HSE.out
                have HNO : Hid (∀ g t, (∃ cur, (((((((W5).setCell ⟨w.heap.size + 1 + 1, 4, none⟩ (.int .i64 F.f.held)).setCell ⟨w.heap.size + 1 + 1, 5, none⟩ (.int .i64 F.f.most)).setCell ⟨w.heap.size + 1 + 1, 6, none⟩ (.int .i64 F.f.catch_)).setCell ⟨w.heap.size + 1 + 1, 7, none⟩ (.int .i64 F.f.wash)).alloc (.cells #[.int .i64 F.f.held, .int .i64 F.f.most, .int .i64 F.f.catch_, .int .i64 F.f.wash, .int .i64 F.clean.wt, .slice bx F.clean.n lx, .int .i64 F.waste.wt, .slice (some ⟨gy, 0, none⟩) F.waste.n ly, .int .i64 F.head, .int .i64 F.c] 54)).alloc (.cells #[.int .i64 F.clean.wt, .slice bx F.clean.n lx] 28)).heap[g]? = some (Obj.cells cur t (0, 0))) → t ≠ 28 → W8.heap[g]? = (((((((W5).setCell ⟨w.heap.size + 1 + 1, 4, none⟩ (.int .i64 F.f.held)).setCell ⟨w.heap.size + 1 + 1, 5, none⟩ (.int .i64 F.f.most)).setCell ⟨w.heap.size + 1 + 1, 6, none⟩ (.int .i64 F.f.catch_)).setCell ⟨w.heap.size + 1 + 1, 7, none⟩ (.int .i64 F.f.wash)).alloc (.cells #[.int .i64 F.f.held, .int .i64 F.f.most, .int .i64 F.f.catch_, .int .i64 F.f.wash, .int .i64 F.clean.wt, .slice bx F.clean.n lx, .int .i64 F.waste.wt, .slice (some ⟨gy, 0, none⟩) F.waste.n ly, .int .i64 F.head, .int .i64 F.c] 54)).alloc (.cells #[.int .i64 F.clean.wt, .slice bx F.clean.n lx] 28)).heap[g]?) := fun g t ht hne => by
                  obtain ⟨cur, e⟩ := ht
                  exact hgrow.block g (lt_of_some e) (fun e2 => blk_ne ⟨cur, e⟩ (own_type HOW.out e2.symm).2 hne rfl)
                have kpe : ∀ g n (ff : Nat → Int), InBlk g n ff W5 → InBlk g n ff (((((((W5).setCell ⟨w.heap.size + 1 + 1, 4, none⟩ (.int .i64 F.f.held)).setCell ⟨w.heap.size + 1 + 1, 5, none⟩ (.int .i64 F.f.most)).setCell ⟨w.heap.size + 1 + 1, 6, none⟩ (.int .i64 F.f.catch_)).setCell ⟨w.heap.size + 1 + 1, 7, none⟩ (.int .i64 F.f.wash)).alloc (.cells #[.int .i64 F.f.held, .int .i64 F.f.most, .int .i64 F.f.catch_, .int .i64 F.f.wash, .int .i64 F.clean.wt, .slice bx F.clean.n lx, .int .i64 F.waste.wt, .slice (some ⟨gy, 0, none⟩) F.waste.n ly, .int .i64 F.head, .int .i64 F.c] 54)).alloc (.cells #[.int .i64 F.clean.wt, .slice bx F.clean.n lx] 28)) := fun g n ff h2 => h2.block (HKL.out g h2.lt (blk_ne (inBlk_type h2) (rowIs_type HM5.out.out) (by decide)))
                have HX1 : Hid (∃ g, bx = some ⟨g, 0, none⟩ ∧ InBlk g F.clean.n F.clean.f (((((((W5).setCell ⟨w.heap.size + 1 + 1, 4, none⟩ (.int .i64 F.f.held)).setCell ⟨w.heap.size + 1 + 1, 5, none⟩ (.int .i64 F.f.most)).setCell ⟨w.heap.size + 1 + 1, 6, none⟩ (.int .i64 F.f.catch_)).setCell ⟨w.heap.size + 1 + 1, 7, none⟩ (.int .i64 F.f.wash)).alloc (.cells #[.int .i64 F.f.held, .int .i64 F.f.most, .int .i64 F.f.catch_, .int .i64 F.f.wash, .int .i64 F.clean.wt, .slice bx F.clean.n lx, .int .i64 F.waste.wt, .slice (some ⟨gy, 0, none⟩) F.waste.n ly, .int .i64 F.head, .int .i64 F.c] 54)).alloc (.cells #[.int .i64 F.clean.wt, .slice bx F.clean.n lx] 28))) := by obtain ⟨g, e, h2⟩ := HPX.out; exact ⟨g, e, kpe _ _ _ h2⟩
                have HY1 : Hid (∃ g, ay = some ⟨g, 0, none⟩ ∧ InBlk g A.y.n A.y.f W8) := by obtain ⟨g, e, h2⟩ := HPY.out; exact ⟨g, e, (kpe _ _ _ h2).block (HNO.out _ _ (inBlk_type (kpe _ _ _ h2)) (by decide))⟩
                have HG1 : Hid (InBlk gy F.waste.n F.waste.f W8) := (kpe _ _ _ HGY.out).block (HNO.out _ _ (inBlk_type (kpe _ _ _ HGY.out)) (by decide))
                have HM8 : Hid (MpS w F.f kw v1 (i + 1) (Wk.pclean m mi (fun i => (bs i).b) f) u9 (i * 2) (Wk.pwaste m mi (fun i => (bs i).b) f) W8) := HM7.out.appC hgrow (by rw [HSE.out]; exact hwhere) (PlL.push (x := ⟨F.clean.wt, bx, F.clean.n, lx, F.clean.f⟩) HCS.out (by show F.clean = _; rw [HFE.out]; rfl) HX1.out HOW.out hgrow hown1)
                have r11 : W8.rowIs W3.heap.size 51 5 (rowL [.int .i64 A.x.wt, .slice ax A.x.n kx, .int .i64 A.y.wt, .slice ay A.y.n ky, .int .i64 A.c]) := by
                  have q := HR11.out.of_block (HKL.out _ HR11.out.lt (blk_ne (rowIs_type HR11.out) (rowIs_type HM5.out.out) (by decide)))
                  exact q.of_block (HNO.out _ _ (rowIs_type q) (by decide))
                have r12 := HR12.out.of_block (HNO.out _ _ (rowIs_type HR12.out) (by decide))
                have q2 : W8.cell? ⟨W3.heap.size, 2, none⟩ = some (.int .i64 A.y.wt) := r11.cell (i := 2) (by omega)
                have q3 : W8.cell? ⟨W3.heap.size, 3, none⟩ = some (.slice ay A.y.n ky) := r11.cell (i := 3) (by omega)
                have s6 : W8.cell? ⟨W5.heap.size, 6, none⟩ = some (.int .i64 F.waste.wt) := r12.cell (i := 6) (by omega)
                have s7 : W8.cell? ⟨W5.heap.size, 7, none⟩ = some (.slice (some ⟨gy, 0, none⟩) F.waste.n ly) := r12.cell (i := 7) (by omega)
                have l11 := r11.lt
                have l12 := r12.lt
                have HM8L : Hid (MpS w F.f kw v1 (i + 1) (Wk.pclean m mi (fun i => (bs i).b) f) u9 (i * 2) (Wk.pwaste m mi (fun i => (bs i).b) f) (W8.alloc (.cells #[.int .i64 A.y.wt, .slice ay A.y.n ky, .int .i64 F.waste.wt, .slice (some ⟨gy, 0, none⟩) F.waste.n ly] 28))) := HM8.out.below (bel_alloc _ _)
                obtain ⟨ds, hown2, hds⟩ := HM8L.out.wl
                have HDS := Lib.hid hds
                have HOW2 := Lib.hid hown2
                have hw8 : w.heap.size + 3 ≤ W8.heap.size := by have := HM8.out.out.lt; omega
                clear hown1 hgrow hwhere hse kpe hown r11 r12 hds HNO HM7 HKL HSE HR12 HCS HOW p4 p5 p6 p7 p8 e4 e5 e6 e7 e8 y0
                go_wp2_with (at_builtin; refine wpList_append_own_at _ rfl _ _ 35 rfl (w.heap.size + 3) 28 i0 _ 2 32 Tryd.underlying35 hi0 hz0 hz1 hz2 rfl (by decide) _ _ _ rfl hown2 ⟨W8.heap.size, 0, none⟩ 2 2 [.int .i64 A.y.wt, .slice ay A.y.n ky, .int .i64 F.waste.wt, .slice (some ⟨gy, 0, none⟩) F.waste.n ly] rfl rfl ?c1 ?c2 ?c3 ?c4 ?c5 ?_)
                case c1 =>
                  intro j x hj
                  match j, hj with
                  | 0, hj => simp at hj; subst hj; simp [Addr.add]
                  | 1, hj => simp at hj; subst hj; simp [Addr.add]
                  | 2, hj => simp at hj; subst hj; simp [Addr.add]
                  | 3, hj => simp at hj; subst hj; simp [Addr.add]
                case c2 =>
                  intro x hx
                  simp at hx
                  rcases hx with rfl | rfl | rfl | rfl <;> rfl
                case c3 => unfold maxLen; omega
                case c4 => omega
                case c5 => simp; omega
                intro v2 W9 hown3 hgrow2 _ hwhere2
                have HM9 : Hid (MpS w F.f kw v1 (i + 1) (Wk.pclean m mi (fun i => (bs i).b) f) v2 (i * 2 + 1 + 1) (Wk.pwaste m mi (fun i => (bs i).b) f) W9) := HM8L.out.appW hgrow2 (by simpa using hwhere2) (PlL.push2 (x := ⟨A.y.wt, ay, A.y.n, ky, A.y.f⟩) (y := ⟨F.waste.wt, some ⟨gy, 0, none⟩, F.waste.n, ly, F.waste.f⟩) HDS.out (by rw [Wk.pwaste_even, ← HAE.out]; rfl) (by obtain ⟨g, e, h2⟩ := HY1.out; exact ⟨g, e, h2.below (bel_alloc _ _)⟩) (by rw [Wk.pwaste_odd, ← HFE.out]; rfl) ⟨gy, rfl, HG1.out.below (bel_alloc _ _)⟩ HOW2.out hgrow2 hown3)
                clear hown2 hown3 hgrow2 hwhere2 q2 q3 s6 s7 l11 l12
                go_wp2_with fail
                go_roundw
                case rel =>
                  refine ⟨i + 1, by omega, by go_num, Wk.pcode_next hcode.out (by rw [← HAE.out]; exact HOK.out.1) (by rw [← HFE.out]; exact HOK.out.2), ?_⟩
                  have e1 : (i + 1) * 2 = i * 2 + 1 + 1 := by omega
                  have e2 : Wk.pwash m mi (fun i => (bs i).b) f (i + 1) = kw := by
                    simp only [Wk.pwash]
                    rw [← HFE.out, ← HKW.out]
                    rw [if_neg (by omega), Int.add_zero]
                  rw [e1, e2, Wk.pfl_succ, ← HFE.out]
                  exact HM9
                case measure => simp [intOf]; omega
              · have h0z : (F.f.held == 0) = false := by simp [h0]
                have hke : ∀ g, g ≠ w.heap.size + 1 + 1 → (((((W5).setCell ⟨w.heap.size + 1 + 1, 4, none⟩ (.int .i64 F.f.held)).setCell ⟨w.heap.size + 1 + 1, 5, none⟩ (.int .i64 F.f.most)).setCell ⟨w.heap.size + 1 + 1, 6, none⟩ (.int .i64 F.f.catch_)).setCell ⟨w.heap.size + 1 + 1, 7, none⟩ (.int .i64 F.f.wash)).heap[g]? = W5.heap[g]? := fun g hg => by rw [Below.heap_setCell _ ⟨w.heap.size + 1 + 1, 7, none⟩ _ _ hg, Below.heap_setCell _ ⟨w.heap.size + 1 + 1, 6, none⟩ _ _ hg, Below.heap_setCell _ ⟨w.heap.size + 1 + 1, 5, none⟩ _ _ hg, Below.heap_setCell _ ⟨w.heap.size + 1 + 1, 4, none⟩ _ _ hg]
                have HM7 : Hid (MpS w F.f kw u8 i (Wk.pclean m mi (fun i => (bs i).b) f) u9 (i * 2) (Wk.pwaste m mi (fun i => (bs i).b) f) (((((((W5).setCell ⟨w.heap.size + 1 + 1, 4, none⟩ (.int .i64 F.f.held)).setCell ⟨w.heap.size + 1 + 1, 5, none⟩ (.int .i64 F.f.most)).setCell ⟨w.heap.size + 1 + 1, 6, none⟩ (.int .i64 F.f.catch_)).setCell ⟨w.heap.size + 1 + 1, 7, none⟩ (.int .i64 F.f.wash)).alloc (.cells #[.int .i64 F.f.held, .int .i64 F.f.most, .int .i64 F.f.catch_, .int .i64 F.f.wash, .int .i64 F.clean.wt, .slice bx F.clean.n lx, .int .i64 F.waste.wt, .slice (some ⟨gy, 0, none⟩) F.waste.n ly, .int .i64 F.head, .int .i64 F.c] 54)).alloc (.cells #[.int .i64 F.clean.wt, .slice bx F.clean.n lx] 28))) := ((HM5.out.fill hke (pl_row_set (pl_row_set (pl_row_set (pl_row_set HM5.out.out 4 (.int .i64 F.f.held) (by simp)) 5 (.int .i64 F.f.most) (by simp)) 6 (.int .i64 F.f.catch_) (by simp)) 7 (.int .i64 F.f.wash) (by simp)) ((((HM5.out.bel.setCell (p := ⟨w.heap.size + 1 + 1, 4, none⟩) (by show w.heap.size ≤ w.heap.size + 1 + 1; omega) _).setCell (p := ⟨w.heap.size + 1 + 1, 5, none⟩) (by show w.heap.size ≤ w.heap.size + 1 + 1; omega) _).setCell (p := ⟨w.heap.size + 1 + 1, 6, none⟩) (by show w.heap.size ≤ w.heap.size + 1 + 1; omega) _).setCell (p := ⟨w.heap.size + 1 + 1, 7, none⟩) (by show w.heap.size ≤ w.heap.size + 1 + 1; omega) _)).below (bel_alloc _ _)).below (bel_alloc _ _)
                have hkl : ∀ g, g < W5.heap.size → g ≠ w.heap.size + 1 + 1 → (((((((W5).setCell ⟨w.heap.size + 1 + 1, 4, none⟩ (.int .i64 F.f.held)).setCell ⟨w.heap.size + 1 + 1, 5, none⟩ (.int .i64 F.f.most)).setCell ⟨w.heap.size + 1 + 1, 6, none⟩ (.int .i64 F.f.catch_)).setCell ⟨w.heap.size + 1 + 1, 7, none⟩ (.int .i64 F.f.wash)).alloc (.cells #[.int .i64 F.f.held, .int .i64 F.f.most, .int .i64 F.f.catch_, .int .i64 F.f.wash, .int .i64 F.clean.wt, .slice bx F.clean.n lx, .int .i64 F.waste.wt, .slice (some ⟨gy, 0, none⟩) F.waste.n ly, .int .i64 F.head, .int .i64 F.c] 54)).alloc (.cells #[.int .i64 F.clean.wt, .slice bx F.clean.n lx] 28)).heap[g]? = W5.heap[g]? := fun g hg hn => by
                  rw [Below.heap_alloc _ _ _ (by simp; omega), Below.heap_alloc _ _ _ (by simpa using hg)]
                  exact hke g hn
                have HKL := Lib.hid hkl
                have HSE : Hid ((((((((W5).setCell ⟨w.heap.size + 1 + 1, 4, none⟩ (.int .i64 F.f.held)).setCell ⟨w.heap.size + 1 + 1, 5, none⟩ (.int .i64 F.f.most)).setCell ⟨w.heap.size + 1 + 1, 6, none⟩ (.int .i64 F.f.catch_)).setCell ⟨w.heap.size + 1 + 1, 7, none⟩ (.int .i64 F.f.wash)).alloc (.cells #[.int .i64 F.f.held, .int .i64 F.f.most, .int .i64 F.f.catch_, .int .i64 F.f.wash, .int .i64 F.clean.wt, .slice bx F.clean.n lx, .int .i64 F.waste.wt, .slice (some ⟨gy, 0, none⟩) F.waste.n ly, .int .i64 F.head, .int .i64 F.c] 54)).alloc (.cells #[.int .i64 F.clean.wt, .slice bx F.clean.n lx] 28)).heap.size = W5.heap.size + 2) := by show _ = _; simp
                have HR12 : Hid ((((((((W5).setCell ⟨w.heap.size + 1 + 1, 4, none⟩ (.int .i64 F.f.held)).setCell ⟨w.heap.size + 1 + 1, 5, none⟩ (.int .i64 F.f.most)).setCell ⟨w.heap.size + 1 + 1, 6, none⟩ (.int .i64 F.f.catch_)).setCell ⟨w.heap.size + 1 + 1, 7, none⟩ (.int .i64 F.f.wash)).alloc (.cells #[.int .i64 F.f.held, .int .i64 F.f.most, .int .i64 F.f.catch_, .int .i64 F.f.wash, .int .i64 F.clean.wt, .slice bx F.clean.n lx, .int .i64 F.waste.wt, .slice (some ⟨gy, 0, none⟩) F.waste.n ly, .int .i64 F.head, .int .i64 F.c] 54)).alloc (.cells #[.int .i64 F.clean.wt, .slice bx F.clean.n lx] 28)).rowIs W5.heap.size 54 10 (rowL [.int .i64 F.f.held, .int .i64 F.f.most, .int .i64 F.f.catch_, .int .i64 F.f.wash, .int .i64 F.clean.wt, .slice bx F.clean.n lx, .int .i64 F.waste.wt, .slice (some ⟨gy, 0, none⟩) F.waste.n ly, .int .i64 F.head, .int .i64 F.c])) := by
                  show World.rowIs _ _ _ _ _
                  refine wrow_below ?_ (bel_alloc _ _)
                  have := rowL_alloc (((((W5).setCell ⟨w.heap.size + 1 + 1, 4, none⟩ (.int .i64 F.f.held)).setCell ⟨w.heap.size + 1 + 1, 5, none⟩ (.int .i64 F.f.most)).setCell ⟨w.heap.size + 1 + 1, 6, none⟩ (.int .i64 F.f.catch_)).setCell ⟨w.heap.size + 1 + 1, 7, none⟩ (.int .i64 F.f.wash)) [.int .i64 F.f.held, .int .i64 F.f.most, .int .i64 F.f.catch_, .int .i64 F.f.wash, .int .i64 F.clean.wt, .slice bx F.clean.n lx, .int .i64 F.waste.wt, .slice (some ⟨gy, 0, none⟩) F.waste.n ly, .int .i64 F.head, .int .i64 F.c] 54
                  simpa using this
                have HLIT : Hid ((((((((W5).setCell ⟨w.heap.size + 1 + 1, 4, none⟩ (.int .i64 F.f.held)).setCell ⟨w.heap.size + 1 + 1, 5, none⟩ (.int .i64 F.f.most)).setCell ⟨w.heap.size + 1 + 1, 6, none⟩ (.int .i64 F.f.catch_)).setCell ⟨w.heap.size + 1 + 1, 7, none⟩ (.int .i64 F.f.wash)).alloc (.cells #[.int .i64 F.f.held, .int .i64 F.f.most, .int .i64 F.f.catch_, .int .i64 F.f.wash, .int .i64 F.clean.wt, .slice bx F.clean.n lx, .int .i64 F.waste.wt, .slice (some ⟨gy, 0, none⟩) F.waste.n ly, .int .i64 F.head, .int .i64 F.c] 54)).alloc (.cells #[.int .i64 F.clean.wt, .slice bx F.clean.n lx] 28)).rowIs (W5.heap.size + 1) 28 2 (r2 (.int .i64 F.clean.wt) (.slice bx F.clean.n lx))) := row2' (by simp) _ _ _
                obtain ⟨cs, hown, hcs⟩ := HM7.out.cl
                have HCS := Lib.hid hcs
                have HOW := Lib.hid hown
                clear hke hkl hcs wi
                go_wp2_with (at_builtin; refine wpList_append_own_at _ rfl _ _ 35 rfl (w.heap.size + 3) 28 i0 _ 2 32 Tryd.underlying35 hi0 hz0 hz1 hz2 rfl (by decide) _ _ _ rfl hown ⟨W5.heap.size + 1, 0, none⟩ 1 1 [.int .i64 F.clean.wt, .slice bx F.clean.n lx] rfl rfl ?d1 ?d2 ?d3 ?d4 ?d5 ?_)
                case d1 =>
                  obtain ⟨⟨d0, d1⟩, _⟩ := row2_cells HLIT.out
                  intro j x hj
                  match j, hj with
                  | 0, hj => have hj2 : (.int .i64 F.clean.wt : Value) = x := by simpa using hj
                             subst hj2; exact d0
                  | 1, hj => have hj2 : (.slice bx F.clean.n lx : Value) = x := by simpa using hj
                             subst hj2; exact d1
                case d2 =>
                  intro x hx
                  simp at hx
                  rcases hx with rfl | rfl <;> rfl
                case d3 => unfold maxLen; omega
                case d4 => omega
                case d5 => have := HM7.out.bel.size; have := HSE.out; have := hpl; omega
                intro v1 W8 hown1 hgrow _ hwhere
                have hse := HSE.out
                have HNO : Hid (∀ g t, (∃ cur, (((((((W5).setCell ⟨w.heap.size + 1 + 1, 4, none⟩ (.int .i64 F.f.held)).setCell ⟨w.heap.size + 1 + 1, 5, none⟩ (.int .i64 F.f.most)).setCell ⟨w.heap.size + 1 + 1, 6, none⟩ (.int .i64 F.f.catch_)).setCell ⟨w.heap.size + 1 + 1, 7, none⟩ (.int .i64 F.f.wash)).alloc (.cells #[.int .i64 F.f.held, .int .i64 F.f.most, .int .i64 F.f.catch_, .int .i64 F.f.wash, .int .i64 F.clean.wt, .slice bx F.clean.n lx, .int .i64 F.waste.wt, .slice (some ⟨gy, 0, none⟩) F.waste.n ly, .int .i64 F.head, .int .i64 F.c] 54)).alloc (.cells #[.int .i64 F.clean.wt, .slice bx F.clean.n lx] 28)).heap[g]? = some (Obj.cells cur t (0, 0))) → t ≠ 28 → W8.heap[g]? = (((((((W5).setCell ⟨w.heap.size + 1 + 1, 4, none⟩ (.int .i64 F.f.held)).setCell ⟨w.heap.size + 1 + 1, 5, none⟩ (.int .i64 F.f.most)).setCell ⟨w.heap.size + 1 + 1, 6, none⟩ (.int .i64 F.f.catch_)).setCell ⟨w.heap.size + 1 + 1, 7, none⟩ (.int .i64 F.f.wash)).alloc (.cells #[.int .i64 F.f.held, .int .i64 F.f.most, .int .i64 F.f.catch_, .int .i64 F.f.wash, .int .i64 F.clean.wt, .slice bx F.clean.n lx, .int .i64 F.waste.wt, .slice (some ⟨gy, 0, none⟩) F.waste.n ly, .int .i64 F.head, .int .i64 F.c] 54)).alloc (.cells #[.int .i64 F.clean.wt, .slice bx F.clean.n lx] 28)).heap[g]?) := fun g t ht hne => by
                  obtain ⟨cur, e⟩ := ht
                  exact hgrow.block g (lt_of_some e) (fun e2 => blk_ne ⟨cur, e⟩ (own_type HOW.out e2.symm).2 hne rfl)
                have kpe : ∀ g n (ff : Nat → Int), InBlk g n ff W5 → InBlk g n ff (((((((W5).setCell ⟨w.heap.size + 1 + 1, 4, none⟩ (.int .i64 F.f.held)).setCell ⟨w.heap.size + 1 + 1, 5, none⟩ (.int .i64 F.f.most)).setCell ⟨w.heap.size + 1 + 1, 6, none⟩ (.int .i64 F.f.catch_)).setCell ⟨w.heap.size + 1 + 1, 7, none⟩ (.int .i64 F.f.wash)).alloc (.cells #[.int .i64 F.f.held, .int .i64 F.f.most, .int .i64 F.f.catch_, .int .i64 F.f.wash, .int .i64 F.clean.wt, .slice bx F.clean.n lx, .int .i64 F.waste.wt, .slice (some ⟨gy, 0, none⟩) F.waste.n ly, .int .i64 F.head, .int .i64 F.c] 54)).alloc (.cells #[.int .i64 F.clean.wt, .slice bx F.clean.n lx] 28)) := fun g n ff h2 => h2.block (HKL.out g h2.lt (blk_ne (inBlk_type h2) (rowIs_type HM5.out.out) (by decide)))
                have HX1 : Hid (∃ g, bx = some ⟨g, 0, none⟩ ∧ InBlk g F.clean.n F.clean.f (((((((W5).setCell ⟨w.heap.size + 1 + 1, 4, none⟩ (.int .i64 F.f.held)).setCell ⟨w.heap.size + 1 + 1, 5, none⟩ (.int .i64 F.f.most)).setCell ⟨w.heap.size + 1 + 1, 6, none⟩ (.int .i64 F.f.catch_)).setCell ⟨w.heap.size + 1 + 1, 7, none⟩ (.int .i64 F.f.wash)).alloc (.cells #[.int .i64 F.f.held, .int .i64 F.f.most, .int .i64 F.f.catch_, .int .i64 F.f.wash, .int .i64 F.clean.wt, .slice bx F.clean.n lx, .int .i64 F.waste.wt, .slice (some ⟨gy, 0, none⟩) F.waste.n ly, .int .i64 F.head, .int .i64 F.c] 54)).alloc (.cells #[.int .i64 F.clean.wt, .slice bx F.clean.n lx] 28))) := by obtain ⟨g, e, h2⟩ := HPX.out; exact ⟨g, e, kpe _ _ _ h2⟩
                have HY1 : Hid (∃ g, ay = some ⟨g, 0, none⟩ ∧ InBlk g A.y.n A.y.f W8) := by obtain ⟨g, e, h2⟩ := HPY.out; exact ⟨g, e, (kpe _ _ _ h2).block (HNO.out _ _ (inBlk_type (kpe _ _ _ h2)) (by decide))⟩
                have HG1 : Hid (InBlk gy F.waste.n F.waste.f W8) := (kpe _ _ _ HGY.out).block (HNO.out _ _ (inBlk_type (kpe _ _ _ HGY.out)) (by decide))
                have HM8 : Hid (MpS w F.f kw v1 (i + 1) (Wk.pclean m mi (fun i => (bs i).b) f) u9 (i * 2) (Wk.pwaste m mi (fun i => (bs i).b) f) W8) := HM7.out.appC hgrow (by rw [HSE.out]; exact hwhere) (PlL.push (x := ⟨F.clean.wt, bx, F.clean.n, lx, F.clean.f⟩) HCS.out (by show F.clean = _; rw [HFE.out]; rfl) HX1.out HOW.out hgrow hown1)
                have r11 : W8.rowIs W3.heap.size 51 5 (rowL [.int .i64 A.x.wt, .slice ax A.x.n kx, .int .i64 A.y.wt, .slice ay A.y.n ky, .int .i64 A.c]) := by
                  have q := HR11.out.of_block (HKL.out _ HR11.out.lt (blk_ne (rowIs_type HR11.out) (rowIs_type HM5.out.out) (by decide)))
                  exact q.of_block (HNO.out _ _ (rowIs_type q) (by decide))
                have r12 := HR12.out.of_block (HNO.out _ _ (rowIs_type HR12.out) (by decide))
                have q2 : W8.cell? ⟨W3.heap.size, 2, none⟩ = some (.int .i64 A.y.wt) := r11.cell (i := 2) (by omega)
                have q3 : W8.cell? ⟨W3.heap.size, 3, none⟩ = some (.slice ay A.y.n ky) := r11.cell (i := 3) (by omega)
                have s6 : W8.cell? ⟨W5.heap.size, 6, none⟩ = some (.int .i64 F.waste.wt) := r12.cell (i := 6) (by omega)
                have s7 : W8.cell? ⟨W5.heap.size, 7, none⟩ = some (.slice (some ⟨gy, 0, none⟩) F.waste.n ly) := r12.cell (i := 7) (by omega)
                have l11 := r11.lt
                have l12 := r12.lt
                have HM8L : Hid (MpS w F.f kw v1 (i + 1) (Wk.pclean m mi (fun i => (bs i).b) f) u9 (i * 2) (Wk.pwaste m mi (fun i => (bs i).b) f) (W8.alloc (.cells #[.int .i64 A.y.wt, .slice ay A.y.n ky, .int .i64 F.waste.wt, .slice (some ⟨gy, 0, none⟩) F.waste.n ly] 28))) := HM8.out.below (bel_alloc _ _)
                obtain ⟨ds, hown2, hds⟩ := HM8L.out.wl
                have HDS := Lib.hid hds
                have HOW2 := Lib.hid hown2
                have hw8 : w.heap.size + 3 ≤ W8.heap.size := by have := HM8.out.out.lt; omega
                clear hown1 hgrow hwhere hse kpe hown r11 r12 hds HNO HM7 HKL HSE HR12 HCS HOW p4 p5 p6 p7 p8 e4 e5 e6 e7 e8 y0
                go_wp2_with (at_builtin; refine wpList_append_own_at _ rfl _ _ 35 rfl (w.heap.size + 3) 28 i0 _ 2 32 Tryd.underlying35 hi0 hz0 hz1 hz2 rfl (by decide) _ _ _ rfl hown2 ⟨W8.heap.size, 0, none⟩ 2 2 [.int .i64 A.y.wt, .slice ay A.y.n ky, .int .i64 F.waste.wt, .slice (some ⟨gy, 0, none⟩) F.waste.n ly] rfl rfl ?c1 ?c2 ?c3 ?c4 ?c5 ?_)
                case c1 =>
                  intro j x hj
                  match j, hj with
                  | 0, hj => simp at hj; subst hj; simp [Addr.add]
                  | 1, hj => simp at hj; subst hj; simp [Addr.add]
                  | 2, hj => simp at hj; subst hj; simp [Addr.add]
                  | 3, hj => simp at hj; subst hj; simp [Addr.add]
                case c2 =>
                  intro x hx
                  simp at hx
                  rcases hx with rfl | rfl | rfl | rfl <;> rfl
                case c3 => unfold maxLen; omega
                case c4 => omega
                case c5 => simp; omega
                intro v2 W9 hown3 hgrow2 _ hwhere2
                have HM9 : Hid (MpS w F.f kw v1 (i + 1) (Wk.pclean m mi (fun i => (bs i).b) f) v2 (i * 2 + 1 + 1) (Wk.pwaste m mi (fun i => (bs i).b) f) W9) := HM8L.out.appW hgrow2 (by simpa using hwhere2) (PlL.push2 (x := ⟨A.y.wt, ay, A.y.n, ky, A.y.f⟩) (y := ⟨F.waste.wt, some ⟨gy, 0, none⟩, F.waste.n, ly, F.waste.f⟩) HDS.out (by rw [Wk.pwaste_even, ← HAE.out]; rfl) (by obtain ⟨g, e, h2⟩ := HY1.out; exact ⟨g, e, h2.below (bel_alloc _ _)⟩) (by rw [Wk.pwaste_odd, ← HFE.out]; rfl) ⟨gy, rfl, HG1.out.below (bel_alloc _ _)⟩ HOW2.out hgrow2 hown3)
                clear hown2 hown3 hgrow2 hwhere2 q2 q3 s6 s7 l11 l12
                go_wp2_with fail
                go_roundw
                case rel =>
                  refine ⟨i + 1, by omega, by go_num, Wk.pcode_next hcode.out (by rw [← HAE.out]; exact HOK.out.1) (by rw [← HFE.out]; exact HOK.out.2), ?_⟩
                  have e1 : (i + 1) * 2 = i * 2 + 1 + 1 := by omega
                  have e2 : Wk.pwash m mi (fun i => (bs i).b) f (i + 1) = kw := by
                    simp only [Wk.pwash]
                    rw [← HFE.out, ← HKW.out]
                    rw [if_neg (by omega), Int.add_zero]
                  rw [e1, e2, Wk.pfl_succ, ← HFE.out]
                  exact HM9
                case measure => simp [intOf]; omega
          · have hcz2 : (F.c == 0) = false := by simp [hc2]
            have HQE : Hid (P = Wk.badP F.c) := by show _ = _; rw [HPE.out, HFE.out]; exact Wk.plant_filter hbig hcode.out (by rw [← HAE.out]; exact HCC.out) (by rw [← HFE.out]; exact hc2) hlt
            clear p4 p5 p6 p7 p8 e4 e5 e6 e7 e8
            obtain ⟨⟨f0, f1, f2, f3, f4⟩, f5, f6, f7, f8, f9⟩ := po_res HM5.out.res
            obtain ⟨⟨o0, o1, o2, o3, o4⟩, o5, o6, o7, o8, o9⟩ := po_cells HM5.out.res
            have l0 := (HM5.out.res).lt
            obtain ⟨V, hV⟩ : ∃ V, V = ((((((((((W5).setCell ⟨w.heap.size + 1, 0, none⟩ (.int .i64 0)).setCell ⟨w.heap.size + 1, 1, none⟩ (.slice none 0 0)).setCell ⟨w.heap.size + 1, 2, none⟩ (.int .i64 0)).setCell ⟨w.heap.size + 1, 3, none⟩ (.slice none 0 0)).setCell ⟨w.heap.size + 1, 4, none⟩ (.int .i64 0)).setCell ⟨w.heap.size + 1, 5, none⟩ (.int .i64 0)).setCell ⟨w.heap.size + 1, 6, none⟩ (.int .i64 0)).setCell ⟨w.heap.size + 1, 7, none⟩ (.int .i64 0)).setCell ⟨w.heap.size + 1, 8, none⟩ (.int .i64 0)).setCell ⟨w.heap.size + 1, 9, none⟩ (.int .i64 F.c) := ⟨_, rfl⟩
            have HRV : Hid (V.rowIs (w.heap.size + 1) 31 10 (rowL (poL beN beN Wk.flNil 0 F.c))) := by show World.rowIs _ _ _ _ _; rw [hV]; exact put10_row HM5.out.res rfl (.int .i64 0) (.slice none 0 0) (.int .i64 0) (.slice none 0 0) (.int .i64 0) (.int .i64 0) (.int .i64 0) (.int .i64 0) (.int .i64 0) (.int .i64 F.c)
            have HFR : Hid (∀ q, q ≠ w.heap.size + 1 → V.heap[q]? = W5.heap[q]?) := fun q hq => by rw [hV]; exact put10_far W5 hq (.int .i64 0) (.slice none 0 0) (.int .i64 0) (.slice none 0 0) (.int .i64 0) (.int .i64 0) (.int .i64 0) (.int .i64 0) (.int .i64 0) (.int .i64 F.c)
            have HBV : Hid (Below w.heap.size w V) := by show Below _ _ _; rw [hV]; exact put10_below HM5.out.bel (Nat.le_succ _) (.int .i64 0) (.slice none 0 0) (.int .i64 0) (.slice none 0 0) (.int .i64 0) (.int .i64 0) (.int .i64 0) (.int .i64 0) (.int .i64 0) (.int .i64 F.c)
            have HV := Lib.hid hV
            clear hV
            go_wp2_with fail
            rw [← HV.out]
            clear f0 f1 f2 f3 f4 f5 f6 f7 f8 f9 o0 o1 o2 o3 o4 o5 o6 o7 o8 o9
            refine bodyPost_ret (v := poV beN beN Wk.flNil 0 F.c) ?_ rfl ⟨by rw [HQE.out]; exact PoEnd.bad _ _ _, HBV.out.alloc HBV.out.size _⟩
            · obtain ⟨⟨a0, a1, a2, a3, a4⟩, a5, a6, a7, a8, a9⟩ := po_cells HRV.out
              have l9 := HRV.out.lt
              simp only [results, Tryd.results6]
              simp [go_sem, a0, a1, a2, a3, a4, a5, a6, a7, a8, a9, l9]
              try rfl
        · have hcz : (A.c == 0) = false := by simp [hc]
          have HQE : Hid (P = Wk.badP A.c) := by show _ = _; rw [HPE.out, HAE.out]; exact Wk.plant_settle hbig hcode.out (by rw [← HAE.out]; exact hc) hlt
          clear p4 p5 p6 p7 p8
          obtain ⟨⟨f0, f1, f2, f3, f4⟩, f5, f6, f7, f8, f9⟩ := po_res HM3.out.res
          obtain ⟨⟨o0, o1, o2, o3, o4⟩, o5, o6, o7, o8, o9⟩ := po_cells HM3.out.res
          have l0 := (HM3.out.res).lt
          obtain ⟨V, hV⟩ : ∃ V, V = ((((((((((W3).setCell ⟨w.heap.size + 1, 0, none⟩ (.int .i64 0)).setCell ⟨w.heap.size + 1, 1, none⟩ (.slice none 0 0)).setCell ⟨w.heap.size + 1, 2, none⟩ (.int .i64 0)).setCell ⟨w.heap.size + 1, 3, none⟩ (.slice none 0 0)).setCell ⟨w.heap.size + 1, 4, none⟩ (.int .i64 0)).setCell ⟨w.heap.size + 1, 5, none⟩ (.int .i64 0)).setCell ⟨w.heap.size + 1, 6, none⟩ (.int .i64 0)).setCell ⟨w.heap.size + 1, 7, none⟩ (.int .i64 0)).setCell ⟨w.heap.size + 1, 8, none⟩ (.int .i64 0)).setCell ⟨w.heap.size + 1, 9, none⟩ (.int .i64 A.c) := ⟨_, rfl⟩
          have HRV : Hid (V.rowIs (w.heap.size + 1) 31 10 (rowL (poL beN beN Wk.flNil 0 A.c))) := by show World.rowIs _ _ _ _ _; rw [hV]; exact put10_row HM3.out.res rfl (.int .i64 0) (.slice none 0 0) (.int .i64 0) (.slice none 0 0) (.int .i64 0) (.int .i64 0) (.int .i64 0) (.int .i64 0) (.int .i64 0) (.int .i64 A.c)
          have HFR : Hid (∀ q, q ≠ w.heap.size + 1 → V.heap[q]? = W3.heap[q]?) := fun q hq => by rw [hV]; exact put10_far W3 hq (.int .i64 0) (.slice none 0 0) (.int .i64 0) (.slice none 0 0) (.int .i64 0) (.int .i64 0) (.int .i64 0) (.int .i64 0) (.int .i64 0) (.int .i64 A.c)
          have HBV : Hid (Below w.heap.size w V) := by show Below _ _ _; rw [hV]; exact put10_below HM3.out.bel (Nat.le_succ _) (.int .i64 0) (.slice none 0 0) (.int .i64 0) (.slice none 0 0) (.int .i64 0) (.int .i64 0) (.int .i64 0) (.int .i64 0) (.int .i64 0) (.int .i64 A.c)
          have HV := Lib.hid hV
          clear hV
          go_wp2_with fail
          rw [← HV.out]
          clear f0 f1 f2 f3 f4 f5 f6 f7 f8 f9 o0 o1 o2 o3 o4 o5 o6 o7 o8 o9
          refine bodyPost_ret (v := poV beN beN Wk.flNil 0 A.c) ?_ rfl ⟨by rw [HQE.out]; exact PoEnd.bad _ _ _, HBV.out.alloc HBV.out.size _⟩
          · obtain ⟨⟨a0, a1, a2, a3, a4⟩, a5, a6, a7, a8, a9⟩ := po_cells HRV.out
            have l9 := HRV.out.lt
            simp only [results, Tryd.results6]
            simp [go_sem, a0, a1, a2, a3, a4, a5, a6, a7, a8, a9, l9]
            try rfl
      · obtain rfl : i = n := by omega
        obtain ⟨ca, ck, hcv⟩ := hM.out.cl.shape
        obtain ⟨wa, wk, hwv⟩ := hM.out.wl.shape
        subst hcv hwv
        obtain ⟨fl, hfl⟩ : ∃ fl, fl = Wk.pfl m mi (fun i => (bs i).b) f i := ⟨_, rfl⟩
        obtain ⟨kw, hkw⟩ : ∃ kw, kw = Wk.pwash m mi (fun i => (bs i).b) f i := ⟨_, rfl⟩
        rw [← hfl, ← hkw] at hM
        have HFL := Lib.hid hfl
        have HKW := Lib.hid hkw
        clear hfl hkw
        go_wp2_with fail
        obtain ⟨cb, hcb, hcC⟩ := hM.out.cl.bts
        refine (sMix_any ca i ck cb _ hcb (by omega) (fun j hj => by have e2 : (cb j).n = (Wk.pclean m mi (fun i => (bs i).b) f j).n := congrArg Wk.Bt.n (congrFun hcC j); rw [e2]; exact Nat.le_trans (pclean_n _ _ _ _ j) (HBN.out j hj))).mono ?_
        rintro e W3 ⟨⟨ax, kx, ay, ky, rfl, hT⟩, hb3⟩
        rw [hcC] at hT ⊢
        obtain ⟨A, hA⟩ : ∃ A, A = Wk.mix i (Wk.pclean m mi (fun i => (bs i).b) f) := ⟨_, rfl⟩
        rw [← hA] at hT ⊢
        have HAE := Lib.hid hA
        have HM3 := Lib.hid (hM.out.below hb3)
        have HP1 := Lib.hid hT.px
        have HLW : Hid (w.heap.size + 3 ≤ wr.heap.size) := by show _ ≤ _; have := hM.out.out.lt; omega
        obtain ⟨W4, hW4⟩ : ∃ W4, W4 = W3.alloc (.cells #[.int .i64 A.x.wt, .slice ax A.x.n kx, .int .i64 A.y.wt, .slice ay A.y.n ky, .int .i64 A.c] 51) := ⟨_, rfl⟩
        have HW4 := Lib.hid hW4
        have hb4 : Below W3.heap.size W3 W4 := by rw [hW4]; exact bel_alloc _ _
        have HM4 := Lib.hid (HM3.out.below hb4)
        have HR11 : Hid (W4.rowIs W3.heap.size 51 5 (rowL [.int .i64 A.x.wt, .slice ax A.x.n kx, .int .i64 A.y.wt, .slice ay A.y.n ky, .int .i64 A.c])) := by show World.rowIs _ _ _ _ _; rw [hW4]; exact rowL_alloc W3 _ _
        have HP1' : Hid (PtM wr.heap.size W3.heap.size ax A.x.n kx A.x.f W4) := HP1.out.same (fun g _ h2 _ => hb4.block g h2)
        clear hA hT hb3 hcb hcC hW4 hb4 hM
        by_cases hc : A.c = 0
        · have hcz : (A.c == 0) = true := by simp [hc]
          have HCC := Lib.hid hc
          clear hc
          go_wp2_with fail
          rw [← HW4.out]
          obtain ⟨db, hdb, hdD⟩ := HM4.out.wl.bts
          refine (sMix_any wa (i * 2) wk db _ hdb (by omega) (fun j hj => by have e2 : (db j).n = (Wk.pwaste m mi (fun i => (bs i).b) f j).n := congrArg Wk.Bt.n (congrFun hdD j); rw [e2]; exact Nat.le_trans (pwaste_n _ _ _ _ j) (HBN.out (j / 2) (by omega)))).mono ?_
          rintro e W5 ⟨⟨bx, lx, by_, ly, rfl, hT2⟩, hb5⟩
          rw [hdD] at hT2 ⊢
          obtain ⟨A2, hA2⟩ : ∃ A2, A2 = Wk.mix (i * 2) (Wk.pwaste m mi (fun i => (bs i).b) f) := ⟨_, rfl⟩
          rw [← hA2] at hT2 ⊢
          have HAE2 := Lib.hid hA2
          have HM5 := Lib.hid (HM4.out.below hb5)
          have HP2 := Lib.hid hT2.px
          have HP15 : Hid (PtM wr.heap.size W3.heap.size ax A.x.n kx A.x.f W5) := HP1'.out.same (fun g _ _ h3 => hb5.block g h3)
          replace HR11 := Lib.hid (wrow_below HR11.out hb5)
          have hs45 : W3.heap.size < W4.heap.size := by have := HW4.out; rw [this]; simp
          have HS45 : Hid (W3.heap.size < W4.heap.size ∧ W4.heap.size ≤ W5.heap.size) := ⟨hs45, hb5.size⟩
          clear hA2 hT2 hb5 hdb hdD hs45
          by_cases hc2 : A2.c = 0
          · have hcz2 : (A2.c == 0) = true := by simp [hc2]
            have hPk : P = ⟨A.x, A2.x, fl, kw, 0⟩ := by rw [HPE.out, Wk.plant_ok hbig hcode.out (by rw [← HAE.out]; exact HCC.out) (by rw [← HAE2.out]; exact hc2), HFL.out, HKW.out, HAE.out, HAE2.out]
            have HPK := Lib.hid hPk
            clear hPk hc2
            have hke : ∀ g, g ≠ w.heap.size + 1 + 1 → (((((W5).setCell ⟨w.heap.size + 1 + 1, 0, none⟩ (.int .i64 A.x.wt)).setCell ⟨w.heap.size + 1 + 1, 1, none⟩ (.slice ax A.x.n kx)).setCell ⟨w.heap.size + 1 + 1, 2, none⟩ (.int .i64 A2.x.wt)).setCell ⟨w.heap.size + 1 + 1, 3, none⟩ (.slice bx A2.x.n lx)).heap[g]? = W5.heap[g]? := fun g hg => by rw [Below.heap_setCell _ ⟨w.heap.size + 1 + 1, 3, none⟩ _ _ hg, Below.heap_setCell _ ⟨w.heap.size + 1 + 1, 2, none⟩ _ _ hg, Below.heap_setCell _ ⟨w.heap.size + 1 + 1, 1, none⟩ _ _ hg, Below.heap_setCell _ ⟨w.heap.size + 1 + 1, 0, none⟩ _ _ hg]
            have hRR : (((((W5).setCell ⟨w.heap.size + 1 + 1, 0, none⟩ (.int .i64 A.x.wt)).setCell ⟨w.heap.size + 1 + 1, 1, none⟩ (.slice ax A.x.n kx)).setCell ⟨w.heap.size + 1 + 1, 2, none⟩ (.int .i64 A2.x.wt)).setCell ⟨w.heap.size + 1 + 1, 3, none⟩ (.slice bx A2.x.n lx)).rowIs (w.heap.size + 1) 31 10 (rowL (poL beN beN Wk.flNil 0 0)) := HM5.out.res.of_block (hke _ (by omega))
            obtain ⟨V, hV⟩ : ∃ V, V = ((((((((((((((W5).setCell ⟨w.heap.size + 1 + 1, 0, none⟩ (.int .i64 A.x.wt)).setCell ⟨w.heap.size + 1 + 1, 1, none⟩ (.slice ax A.x.n kx)).setCell ⟨w.heap.size + 1 + 1, 2, none⟩ (.int .i64 A2.x.wt)).setCell ⟨w.heap.size + 1 + 1, 3, none⟩ (.slice bx A2.x.n lx)).setCell ⟨w.heap.size + 1, 0, none⟩ (.int .i64 A.x.wt)).setCell ⟨w.heap.size + 1, 1, none⟩ (.slice ax A.x.n kx)).setCell ⟨w.heap.size + 1, 2, none⟩ (.int .i64 A2.x.wt)).setCell ⟨w.heap.size + 1, 3, none⟩ (.slice bx A2.x.n lx)).setCell ⟨w.heap.size + 1, 4, none⟩ (.int .i64 fl.held)).setCell ⟨w.heap.size + 1, 5, none⟩ (.int .i64 fl.most)).setCell ⟨w.heap.size + 1, 6, none⟩ (.int .i64 fl.catch_)).setCell ⟨w.heap.size + 1, 7, none⟩ (.int .i64 fl.wash)).setCell ⟨w.heap.size + 1, 8, none⟩ (.int .i64 kw)).setCell ⟨w.heap.size + 1, 9, none⟩ (.int .i64 0) := ⟨_, rfl⟩
            have HRV : Hid (V.rowIs (w.heap.size + 1) 31 10 (rowL [.int .i64 A.x.wt, .slice ax A.x.n kx, .int .i64 A2.x.wt, .slice bx A2.x.n lx, .int .i64 fl.held, .int .i64 fl.most, .int .i64 fl.catch_, .int .i64 fl.wash, .int .i64 kw, .int .i64 0])) := by show World.rowIs _ _ _ _ _; rw [hV]; exact put10_row hRR rfl (.int .i64 A.x.wt) (.slice ax A.x.n kx) (.int .i64 A2.x.wt) (.slice bx A2.x.n lx) (.int .i64 fl.held) (.int .i64 fl.most) (.int .i64 fl.catch_) (.int .i64 fl.wash) (.int .i64 kw) (.int .i64 0)
            have HFR : Hid (∀ q, q ≠ w.heap.size + 1 → q ≠ w.heap.size + 1 + 1 → V.heap[q]? = W5.heap[q]?) := fun q hq hq2 => by rw [hV]; exact (put10_far (((((W5).setCell ⟨w.heap.size + 1 + 1, 0, none⟩ (.int .i64 A.x.wt)).setCell ⟨w.heap.size + 1 + 1, 1, none⟩ (.slice ax A.x.n kx)).setCell ⟨w.heap.size + 1 + 1, 2, none⟩ (.int .i64 A2.x.wt)).setCell ⟨w.heap.size + 1 + 1, 3, none⟩ (.slice bx A2.x.n lx)) hq (.int .i64 A.x.wt) (.slice ax A.x.n kx) (.int .i64 A2.x.wt) (.slice bx A2.x.n lx) (.int .i64 fl.held) (.int .i64 fl.most) (.int .i64 fl.catch_) (.int .i64 fl.wash) (.int .i64 kw) (.int .i64 0)).trans (hke q hq2)
            have HBV : Hid (Below w.heap.size w V) := by show Below _ _ _; rw [hV]; exact put10_below ((((HM5.out.bel.setCell (p := ⟨w.heap.size + 1 + 1, 0, none⟩) (by show w.heap.size ≤ w.heap.size + 1 + 1; omega) _).setCell (p := ⟨w.heap.size + 1 + 1, 1, none⟩) (by show w.heap.size ≤ w.heap.size + 1 + 1; omega) _).setCell (p := ⟨w.heap.size + 1 + 1, 2, none⟩) (by show w.heap.size ≤ w.heap.size + 1 + 1; omega) _).setCell (p := ⟨w.heap.size + 1 + 1, 3, none⟩) (by show w.heap.size ≤ w.heap.size + 1 + 1; omega) _) (Nat.le_succ _) (.int .i64 A.x.wt) (.slice ax A.x.n kx) (.int .i64 A2.x.wt) (.slice bx A2.x.n lx) (.int .i64 fl.held) (.int .i64 fl.most) (.int .i64 fl.catch_) (.int .i64 fl.wash) (.int .i64 kw) (.int .i64 0)
            have HV := Lib.hid hV
            clear hV hke hRR
            obtain ⟨⟨p0, p1, p2, p3, p4⟩, p5, p6, p7, p8, p9⟩ := po_cells HM5.out.out
            obtain ⟨⟨e0, e1, e2, e3, e4⟩, e5, e6, e7, e8, e9⟩ := po_res HM5.out.out
            obtain ⟨⟨f0, f1, f2, f3, f4⟩, f5, f6, f7, f8, f9⟩ := po_res HM5.out.res
            obtain ⟨⟨o0, o1, o2, o3, o4⟩, o5, o6, o7, o8, o9⟩ := po_cells HM5.out.res
            have l0 := HM5.out.res.lt
            have l1 := HM5.out.out.lt
            have x0 : W5.cell? ⟨W3.heap.size, 0, none⟩ = some (.int .i64 A.x.wt) := HR11.out.cell (i := 0) (by omega)
            have x1 : W5.cell? ⟨W3.heap.size, 1, none⟩ = some (.slice ax A.x.n kx) := HR11.out.cell (i := 1) (by omega)
            have l3 := HR11.out.lt
            have d1 : W3.heap.size ≠ w.heap.size + 1 + 1 := blk_ne (rowIs_type HR11.out) (rowIs_type HM5.out.out) (by decide)
            have d2 : W3.heap.size ≠ w.heap.size + 1 := blk_ne (rowIs_type HR11.out) (rowIs_type HM5.out.res) (by decide)
            go_wp2_with fail
            rw [← HV.out]
            clear f0 f1 f2 f3 f4 f5 f6 f7 f8 f9 o0 o1 o2 o3 o4 o5 o6 o7 o8 o9 p0 p1 p2 p3 p4 p5 p6 p7 p8 p9 e0 e1 e2 e3 e4 e5 e6 e7 e8 e9
            refine bodyPost_ret (v := ppV P ax kx bx lx) ?_ rfl ⟨⟨ax, kx, bx, lx, rfl, ?_⟩, HBV.out.alloc HBV.out.size _⟩
            · rw [HPK.out]
              obtain ⟨⟨a0, a1, a2, a3, a4⟩, a5, a6, a7, a8, a9⟩ := po_cells HRV.out
              have l9 := HRV.out.lt
              simp only [results, Tryd.results6]
              simp [go_sem, a0, a1, a2, a3, a4, a5, a6, a7, a8, a9, l9]
            · rw [HPK.out]
              have hlw := HLW.out
              have hs := HS45.out
              have l4 := HM4.out.out.lt
              have hV5 : W5.heap.size ≤ V.heap.size := by have := HV.out; rw [this]; simp
              refine ⟨?_, ?_, ?_⟩
              · have q := HP15.out.same (W' := V) (fun g h1 _ _ => HFR.out g (by omega) (by omega))
                exact (q.same (fun g _ h2 _ => (bel_alloc _ _).block g (by omega))).mono (by omega) (by simp; omega)
              · have q := HP2.out.same (W' := V) (fun g h1 _ _ => HFR.out g (by omega) (by omega))
                exact (q.same (fun g _ h2 _ => (bel_alloc _ _).block g (by omega))).mono (by omega) (by simp; omega)
              · intro g e1 e2
                unfold atP at e1 e2
                rcases HP15.out with ⟨e, _⟩ | ⟨g1, e, ⟨_, h1⟩, _⟩
                · rw [e] at e1; cases e1
                · rcases HP2.out with ⟨e', _⟩ | ⟨g2, e', ⟨h2, _⟩, _⟩
                  · rw [e'] at e2; cases e2
                  · rw [e] at e1; rw [e'] at e2; simp at e1 e2; omega
          · have hcz2 : (A2.c == 0) = false := by simp [hc2]
            have HQE : Hid (P = Wk.badP A2.c) := by show _ = _; rw [HPE.out, HAE2.out]; exact Wk.plant_waste hbig hcode.out (by rw [← HAE.out]; exact HCC.out) (by rw [← HAE2.out]; exact hc2)
            obtain ⟨⟨f0, f1, f2, f3, f4⟩, f5, f6, f7, f8, f9⟩ := po_res HM5.out.res
            obtain ⟨⟨o0, o1, o2, o3, o4⟩, o5, o6, o7, o8, o9⟩ := po_cells HM5.out.res
            have l0 := (HM5.out.res).lt
            obtain ⟨V, hV⟩ : ∃ V, V = ((((((((((W5).setCell ⟨w.heap.size + 1, 0, none⟩ (.int .i64 0)).setCell ⟨w.heap.size + 1, 1, none⟩ (.slice none 0 0)).setCell ⟨w.heap.size + 1, 2, none⟩ (.int .i64 0)).setCell ⟨w.heap.size + 1, 3, none⟩ (.slice none 0 0)).setCell ⟨w.heap.size + 1, 4, none⟩ (.int .i64 0)).setCell ⟨w.heap.size + 1, 5, none⟩ (.int .i64 0)).setCell ⟨w.heap.size + 1, 6, none⟩ (.int .i64 0)).setCell ⟨w.heap.size + 1, 7, none⟩ (.int .i64 0)).setCell ⟨w.heap.size + 1, 8, none⟩ (.int .i64 0)).setCell ⟨w.heap.size + 1, 9, none⟩ (.int .i64 A2.c) := ⟨_, rfl⟩
            have HRV : Hid (V.rowIs (w.heap.size + 1) 31 10 (rowL (poL beN beN Wk.flNil 0 A2.c))) := by show World.rowIs _ _ _ _ _; rw [hV]; exact put10_row HM5.out.res rfl (.int .i64 0) (.slice none 0 0) (.int .i64 0) (.slice none 0 0) (.int .i64 0) (.int .i64 0) (.int .i64 0) (.int .i64 0) (.int .i64 0) (.int .i64 A2.c)
            have HFR : Hid (∀ q, q ≠ w.heap.size + 1 → V.heap[q]? = W5.heap[q]?) := fun q hq => by rw [hV]; exact put10_far W5 hq (.int .i64 0) (.slice none 0 0) (.int .i64 0) (.slice none 0 0) (.int .i64 0) (.int .i64 0) (.int .i64 0) (.int .i64 0) (.int .i64 0) (.int .i64 A2.c)
            have HBV : Hid (Below w.heap.size w V) := by show Below _ _ _; rw [hV]; exact put10_below HM5.out.bel (Nat.le_succ _) (.int .i64 0) (.slice none 0 0) (.int .i64 0) (.slice none 0 0) (.int .i64 0) (.int .i64 0) (.int .i64 0) (.int .i64 0) (.int .i64 0) (.int .i64 A2.c)
            have HV := Lib.hid hV
            clear hV
            go_wp2_with fail
            rw [← HV.out]
            clear f0 f1 f2 f3 f4 f5 f6 f7 f8 f9 o0 o1 o2 o3 o4 o5 o6 o7 o8 o9
            refine bodyPost_ret (v := poV beN beN Wk.flNil 0 A2.c) ?_ rfl ⟨by rw [HQE.out]; exact PoEnd.bad _ _ _, HBV.out.alloc HBV.out.size _⟩
            · obtain ⟨⟨a0, a1, a2, a3, a4⟩, a5, a6, a7, a8, a9⟩ := po_cells HRV.out
              have l9 := HRV.out.lt
              simp only [results, Tryd.results6]
              simp [go_sem, a0, a1, a2, a3, a4, a5, a6, a7, a8, a9, l9]
              try rfl
        · have hcz : (A.c == 0) = false := by simp [hc]
          have HQE : Hid (P = Wk.badP A.c) := by show _ = _; rw [HPE.out, HAE.out]; exact Wk.plant_clean hbig hcode.out (by rw [← HAE.out]; exact hc)
          obtain ⟨⟨f0, f1, f2, f3, f4⟩, f5, f6, f7, f8, f9⟩ := po_res HM3.out.res
          obtain ⟨⟨o0, o1, o2, o3, o4⟩, o5, o6, o7, o8, o9⟩ := po_cells HM3.out.res
          have l0 := (HM3.out.res).lt
          obtain ⟨V, hV⟩ : ∃ V, V = ((((((((((W3).setCell ⟨w.heap.size + 1, 0, none⟩ (.int .i64 0)).setCell ⟨w.heap.size + 1, 1, none⟩ (.slice none 0 0)).setCell ⟨w.heap.size + 1, 2, none⟩ (.int .i64 0)).setCell ⟨w.heap.size + 1, 3, none⟩ (.slice none 0 0)).setCell ⟨w.heap.size + 1, 4, none⟩ (.int .i64 0)).setCell ⟨w.heap.size + 1, 5, none⟩ (.int .i64 0)).setCell ⟨w.heap.size + 1, 6, none⟩ (.int .i64 0)).setCell ⟨w.heap.size + 1, 7, none⟩ (.int .i64 0)).setCell ⟨w.heap.size + 1, 8, none⟩ (.int .i64 0)).setCell ⟨w.heap.size + 1, 9, none⟩ (.int .i64 A.c) := ⟨_, rfl⟩
          have HRV : Hid (V.rowIs (w.heap.size + 1) 31 10 (rowL (poL beN beN Wk.flNil 0 A.c))) := by show World.rowIs _ _ _ _ _; rw [hV]; exact put10_row HM3.out.res rfl (.int .i64 0) (.slice none 0 0) (.int .i64 0) (.slice none 0 0) (.int .i64 0) (.int .i64 0) (.int .i64 0) (.int .i64 0) (.int .i64 0) (.int .i64 A.c)
          have HFR : Hid (∀ q, q ≠ w.heap.size + 1 → V.heap[q]? = W3.heap[q]?) := fun q hq => by rw [hV]; exact put10_far W3 hq (.int .i64 0) (.slice none 0 0) (.int .i64 0) (.slice none 0 0) (.int .i64 0) (.int .i64 0) (.int .i64 0) (.int .i64 0) (.int .i64 0) (.int .i64 A.c)
          have HBV : Hid (Below w.heap.size w V) := by show Below _ _ _; rw [hV]; exact put10_below HM3.out.bel (Nat.le_succ _) (.int .i64 0) (.slice none 0 0) (.int .i64 0) (.slice none 0 0) (.int .i64 0) (.int .i64 0) (.int .i64 0) (.int .i64 0) (.int .i64 0) (.int .i64 A.c)
          have HV := Lib.hid hV
          clear hV
          go_wp2_with fail
          rw [← HV.out]
          clear f0 f1 f2 f3 f4 f5 f6 f7 f8 f9 o0 o1 o2 o3 o4 o5 o6 o7 o8 o9
          refine bodyPost_ret (v := poV beN beN Wk.flNil 0 A.c) ?_ rfl ⟨by rw [HQE.out]; exact PoEnd.bad _ _ _, HBV.out.alloc HBV.out.size _⟩
          · obtain ⟨⟨a0, a1, a2, a3, a4⟩, a5, a6, a7, a8, a9⟩ := po_cells HRV.out
            have l9 := HRV.out.lt
            simp only [results, Tryd.results6]
            simp [go_sem, a0, a1, a2, a3, a4, a5, a6, a7, a8, a9, l9]
            try rfl

end Go.Proofs.YtcjeieagpcphjaaDoor
