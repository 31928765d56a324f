/-
  The program's ways: a layout whose bundles carry ways, one more over a bundle, a way taken, the first place with a way.
-/
import Derived.Test.YtipmjobhegpdgaaGreatDoorPlG2
import Derived.Test.YtipmjobhegpdgaaGreatDoorPlB2
namespace Go.Proofs.YtipmjobhegpdgaaGreatDoor
open Go Go.RowKit Go.Deep

theorem d_far' {B n size : Nat} {e : TypeId} {v : Value} {xs : List Value} {W W' : World} (h : W.ownsRow B e size v n xs) (hb : ∀ k, v.ownBlock = some k → k < W.heap.size → W'.heap[k]? = W.heap[k]?) : W'.ownsRow B e size v n xs := by
  refine ⟨h.1, ?_⟩
  rcases h.2 with h2 | ⟨g, cap, cur, e1, e2, e3, e4⟩
  · exact Or.inl h2
  · exact Or.inr ⟨g, cap, cur, e1, e2, (hb g (by rw [e1]; rfl) (Array.getElem?_eq_some_iff.1 e3).1).trans e3, e4⟩
/-- A layout of all rows whose bundles carry ways. -/
structure LayF (p : Pl.Plan) (sh : Nat → Prop) (b cnt : Nat) (kf : Nat → Int × Int) (gv : Nat → Value) (fl : Nat → Int) (B : Nat) (W : World) : Prop where
  map : LMap b cnt kf (fun j => bu (gv j) (Pl.heldB p sh p.rn (kf j)) (fl j)) W
  own : ∀ j, j < cnt → W.ownsRow B 2 1 (gv j) (Pl.goodL p sh p.rn (kf j)).length (numsV (Pl.goodL p sh p.rn (kf j)))
  ne : ∀ j, j < cnt → ∀ g, (gv j).ownBlock = some g → g ≠ b
  lo : B ≤ b
  all : ∀ i, i < p.rn → ¬ sh i → ∃ j, j < cnt ∧ kf j = Pl.key p i
  each : ∀ j, j < cnt → ∃ i, i < p.rn ∧ ¬ sh i ∧ kf j = Pl.key p i
theorem LayF.of {p : Pl.Plan} {sh : Nat → Prop} {b cnt : Nat} {kf : Nat → Int × Int} {gv : Nat → Value} {B : Nat} {W : World} (h : LayS p sh p.rn b cnt kf gv B W) : LayF p sh b cnt kf gv (fun _ => 0) B W := ⟨h.map, h.own, h.ne, h.lo, h.all, h.each⟩
theorem LayF.keep {p : Pl.Plan} {sh : Nat → Prop} {b cnt : Nat} {kf : Nat → Int × Int} {gv : Nat → Value} {fl : Nat → Int} {B : Nat} {W W' : World} (h : LayF p sh b cnt kf gv fl B W) (hb : ∀ k, B ≤ k → k < W.heap.size → W'.heap[k]? = W.heap[k]?) : LayF p sh b cnt kf gv fl B W' :=
  ⟨h.map.of_block (hb _ h.lo h.map.lt), fun j hj => d_far' (h.own j hj) (fun k e hl => hb k ((h.own j hj).lt k e).1 hl), h.ne, h.lo, h.all, h.each⟩
theorem LayF.below {p : Pl.Plan} {sh : Nat → Prop} {b cnt : Nat} {kf : Nat → Int × Int} {gv : Nat → Value} {fl : Nat → Int} {B : Nat} {W W' : World} (h : LayF p sh b cnt kf gv fl B W) (hb : Below W.heap.size W W') : LayF p sh b cnt kf gv fl B W' := h.keep (fun k _ hl => hb.block k hl)
theorem LayF.room {p : Pl.Plan} {sh : Nat → Prop} {b cnt : Nat} {kf : Nat → Int × Int} {gv : Nat → Value} {fl : Nat → Int} {B : Nat} {W : World} (h : LayF p sh b cnt kf gv fl B W) : RoomS b cnt kf (fun j => (Pl.goodL p sh p.rn (kf j)).length) (fun j => Pl.heldB p sh p.rn (kf j)) fl W := by
  have sh' : ∀ j, ∃ ac : Option Addr × Nat, j < cnt → gv j = .slice ac.1 (Pl.goodL p sh p.rn (kf j)).length ac.2 := fun j => by
    by_cases hj : j < cnt
    · rcases (h.own j hj).2 with e | ⟨g, c, _, e, _⟩
      · exact ⟨(none, 0), fun _ => by rw [e.1, e.2]⟩
      · exact ⟨(some ⟨g, 0, none⟩, c), fun _ => e⟩
    · exact ⟨(none, 0), fun x => absurd x hj⟩
  obtain ⟨ac, hac⟩ := Classical.axiomOfChoice sh'
  exact ⟨fun j => (ac j).1, fun j => (ac j).2, h.map.congr (fun _ _ => rfl) (fun j hj => by rw [hac j hj])⟩
theorem LayF.keys {p : Pl.Plan} {sh : Nat → Prop} {b cnt : Nat} {kf : Nat → Int × Int} {gv : Nat → Value} {fl : Nat → Int} {B : Nat} {W : World} (h : LayF p sh b cnt kf gv fl B W) (hr : Pl.Right p) : KeysOk cnt kf p.hn := by
  intro j hj
  obtain ⟨i, hi, _, e⟩ := h.each j hj
  have h1 := hr.rows i hi
  rw [e]
  show 0 ≤ Pl.lo _ _ ∧ Pl.lo _ _ < Pl.hi _ _ ∧ Pl.hi _ _ < _
  unfold Pl.lo Pl.hi
  have h2 := h1.1
  have h3 := h1.2.1
  have h4 := h1.2.2.1
  split <;> omega
/-- One bundle carries another number of ways. -/
theorem LayF.put {p : Pl.Plan} {sh : Nat → Prop} {b cnt : Nat} {kf : Nat → Int × Int} {gv : Nat → Value} {fl : Nat → Int} {B : Nat} {W : World} (h : LayF p sh b cnt kf gv fl B W) {j : Nat} (hj : j < cnt) (x : Int) :
    ∃ Y, (Instr.mapUpdate 79 (.map (some b)) (kV (kf j)) (bu (gv j) (Pl.heldB p sh p.rn (kf j)) x)).run Tryz.prog W = .ok () Y ∧ LayF p sh b cnt kf gv (updI fl j x) B Y ∧ Only b W Y := by
  have hput := h.map.put_hit hj (bu (gv j) (Pl.heldB p sh p.rn (kf j)) x)
  have hO := setBlock_only h.map (.map (LEs cnt kf (updV (fun j => bu (gv j) (Pl.heldB p sh p.rn (kf j)) (fl j)) j (bu (gv j) (Pl.heldB p sh p.rn (kf j)) x))) cnt)
  refine ⟨_, hput, ⟨?_, fun i hi => d_far' (h.own i hi) (fun k e hl => hO.block k hl (h.ne i hi k e)), h.ne, h.lo, h.all, h.each⟩, hO⟩
  refine (h.map.hit _).congr (fun _ _ => rfl) (fun i hi => ?_)
  unfold updV updI
  by_cases e : i = j
  · subst e; rw [if_pos rfl, if_pos rfl]
  · rw [if_neg e, if_neg e]
set_option maxRecDepth 100000 in
set_option maxHeartbeats 2000000 in
theorem pass_any {p : Pl.Plan} {sh : Nat → Prop} {b cnt : Nat} {kf : Nat → Int × Int} {gv : Nat → Value} {fl : Nat → Int} {B : Nat} (u v j : Nat) (w : World) (h : LayF p sh b cnt kf gv fl B w) (hj : j < cnt) (hk : kf j = (Pl.lo (u : Int) (v : Int), Pl.hi (u : Int) (v : Int))) (hf1 : -1000000 ≤ fl j) (hf2 : fl j ≤ 1000000) :
    Calls Tryz.prog 101 #[.map (some b), .int .i64 u, .int .i64 v] w fun e w' => e = .returned (.tuple #[]) ∧ LayF p sh b cnt kf gv (updI fl j (fl j + if u < v then 1 else -1)) B w' ∧ Only b w w' := by
  have H := Lib.hid h
  have HK := Lib.hid hk
  clear h hk
  go_enter Tryz.func101, Tryz.ntmps101
  go_wp2_with fail
  refine (ppair_any _ _ _).mono ?_
  rintro e w1 ⟨rfl, hb1⟩
  obtain ⟨ga, gn, gc, hgj⟩ : ∃ ga gn gc, gv j = .slice ga gn gc := by
    rcases (H.out.own j hj).2 with e | ⟨g, c, _, e, _⟩
    · exact ⟨_, _, _, e.1⟩
    · exact ⟨_, _, _, e⟩
  obtain ⟨l, hl⟩ : ∃ l, l = Pl.lo (u : Int) (v : Int) := ⟨_, rfl⟩
  obtain ⟨r, hr⟩ : ∃ r, r = Pl.hi (u : Int) (v : Int) := ⟨_, rfl⟩
  rw [← hl, ← hr]
  obtain ⟨hh, hhh⟩ : ∃ hh, hh = Pl.heldB p sh p.rn (kf j) := ⟨_, rfl⟩
  have hkv : kV (kf j) = .agg #[.int .i64 l, .int .i64 r] := by rw [HK.out, hl, hr]
  obtain ⟨W1, hW1⟩ : ∃ W1, W1 = w1.alloc (.cells #[.int .i64 l, .int .i64 r] 112) := ⟨_, rfl⟩
  have hbw1 : Below w.heap.size w W1 := by rw [hW1]; exact hb1.alloc hb1.size _
  have hlk : (Instr.lookup 79 (.map (some b)) (.agg #[.int .i64 l, .int .i64 r]) false).run Tryz.prog (w1.alloc (.cells #[.int .i64 l, .int .i64 r] 112)) = .ok (.agg #[.slice ga gn gc, .bool hh, .int .i64 (fl j)]) (w1.alloc (.cells #[.int .i64 l, .int .i64 r] 112)) := by
    have k := (H.out.below hbw1).map.look_hit hj
    rw [hkv, hgj, ← hhh, hW1] at k
    exact k
  obtain ⟨x, hx⟩ : ∃ x, x = fl j + if u < v then 1 else -1 := ⟨_, rfl⟩
  obtain ⟨X, hX⟩ : ∃ X, X = (w1.alloc (.cells #[.int .i64 l, .int .i64 r] 112)).alloc (.cells #[.slice ga gn gc, .bool hh, .int .i64 x] 115) := ⟨_, rfl⟩
  have hbX : Below w.heap.size w X := by rw [hX, ← hW1]; exact hbw1.alloc hbw1.size _
  obtain ⟨Y, hput, hF, hO⟩ := (H.out.below hbX).put hj x
  rw [hkv, hgj, ← hhh, hX] at hput
  have HF := Lib.hid hF
  have HO : Hid (Only b w Y) := ⟨hO.os.trans hbX.os, hO.tape.trans hbX.tape, hO.output.trans hbX.output, Nat.le_trans hbX.size hO.size, fun k hkk hne => (hO.block k (Nat.lt_of_lt_of_le hkk hbX.size) hne).trans (hbX.block k hkk)⟩
  have HX := Lib.hid hx
  clear hl hr hhh hkv hW1 hbw1 hX hbX hF hO hb1 hgj
  by_cases c : u < v
  · have cz : (u : Int) < (v : Int) := by omega
    have ex : fl j + 1 = x := by rw [HX.out, if_pos c]
    rw [← ex] at hput
    have hx2 : fl j + 1 ≤ 1000001 := by omega
    clear hx ex
    go_wp2_with fail
    exact bodyPost_end (v := .tuple #[]) (by simp [results, Tryz.results101, go_sem]) rfl ⟨rfl, (by have h := HF.out; rw [HX.out, if_pos c] at h; exact h), HO.out⟩
  · have cz : ¬ (u : Int) < (v : Int) := by omega
    have ex : fl j - 1 = x := by rw [HX.out, if_neg c]; omega
    rw [← ex] at hput
    have hx2 : -1000001 ≤ fl j - 1 := by omega
    clear hx ex
    go_wp2_with fail
    exact bodyPost_end (v := .tuple #[]) (by simp [results, Tryz.results101, go_sem]) rfl ⟨rfl, (by have h := HF.out; rw [HX.out, if_neg c] at h; exact h), HO.out⟩
set_option maxRecDepth 100000 in
set_option maxHeartbeats 2000000 in
theorem firstWay_any (a : Option Addr) (m cap : Nat) (f : Nat → Int) (g pl : Nat) (nx : Nat → Int) (w : World) (h : IsAt a m f w) (hg : IsBlk 2 g pl nx w) (hm : m ≤ 1000) (hf : ∀ i, i < m → 0 ≤ f i ∧ f i < pl) (_hpl : pl ≤ 1000) :
    Calls Tryz.prog 84 #[.slice a m cap, .slice (some ⟨g, 0, none⟩) pl pl] w fun e w' => ((∃ i, i < m ∧ nx (f i).toNat ≠ -1 ∧ e = .returned (.tuple #[.int .i64 (f i), .bool true])) ∨ ((∀ i, i < m → nx (f i).toNat = -1) ∧ e = .returned (.tuple #[.int .i64 (-1), .bool false]))) ∧ w' = w := by
  have H := Lib.hid h
  have HG := Lib.hid hg
  have HF := Lib.hid hf
  clear h hg hf
  go_enter Tryz.func84, Tryz.ntmps84
  go_wp2_with fail
  go_loopw [10] (fun iv wr => ∃ (i : Nat), i ≤ m ∧ iv = .int .i64 i ∧ wr = w ∧ Hid (∀ j, j < i → nx (f j).toNat = -1)) (fun iv _ => m - (intOf iv).toNat)
  case atStart => exact ⟨0, Nat.zero_le _, rfl, rfl, fun j hj => absurd hj (Nat.not_lt_zero _)⟩
  case round =>
    obtain ⟨i, hi, rfl, rfl, hP⟩ := hrel
    by_cases hlt : i < m
    · have hltz : (i : Int) < (m : Int) := by omega
      obtain ⟨b, e, c0⟩ := H.out.at1 hlt
      subst e
      have hr := HF.out i hlt
      obtain ⟨q, hq⟩ : ∃ q : Nat, f i = (q : Int) := ⟨(f i).toNat, by omega⟩
      rw [hq] at c0 hr
      have hqz : (q : Int) < (pl : Int) := hr.2
      have c1 := HG.out.cell (i := q) (by omega)
      have HQ := Lib.hid hq
      by_cases c : nx q = -1
      · have c' : (nx q != -1) = false := by simp [c]
        have HC : Hid (nx (f i).toNat = -1) := by show _ = _; rw [hq, Int.toNat_natCast]; exact c
        clear c hq hr
        go_wp2_with fail
        go_roundw
        case rel => exact ⟨i + 1, by omega, by go_num, by trivial, fun j hj => by
          by_cases e : j = i
          · subst e; exact HC.out
          · exact hP.out j (by omega)⟩
        case measure => simp [intOf]; omega
      · have c' : (nx q != -1) = true := by simp [c]
        have HC : Hid (nx (f i).toNat ≠ -1) := by show _ ≠ _; rw [hq, Int.toNat_natCast]; exact c
        clear c hq hr
        go_wp2_with fail
        exact bodyPost_ret (v := .tuple #[.int .i64 q, .bool true]) (by simp only [results, Tryz.results84]; simp [go_sem]) rfl ⟨Or.inl ⟨i, hlt, HC.out, by rw [HQ.out]⟩, rfl⟩
    · obtain rfl : i = m := by omega
      go_wp2_with fail
      exact bodyPost_ret (v := .tuple #[.int .i64 (-1), .bool false]) (by simp only [results, Tryz.results84]; simp [go_sem]) rfl ⟨Or.inr ⟨hP.out, rfl⟩, rfl⟩
/-- How many ways a bundle carries, by what goes between its places. -/
theorem fl_near {cnt : Nat} {kf : Nat → Int × Int} {fl fl' : Nat → Int} {n : Nat} (hinj : ∀ i j, i < cnt → j < cnt → kf i = kf j → i = j) (hko : KeysOk cnt kf n) (h : ∀ a b, Fl.FB cnt kf fl a b - 1 ≤ Fl.FB cnt kf fl' a b ∧ Fl.FB cnt kf fl' a b ≤ Fl.FB cnt kf fl a b + 1) {j : Nat} (hj : j < cnt) : fl j - 1 ≤ fl' j ∧ fl' j ≤ fl j + 1 := by
  have hk := hko j hj
  obtain ⟨a, ha⟩ : ∃ a : Nat, (kf j).1 = (a : Int) := ⟨(kf j).1.toNat, by omega⟩
  obtain ⟨c, hc⟩ : ∃ c : Nat, (kf j).2 = (c : Int) := ⟨(kf j).2.toNat, by omega⟩
  have hac : a < c := by omega
  have e : kf j = (Pl.lo (a : Int) (c : Int), Pl.hi (a : Int) (c : Int)) := by
    have e1 : Pl.lo (a : Int) (c : Int) = (a : Int) := by unfold Pl.lo; split <;> omega
    have e2 : Pl.hi (a : Int) (c : Int) = (c : Int) := by unfold Pl.hi; split <;> omega
    rw [e1, e2, ← ha, ← hc]
  have h1 := h a c
  rw [Fl.FB_at hinj (by omega) hj e, Fl.FB_at hinj (by omega) hj e] at h1
  unfold dirF at h1
  have : ¬ (c : Int) < (a : Int) := by omega
  rw [if_neg this, if_neg this] at h1
  exact h1
/-- What stands while a way is taken. -/
structure TkS (p : Pl.Plan) (sh : Nat → Prop) (b cnt : Nat) (kf : Nat → Int × Int) (gv : Nat → Value) (fl : Nat → Int) (B t g : Nat) (nx : Nat → Int) (rk : Nat → Nat) (k : Int) (w : World) (x : Nat) (W : World) : Prop where
  st : ∃ fl1, LayF p sh b cnt kf gv fl1 B W ∧ Fl.AugF p.hn (Fl.cc p) (Fl.hh p) (Fl.isSrc p) t (Fl.FB cnt kf fl) nx rk (Fl.FB cnt kf fl1) x k
  nxb : IsBlk 2 g p.hn nx W
  only : Only b w W
set_option maxRecDepth 100000 in
set_option maxHeartbeats 4000000 in
theorem take_any {p : Pl.Plan} {sh : Nat → Prop} {b cnt : Nat} {kf : Nat → Int × Int} {gv : Nat → Value} {fl : Nat → Int} {B : Nat} (hr : Pl.Right p) (hs : ∀ i, ¬ sh i) (t g s : Nat) (nx : Nat → Int) (k K : Int) (w : World) (h : LayF p sh b cnt kf gv fl B w) (hg : IsBlk 2 g p.hn nx w) (hgb : g ≠ b)
    (hfl : ∀ j, j < cnt → -K ≤ fl j ∧ fl j ≤ K) (hK : K ≤ 900000) (hflow : Fl.Flow p.hn (Fl.cc p) (Fl.hh p) (Fl.isSrc p) t (Fl.FB cnt kf fl) k) (hts : ¬ Fl.isSrc p t)
    (hF : Found p.hn (fun v => v = t) (RoomR cnt kf (fun j => (Pl.goodL p sh p.rn (kf j)).length) (fun j => Pl.heldB p sh p.rn (kf j)) fl) nx) (hss : Fl.isSrc p s) (hsn : s < p.hn) (hsx : nx s ≠ -1) :
    Calls Tryz.prog 86 #[.map (some b), .slice (some ⟨g, 0, none⟩) p.hn p.hn, .int .i64 s] w fun e w' => e = .returned (.tuple #[]) ∧ (∃ fl', LayF p sh b cnt kf gv fl' B w' ∧ Fl.Flow p.hn (Fl.cc p) (Fl.hh p) (Fl.isSrc p) t (Fl.FB cnt kf fl') (k + 1) ∧ ∀ j, j < cnt → -(K + 1) ≤ fl' j ∧ fl' j ≤ K + 1) ∧ Only b w w' := by
  have hinj := h.map.inj
  have hko := h.keys hr
  have hall : ∀ i, i < p.rn → ∃ j, j < cnt ∧ kf j = Pl.key p i := fun i hi => h.all i hi (hs i)
  have hR : ∀ a c, a < p.hn → c < p.hn → (RoomR cnt kf (fun j => (Pl.goodL p sh p.rn (kf j)).length) (fun j => Pl.heldB p sh p.rn (kf j)) fl a c ↔ Fl.Room (Fl.cc p) (Fl.hh p) (Fl.FB cnt kf fl) a c) := fun a c _ _ => Fl.roomB_iff hr hs hinj hko hall a c
  obtain ⟨rk, hst⟩ := Fl.found_steps hR hF
  have HST := Lib.hid hst
  have HRNG := Lib.hid hF.rng
  have H0 : Hid (TkS p sh b cnt kf gv fl B t g nx rk k w s w) := ⟨⟨fl, h, Fl.AugF.start hflow hts hss hsn hsx⟩, hg, Only.refl _ _⟩
  have HINJ := Lib.hid hinj
  have HKO := Lib.hid hko
  have HALL := Lib.hid hall
  have HFL := Lib.hid hfl
  have HTS := Lib.hid hts
  clear h hg hfl hflow hF hinj hko hall hR hst hss hsx hts
  go_enter Tryz.func86, Tryz.ntmps86
  go_wp2_with fail
  refine wp_scope_label 0 (fun a' w' => ∃ (x : Nat) (u6 u7 u8 u9 u10 u11 u12 u13 u14 u15 u16 u17 u18 : Value), a' = { tmps := #[.map (some b), .slice (some ⟨g, 0, none⟩) p.hn p.hn, .int .i64 x, undef, undef, undef, u6, u7, u8, u9, u10, u11, u12, u13, u14, u15, u16, u17, u18], defers := [] } ∧ Hid (TkS p sh b cnt kf gv fl B t g nx rk k w x w')) (fun a' _ => rk (intOf (a'.tmps.getD 2 undef)).toNat) rfl ?_ ?_
  · intro Q' hQ
    go_wp2_with fail
    go_step3
    rename_i hK0
    refine hK0 _ _ (hQ _ _ ⟨s, _, _, _, _, _, _, _, _, _, _, _, _, _, rfl, H0⟩)
  · rintro a' W1 ⟨x, u6, u7, u8, u9, u10, u11, u12, u13, u14, u15, u16, u17, u18, rfl, hW⟩
    obtain ⟨fl1, hL, hA⟩ := hW.out.st
    have hxn := hA.lt
    have hrx := hA.reach
    obtain ⟨y, hy⟩ : ∃ y : Nat, nx x = (y : Int) := by
      rcases HRNG.out x hxn with z | z
      · exact absurd z hrx
      · exact ⟨(nx x).toNat, by omega⟩
    have hyn : y < p.hn := by
      rcases HRNG.out x hxn with z | z
      · exact absurd z hrx
      · omega
    have c0 := hW.out.nxb.cell hxn
    rw [hy] at c0
    have hxz : (x : Int) < (p.hn : Int) := by omega
    by_cases e : y = x
    · have e' : ((y : Int) == (x : Int)) = true := by simp [e]
      have hxt : x = t := by
        rcases HST.out x hxn hrx with ⟨q, _⟩ | ⟨_, _, q⟩
        · exact q
        · rw [hy, e, Int.toNat_natCast] at q; omega
      have HFIN : Hid (∃ fl', LayF p sh b cnt kf gv fl' B W1 ∧ Fl.Flow p.hn (Fl.cc p) (Fl.hh p) (Fl.isSrc p) t (Fl.FB cnt kf fl') (k + 1) ∧ ∀ j, j < cnt → -(K + 1) ≤ fl' j ∧ fl' j ≤ K + 1) := by
        rw [hxt] at hA
        refine ⟨fl1, hL, hA.stop HTS.out, fun j hj => ?_⟩
        have h1 := fl_near HINJ.out HKO.out hA.near hj
        have h2 := HFL.out j hj
        omega
      have HON := Lib.hid hW.out.only
      clear hL hA hW e hxt hy hrx
      go_wp2_with fail
      simp only [Exit.jump]
      exact bodyPost_ret (v := .tuple #[]) (by simp [results, Tryz.results86, go_sem]) rfl ⟨rfl, HFIN.out, HON.out⟩
    · have e' : ((y : Int) == (x : Int)) = false := by simp; omega
      obtain ⟨hA2, hrk, hroom⟩ := hA.step HST.out hy hyn e
      obtain ⟨j, hj, hkj, _⟩ := (Fl.roomB_iff hr hs HINJ.out HKO.out HALL.out x y (fl := fl1)).2 hroom
      have hn1 := fl_near HINJ.out HKO.out hA.near hj
      have hn2 := HFL.out j hj
      have hb2 : Fl.FB cnt kf (updI fl1 j (fl1 j + if x < y then 1 else -1)) = Fl.bump (Fl.FB cnt kf fl1) x y := Fl.FB_bump HINJ.out (Ne.symm e) hj hkj
      rw [← hb2] at hA2
      have HA2 := Lib.hid hA2
      have HRK := Lib.hid hrk
      have HL := Lib.hid hL
      have HNX := Lib.hid hW.out.nxb
      have HON := Lib.hid hW.out.only
      have HKJ := Lib.hid hkj
      clear hA2 hrk hroom hb2 hA hL hW e hy hrx hkj
      go_wp2_with fail
      refine (pass_any x y j _ HL.out hj HKJ.out (by omega) (by omega)).mono ?_
      rintro e W2 ⟨rfl, hL2, hO2⟩
      have HT2 : Hid (TkS p sh b cnt kf gv fl B t g nx rk k w y W2) := ⟨⟨_, hL2, HA2.out⟩, HNX.out.block (hO2.block _ HNX.out.lt hgb), ⟨hO2.os.trans HON.out.os, hO2.tape.trans HON.out.tape, hO2.output.trans HON.out.output, Nat.le_trans HON.out.size hO2.size, fun q h1 h2 => (hO2.block q (Nat.lt_of_lt_of_le h1 HON.out.size) h2).trans (HON.out.block q h1 h2)⟩⟩
      clear hL2 hO2 HL HNX HON HA2
      go_wp2_with fail
      go_step3
      exact ⟨rfl, ⟨y, _, _, _, _, _, _, _, _, _, _, _, _, _, rfl, HT2⟩, by simpa [intOf] using HRK.out⟩
end Go.Proofs.YtipmjobhegpdgaaGreatDoor
