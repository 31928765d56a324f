/-
  What a block leans on: the model's.
-/
import Derived.Test.YtiaeobocenanlaaPgUi
namespace Go.Proofs.Ytiaeobocenanlaa
open Go.RowKit Go.Deep

/-- The model's marks: below the block as the program's. -/
structure SuS (p : Pg.Prog) (la : Option Addr) (lk : Nat) (fa : Option Addr) (fk : Nat) (wa : Option Addr) (wk : Nat) (g n : Nat) (u : Nat → Bool) (w W : World) : Prop where
  box : W.rowIs w.heap.size 32 3 (rowN (pgL p la lk fa fk wa wk))
  bo : ∃ v, BoBlk g p.bn v W ∧ (∀ j, j < n → v j = u j) ∧ v n = true
  lo : w.heap.size + 1 < g
  old : Below w.heap.size w W
theorem SuS.below {p : Pg.Prog} {la : Option Addr} {lk : Nat} {fa : Option Addr} {fk : Nat} {wa : Option Addr} {wk g n : Nat} {u : Nat → Bool} {w W W' : World} (h : SuS p la lk fa fk wa wk g n u w W) (hb : Below W.heap.size W W') : SuS p la lk fa fk wa wk g n u w W' := by
  obtain ⟨v, h1, h2⟩ := h.bo
  exact ⟨nrow_below h.box hb, ⟨v, h1.below hb, h2⟩, h.lo, h.old.trans (hb.mono h.old.size)⟩
theorem SuS.put {p : Pg.Prog} {la : Option Addr} {lk : Nat} {fa : Option Addr} {fk : Nat} {wa : Option Addr} {wk g n : Nat} {u : Nat → Bool} {w W : World} (h : SuS p la lk fa fk wa wk g n u w W) (i : Nat) : SuS p la lk fa fk wa wk g n (fun j => if j = i then true else u j) w (W.setCell ⟨g, i, none⟩ (.bool true)) := by
  obtain ⟨v, h1, h2⟩ := h.bo
  have hl := h.lo
  refine ⟨nrow_set h.box (p := ⟨g, i, none⟩) (by show w.heap.size ≠ g; omega) _, ⟨_, h1.set i true, fun j hj => ?_, ?_⟩, h.lo, h.old.setCell (p := ⟨g, i, none⟩) (by show w.heap.size ≤ g; omega) _⟩
  · by_cases e : j = i
    · simp [e]
    · simp [e, h2.1 j hj]
  · by_cases e : n = i
    · simp [e]
    · simp [e, h2.2]
theorem SuS.congr {p : Pg.Prog} {la : Option Addr} {lk : Nat} {fa : Option Addr} {fk : Nat} {wa : Option Addr} {wk g n : Nat} {u v : Nat → Bool} {w W : World} (h : SuS p la lk fa fk wa wk g n u w W) (e : ∀ j, j < n → u j = v j) : SuS p la lk fa fk wa wk g n v w W := by
  obtain ⟨q, h1, h2⟩ := h.bo
  exact ⟨h.box, ⟨q, h1, fun j hj => (h2.1 j hj).trans (e j hj), h2.2⟩, h.lo, h.old⟩
/-- The marks when so many places, from the block itself down, are gone through. -/
def Pg.runS (B : Nat → Pg.Bk) (n : Nat) : Nat → Nat → Bool
  | 0 => fun _ => false
  | k + 1 => Pg.runU B n k
/-- Is the place gone on from? -/
def Pg.seen (B : Nat → Pg.Bk) (n k : Nat) : Bool := if k = 0 then true else Pg.runU B n (k - 1) (n - k)
theorem Pg.runS_yes {B : Nat → Pg.Bk} {n k : Nat} (hk : k ≤ n) (h : Pg.seen B n k = true) : Pg.runS B n (k + 1) = Pg.upU (B (n - k)) (Pg.runS B n k) := by
  match k, hk, h with
  | 0, _, _ => rfl
  | k + 1, hk, h =>
    have h2 : Pg.runU B n k (n - 1 - k) = true := by
      unfold Pg.seen at h
      rw [if_neg (by omega)] at h
      have e : n - (k + 1) = n - 1 - k := by omega
      simpa [e] using h
    show Pg.runU B n (k + 1) = _
    rw [Pg.runU_yes h2, show n - (k + 1) = n - 1 - k by omega]
    rfl
theorem Pg.runS_no {B : Nat → Pg.Bk} {n k : Nat} (h : Pg.seen B n k = false) : Pg.runS B n (k + 1) = Pg.runS B n k := by
  match k, h with
  | 0, h => simp [Pg.seen] at h
  | k + 1, h =>
    have h2 : Pg.runU B n k (n - 1 - k) = false := by
      unfold Pg.seen at h
      rw [if_neg (by omega)] at h
      have e : n - (k + 1) = n - 1 - k := by omega
      simpa [e] using h
    show Pg.runU B n (k + 1) = _
    rw [Pg.runU_no h2]
    rfl
theorem SuS.at_ {p : Pg.Prog} {la : Option Addr} {lk : Nat} {fa : Option Addr} {fk : Nat} {wa : Option Addr} {wk g n : Nat} {u : Nat → Bool} {w W : World} (h : SuS p la lk fa fk wa wk g n u w W) {i : Nat} (hi : i < n) (hn : n ≤ p.bn) : W.cell? ⟨g, i, none⟩ = some (.bool (u i)) := by
  obtain ⟨v, h1, h2⟩ := h.bo
  rw [h1.at_ (by omega), h2.1 i hi]
theorem SuS.any_ {p : Pg.Prog} {la : Option Addr} {lk : Nat} {fa : Option Addr} {fk : Nat} {wa : Option Addr} {wk g n : Nat} {u : Nat → Bool} {w W : World} (h : SuS p la lk fa fk wa wk g n u w W) {i : Nat} (hi : i < p.bn) : ∃ b, W.cell? ⟨g, i, none⟩ = some (.bool b) := by
  obtain ⟨v, h1, _⟩ := h.bo
  exact ⟨_, h1.at_ hi⟩
theorem SuS.fr {p : Pg.Prog} {la : Option Addr} {lk : Nat} {fa : Option Addr} {fk : Nat} {wa : Option Addr} {wk g n : Nat} {u : Nat → Bool} {w W : World} (h : SuS p la lk fa fk wa wk g n u w W) (i : Nat) : W.frozen? ⟨g, i, none⟩ = false := by
  obtain ⟨v, h1, _⟩ := h.bo
  exact h1.fr i
theorem SuS.glt {p : Pg.Prog} {la : Option Addr} {lk : Nat} {fa : Option Addr} {fk : Nat} {wa : Option Addr} {wk g n : Nat} {u : Nat → Bool} {w W : World} (h : SuS p la lk fa fk wa wk g n u w W) : g < W.heap.size := by
  obtain ⟨v, h1, _⟩ := h.bo
  exact h1.lt'
theorem SuS.see {p : Pg.Prog} {la : Option Addr} {lk : Nat} {fa : Option Addr} {fk : Nat} {wa : Option Addr} {wk g n k : Nat} {w W : World} (h : SuS p la lk fa fk wa wk g n (Pg.runS p.B n k) w W) (hn : n < p.bn) (hk : k ≤ n) : W.cell? ⟨g, n - k, none⟩ = some (.bool (Pg.seen p.B n k)) := by
  obtain ⟨v, h1, h2⟩ := h.bo
  rw [h1.at_ (by omega)]
  by_cases e : k = 0
  · subst e
    simp [Pg.seen, h2.2]
  · obtain ⟨m, rfl⟩ : ∃ m, k = m + 1 := ⟨k - 1, by omega⟩
    rw [h2.1 _ (by omega)]
    rfl
theorem ug_typ {B n s : Nat} {t : TypeId} {v : Value} {xs : List Value} {W : World} (h : W.ownsRow B t s v n xs) {g : Nat} (hg : v.ownBlock = some g) : ∃ cur, W.heap[g]? = some (.cells cur t (0, 0)) := by
  rcases h.2 with h2 | ⟨g', cap, cur, e, _, h3, _⟩
  · rw [h2.1] at hg; cases hg
  · rw [e] at hg
    have : g' = g := by simpa [Value.ownBlock] using hg
    subst this
    exact ⟨cur, h3⟩
theorem ug_set {B n : Nat} {t : TypeId} {a : Addr} {c : Nat} {xs : List Value} {W : World} {q : Addr} (h : W.ownsRow B t 1 (.slice (some a) n c) n xs) (hq : a.block ≠ q.block) (v : Value) : (W.setCell q v).ownsRow B t 1 (.slice (some a) n c) n xs := by
  refine ⟨h.1, ?_⟩
  rcases h.2 with h2 | ⟨g, cap, cur, e1, e2, e3, e4, e5, e6, e7⟩
  · exact Or.inl h2
  · refine Or.inr ⟨g, cap, cur, e1, e2, ?_, e4, e5, e6, e7⟩
    have hg : a.block = g := by
      injection e1 with e8
      injection e8 with e9
      rw [e9]
    rw [Below.heap_setCell _ _ _ _ (by rw [← hg]; exact hq)]
    exact e3
theorem SuS.grown {p : Pg.Prog} {la : Option Addr} {lk : Nat} {fa : Option Addr} {fk : Nat} {wa : Option Addr} {wk g n m : Nat} {u : Nat → Bool} {w W W' : World} {v : Value} {xs : List Value} (h : SuS p la lk fa fk wa wk g n u w W) (ho : W.ownsRow w.heap.size 2 1 v m xs) (hg : W.grownBy W' v.ownBlock) : SuS p la lk fa fk wa wk g n u w W' := by
  obtain ⟨q, h1, h2⟩ := h.bo
  have nb : ∀ k t N F, t ≠ 2 → W.rowIs k t N F → some k ≠ v.ownBlock := fun k t N F hne hr e => by
    obtain ⟨cur, hc⟩ := ug_typ ho e.symm
    obtain ⟨c2, h3, _⟩ := hr
    rw [hc] at h3
    simp at h3
    exact hne h3.2.symm
  refine ⟨h.box.of_block (hg.block _ h.box.lt (nb _ _ _ _ (by decide) h.box)), ⟨q, h1.block (hg.block _ h1.lt' (nb _ _ _ _ (by decide) h1)), h2⟩, h.lo, ?_⟩
  exact h.old.grown hg h.old.size (fun k e => (ho.lt k e).1)
set_option maxRecDepth 100000 in
set_option maxHeartbeats 8000000 in
theorem specUses_any (p : Pg.Prog) (la : Option Addr) (lk : Nat) (fa : Option Addr) (fk : Nat) (wa : Option Addr) (wk : Nat) (z : Int) (w : World) (h : PgAt p la fa wa w) (hs : PgSmall p) :
    Calls Try.prog 13 #[pgV p la lk fa fk wa wk, .int .i64 z] w fun e w' => UgEnd (Pg.uses p z) w e w' ∧ Below w.heap.size w w' := by
  obtain ⟨i1, hi1, hy0, hy1, hy2⟩ := info_parts uginfo
  have HPI := Lib.hid (And.intro hi1 (And.intro hy0 (And.intro hy1 hy2)))
  obtain ⟨W, hW⟩ : ∃ W, W = (w.alloc (.cells #[.slice la p.bn lk, .slice fa p.on fk, .slice wa p.nn wk] 32)).alloc (.cells #[] 2) := ⟨_, rfl⟩
  have S0 : SpB p la lk fa fk wa wk w W := by rw [hW]; exact ⟨nrow_below (rowN_alloc w _ _) (nbel_alloc _ _), (nbel_alloc _ _).alloc (by simp) _⟩
  have OW : Hid (W.ownsRow w.heap.size 2 1 (.slice (some ⟨w.heap.size + 1, 0, none⟩) 0 0) 0 (ugV [])) := by
    refine ⟨by simp [ugV], Or.inr ⟨w.heap.size + 1, 0, #[], rfl, by omega, ?_, by omega, by omega, by simp, by simp [ugV]⟩⟩
    rw [hW]
    have := blk_alloc_new (w.alloc (.cells #[.slice la p.bn lk, .slice fa p.on fk, .slice wa p.nn wk] 32)) (.cells #[] 2)
    simpa using this
  have H := Lib.hid h
  have HS := Lib.hid hs
  have hb1 : p.bn ≤ 1048576 := hs.1.1
  have HW := Lib.hid hW
  have HS0 := Lib.hid S0
  have HL1 : Hid (w.heap.size + 1 < W.heap.size) := by show _ < _; rw [hW]; simp
  clear h hs hW S0 hi1 hy0 hy1 hy2
  go_enter Try.func13, Try.ntmps13
  go_wp2_with fail
  rw [← HW.out]
  refine (specPRight_any p la lk fa fk wa wk _ (H.out.below HS0.out.old) HS.out).mono ?_
  rintro e w1 ⟨rfl, hb⟩
  have S1 := Lib.hid (HS0.out.below hb)
  have OW1 : Hid (w1.ownsRow w.heap.size 2 1 (.slice (some ⟨w.heap.size + 1, 0, none⟩) 0 0) 0 (ugV [])) := by
    have := OW.out
    refine ⟨this.1, ?_⟩
    rcases this.2 with h2 | ⟨g, cap, cur, e1, e2, e3, e4, e5, e6, e7⟩
    · exact Or.inl h2
    · exact Or.inr ⟨g, cap, cur, e1, e2, (hb.block g (Array.getElem?_eq_some_iff.1 e3).1).trans e3, e4, e5, e6, e7⟩
  have HL2 : Hid (w.heap.size + 1 < w1.heap.size) := Nat.lt_of_lt_of_le HL1.out hb.size
  clear hb HS0 OW HL1
  by_cases k : Pg.Right p
  · rw [dB_tt k]
    have HR := Lib.hid k
    clear k
    obtain ⟨⟨x0, x1, x2⟩, _⟩ := rowN3 S1.out.box
    by_cases z1 : z < 0
    · have HE : Hid (Pg.uses p z = []) := Pg.uses_no (fun q => by have := q.2.1; omega)
      have HU : Hid (UgEnd (Pg.uses p z) w (.returned (.slice (some ⟨w.heap.size + 1, 0, none⟩) 0 0)) w1) := ⟨_, rfl, by rw [HE.out]; exact OW1.out⟩
      go_wp2_with fail
      go_ret
      exact ⟨HU.out, S1.out.old⟩
    · by_cases z2 : (p.bn : Int) ≤ z
      · have HE : Hid (Pg.uses p z = []) := Pg.uses_no (fun q => by have := q.2.2; omega)
        have HU : Hid (UgEnd (Pg.uses p z) w (.returned (.slice (some ⟨w.heap.size + 1, 0, none⟩) 0 0)) w1) := ⟨_, rfl, by rw [HE.out]; exact OW1.out⟩
        go_wp2_with fail
        go_ret
        exact ⟨HU.out, S1.out.old⟩
      · obtain ⟨n, hn⟩ : ∃ n : Nat, (n : Int) = z := ⟨z.toNat, by omega⟩
        have hnb : n < p.bn := by omega
        have HE : Hid (Pg.uses p z = Pg.mkL (Pg.runU p.B n n) n) := by show _ = _; rw [← hn]; exact Pg.uses_yes HR.out hnb
        subst hn
        have hnz : (n : Int) < (p.bn : Int) := by omega
        have hmk := run_make_row' (P := Try.prog) 57 4 (.bool false) 1 Try.underlying57 boinfo rfl .i64 .i64 p.bn (by omega) (by omega)
        have hxl := S1.out.box.lt
        obtain ⟨V, hV⟩ : ∃ V, V = (w1.alloc (.cells (madeCells #[.bool false] p.bn) 4)) := ⟨_, rfl⟩
        have RB : BoBlk w1.heap.size p.bn (fun _ => false) V := by rw [hV]; exact World.rowIs_made w1 (.bool false) p.bn 4
        have gc := RB.at_ hnb
        have gf := RB.fr n
        have gl := RB.lt'
        have S2 : Hid (SuS p la lk fa fk wa wk w1.heap.size n (Pg.runS p.B n 0) w (V.setCell ⟨w1.heap.size, n, none⟩ (.bool true))) := by
          have hl := HL2.out
          have hVo : Below w.heap.size w V := by rw [hV]; exact S1.out.old.alloc S1.out.old.size _
          refine ⟨nrow_set (by rw [hV]; exact nrow_below S1.out.box (nbel_alloc _ _)) (p := ⟨w1.heap.size, n, none⟩) (by show w.heap.size ≠ w1.heap.size; omega) _, ⟨_, RB.set n true, fun j hj => ?_, by simp⟩, hl, hVo.setCell (p := ⟨w1.heap.size, n, none⟩) (by show w.heap.size ≤ w1.heap.size; omega) _⟩
          simp [show ¬ j = n by omega, Pg.runS]
        have OW2 : Hid ((V.setCell ⟨w1.heap.size, n, none⟩ (.bool true)).ownsRow w.heap.size 2 1 (.slice (some ⟨w.heap.size + 1, 0, none⟩) 0 0) 0 (ugV [])) := by
          have hl := HL2.out
          have := OW1.out
          refine ⟨this.1, ?_⟩
          rcases this.2 with h2 | ⟨g, cap, cur, e1, e2, e3, e4, e5, e6, e7⟩
          · exact Or.inl h2
          · refine Or.inr ⟨g, cap, cur, e1, e2, ?_, e4, e5, e6, e7⟩
            have hg : g = w.heap.size + 1 := by
              injection e1 with e8
              injection e8 with e9
              injection e9 with e10
              exact e10.symm
            rw [Below.heap_setCell _ _ _ _ (by show g ≠ w1.heap.size; omega), hV]
            exact ((nbel_alloc w1 _).block g (by omega)).trans e3
        have HV := Lib.hid hV
        have y1 : ¬ (n : Int) < 0 := by omega
        have y2 : ¬ (p.bn : Int) ≤ (n : Int) := by omega
        have y3 : decide (p.bn ≤ n) = false := by simp; omega
        have y4 : decide ((n : Int) < 0) = false := by simp
        clear z1 z2 hV S1 RB OW1
        rw [HV.out] at gc gf gl S2 OW2
        clear HV
        go_wp2_with fail
        clear x0 x1 x2 gc gf gl hmk hxl y1 y2 y3 y4
        go_loopw [7] (fun iv wr => ∃ (k : Nat), k ≤ n + 1 ∧ iv = .int .i64 ((n : Int) - k) ∧ Hid (SuS p la lk fa fk wa wk w1.heap.size n (Pg.runS p.B n k) w wr) ∧ Hid (wr.ownsRow w.heap.size 2 1 (.slice (some ⟨w.heap.size + 1, 0, none⟩) 0 0) 0 (ugV []))) (fun iv _ => (intOf iv + 1).toNat)
        case atStart => exact ⟨0, Nat.zero_le _, by simp, by rw [← World.setCell_alloc_new]; exact S2, by rw [← World.setCell_alloc_new]; exact OW2⟩
        case round =>
          obtain ⟨k, hk, rfl, hS, hO⟩ := hrel
          clear S2 OW2
          by_cases hlt : k ≤ n
          · obtain ⟨m, hm⟩ : ∃ m : Nat, m = n - k := ⟨_, rfl⟩
            have em : ((n : Int) - k) = (m : Int) := by omega
            have hmn : m ≤ n := by omega
            have hmb : m < p.bn := by omega
            have hmbz : (m : Int) < (p.bn : Int) := by omega
            have cn := hS.out.see hnb hlt
            rw [← hm] at cn
            have HY : Hid (Pg.seen p.B n k = true → Pg.runS p.B n (k + 1) = Pg.upU (p.B m) (Pg.runS p.B n k)) := fun q => by rw [hm]; exact Pg.runS_yes hlt q
            have HNO : Hid (Pg.seen p.B n k = false → Pg.runS p.B n (k + 1) = Pg.runS p.B n k) := fun q => Pg.runS_no q
            have HEM : Hid ((m : Int) = (n : Int) - k) := em.symm
            rw [em]
            clear hm em
            obtain ⟨⟨x0, x1, x2⟩, _⟩ := rowN3 hS.out.box
            obtain ⟨b, eb, c0, c1, c2, c3⟩ := (H.out.l.below hS.out.old).at_ hmb
            subst eb
            have hbl : b < wr.heap.size := World.block_lt_of_cell? _ _ c0
            have hxl := hS.out.box.lt
            have hgl := hS.out.glt
            obtain ⟨X, hX⟩ : ∃ X, X = p.B m := ⟨_, rfl⟩
            have HA : Hid (Pg.fp0 X.kind = 1 → 0 ≤ X.a ∧ X.a < m) := fun q => by rw [hX] at q ⊢; exact Pg.right_a HR.out hmb q
            have HBB : Hid (Pg.fp1 X.kind = 1 → 0 ≤ X.b ∧ X.b < m) := fun q => by rw [hX] at q ⊢; exact Pg.right_b HR.out hmb q
            have HF0 : Hid (Pg.fp0 X.kind = 1 ↔ ¬ (X.kind = 1 ∨ X.kind = 5)) := by show _ ↔ _; rw [hX]; exact Pg.fp0_iff HR.out hmb
            rw [← hX] at c0 c1 c2 c3 HY
            clear hX
            have HAL : Hid (∀ W', SuS p (some ⟨b, 0, none⟩) lk fa fk wa wk w1.heap.size n W' w wr → SuS p (some ⟨b, 0, none⟩) lk fa fk wa wk w1.heap.size n W' w (wr.alloc (.cells #[.int .i64 X.kind, .string X.name, .int .i64 X.a, .int .i64 X.b] 56))) := fun W' q => q.below (nbel_alloc _ _)
            have HOA : Hid ((wr.alloc (.cells #[.int .i64 X.kind, .string X.name, .int .i64 X.a, .int .i64 X.b] 56)).ownsRow w.heap.size 2 1 (.slice (some ⟨w.heap.size + 1, 0, none⟩) 0 0) 0 (ugV [])) := hO.out.alloc _
            have HOS : Hid (∀ i v, i < p.bn → (wr.setCell ⟨w1.heap.size, i, none⟩ v).ownsRow w.heap.size 2 1 (.slice (some ⟨w.heap.size + 1, 0, none⟩) 0 0) 0 (ugV [])) := fun i v _ => ug_set hO.out (by show w.heap.size + 1 ≠ w1.heap.size; have := HL2.out; omega) v
            cases hu : Pg.seen p.B n k with
            | false =>
              have HST := Lib.hid (HNO.out hu)
              have S4 : Hid (SuS p (some ⟨b, 0, none⟩) lk fa fk wa wk w1.heap.size n (Pg.runS p.B n (k + 1)) w (wr.alloc (.cells #[.int .i64 X.kind, .string X.name, .int .i64 X.a, .int .i64 X.b] 56))) := by
                show SuS _ _ _ _ _ _ _ _ _ _ _ _
                rw [HST.out]; exact HAL.out _ hS.out
              rw [hu] at cn
              clear hu HAL HOS hS hO
              go_wp2_with fail
              go_roundw
              case rel => exact ⟨k + 1, by omega, by have := HEM.out; congr 1; omega, S4, HOA⟩
              case measure => have := HEM.out; simp [intOf] <;> omega
            | true =>
              have HST := Lib.hid (HY.out hu)
              rw [hu] at cn
              clear hu
              by_cases k1 : X.kind = 1
              · have r1 : (X.kind == 1) = true := by simp [k1]
                have S4 : Hid (SuS p (some ⟨b, 0, none⟩) lk fa fk wa wk w1.heap.size n (Pg.runS p.B n (k + 1)) w (wr.alloc (.cells #[.int .i64 X.kind, .string X.name, .int .i64 X.a, .int .i64 X.b] 56))) := by
                  show SuS _ _ _ _ _ _ _ _ _ _ _ _
                  rw [HST.out, Pg.upU_no (fun q => (HF0.out.1 q) (by omega)) (fun q => by have := (Pg.fp1_iff X.kind).1 q; omega)]
                  exact HAL.out _ hS.out
                clear k1 HAL HOS hS hO HF0 HA HBB
                go_wp2_with fail
                go_roundw
                case rel => exact ⟨k + 1, by omega, by have := HEM.out; congr 1; omega, S4, HOA⟩
                case measure => have := HEM.out; simp [intOf] <;> omega
              · have r1 : (X.kind == 1) = false := by simp [k1]
                by_cases k5 : X.kind = 5
                · have r5 : (X.kind == 5) = true := by simp [k5]
                  have S4 : Hid (SuS p (some ⟨b, 0, none⟩) lk fa fk wa wk w1.heap.size n (Pg.runS p.B n (k + 1)) w (wr.alloc (.cells #[.int .i64 X.kind, .string X.name, .int .i64 X.a, .int .i64 X.b] 56))) := by
                    show SuS _ _ _ _ _ _ _ _ _ _ _ _
                    rw [HST.out, Pg.upU_no (fun q => (HF0.out.1 q) (by omega)) (fun q => by have := (Pg.fp1_iff X.kind).1 q; omega)]
                    exact HAL.out _ hS.out
                  clear k5 HAL HOS hS hO HF0 HA HBB
                  go_wp2_with fail
                  go_roundw
                  case rel => exact ⟨k + 1, by omega, by have := HEM.out; congr 1; omega, S4, HOA⟩
                  case measure => have := HEM.out; simp [intOf] <;> omega
                · have r5 : (X.kind == 5) = false := by simp [k5]
                  have f0 := HF0.out.2 (by omega)
                  obtain ⟨q1, q2⟩ := HA.out f0
                  obtain ⟨a, ha⟩ : ∃ a : Nat, (a : Int) = X.a := ⟨X.a.toNat, by omega⟩
                  have haz : (a : Int) < (p.bn : Int) := by omega
                  have hab : a < p.bn := by omega
                  obtain ⟨ba, ga⟩ := hS.out.any_ hab
                  have gfa := hS.out.fr a
                  by_cases f1 : Pg.fp1 X.kind = 1
                  · obtain ⟨t1, t2⟩ := HBB.out f1
                    obtain ⟨a', ha'⟩ : ∃ a : Nat, (a : Int) = X.b := ⟨X.b.toNat, by omega⟩
                    have haz' : (a' : Int) < (p.bn : Int) := by omega
                    have hab' : a' < p.bn := by omega
                    obtain ⟨ba', ga'⟩ := (hS.out.put a).any_ hab'
                    have gfa' := (hS.out.put a).fr a'
                    have S4 : Hid (SuS p (some ⟨b, 0, none⟩) lk fa fk wa wk w1.heap.size n (Pg.runS p.B n (k + 1)) w (((wr.setCell ⟨w1.heap.size, a, none⟩ (.bool true)).setCell ⟨w1.heap.size, a', none⟩ (.bool true)).alloc (.cells #[.int .i64 X.kind, .string X.name, .int .i64 X.a, .int .i64 X.b] 56))) := by
                      show SuS _ _ _ _ _ _ _ _ _ _ _ _
                      rw [HST.out, Pg.upU_ab f0 f1 q1 t1, show X.b.toNat = a' by omega, show X.a.toNat = a by omega]
                      exact ((hS.out.put a).put a').below (nbel_alloc _ _)
                    have O4 : Hid ((((wr.setCell ⟨w1.heap.size, a, none⟩ (.bool true)).setCell ⟨w1.heap.size, a', none⟩ (.bool true)).alloc (.cells #[.int .i64 X.kind, .string X.name, .int .i64 X.a, .int .i64 X.b] 56)).ownsRow w.heap.size 2 1 (.slice (some ⟨w.heap.size + 1, 0, none⟩) 0 0) 0 (ugV [])) := by
                      refine World.ownsRow.alloc (ug_set (HOS.out a _ hab) (by show w.heap.size + 1 ≠ w1.heap.size; have := HL2.out; omega) _) _
                    have fk := (Pg.fp1_iff X.kind).1 f1
                    rw [← ha] at c2 S4 O4
                    rw [← ha'] at c3 S4 O4
                    have HAS := Lib.hid (And.intro ha ha')
                    clear f0 f1 q1 q2 t1 t2 HA HBB HF0 HAL HOS HOA hS hO HY HNO ha ha' k5 k1
                    rcases fk with fk | fk | fk
                    · have r2 : (X.kind == 2) = true := by simp [fk]
                      clear fk
                      go_wp2_with fail
                      go_roundw
                      case rel => exact ⟨k + 1, by omega, by have := HEM.out; congr 1; omega, S4, O4⟩
                      case measure => have := HEM.out; simp [intOf] <;> omega
                    · have r2 : (X.kind == 2) = false := by simp [fk]
                      have r3 : (X.kind == 3) = true := by simp [fk]
                      clear fk
                      go_wp2_with fail
                      go_roundw
                      case rel => exact ⟨k + 1, by omega, by have := HEM.out; congr 1; omega, S4, O4⟩
                      case measure => have := HEM.out; simp [intOf] <;> omega
                    · have r2 : (X.kind == 2) = false := by simp [fk]
                      have r3 : (X.kind == 3) = false := by simp [fk]
                      have r6 : (X.kind == 6) = true := by simp [fk]
                      clear fk
                      go_wp2_with fail
                      go_roundw
                      case rel => exact ⟨k + 1, by omega, by have := HEM.out; congr 1; omega, S4, O4⟩
                      case measure => have := HEM.out; simp [intOf] <;> omega
                  · have S4 : Hid (SuS p (some ⟨b, 0, none⟩) lk fa fk wa wk w1.heap.size n (Pg.runS p.B n (k + 1)) w ((wr.setCell ⟨w1.heap.size, a, none⟩ (.bool true)).alloc (.cells #[.int .i64 X.kind, .string X.name, .int .i64 X.a, .int .i64 X.b] 56))) := by
                      show SuS _ _ _ _ _ _ _ _ _ _ _ _
                      rw [HST.out, Pg.upU_a f0 f1 q1, show X.a.toNat = a by omega]
                      exact (hS.out.put a).below (nbel_alloc _ _)
                    have O4 : Hid (((wr.setCell ⟨w1.heap.size, a, none⟩ (.bool true)).alloc (.cells #[.int .i64 X.kind, .string X.name, .int .i64 X.a, .int .i64 X.b] 56)).ownsRow w.heap.size 2 1 (.slice (some ⟨w.heap.size + 1, 0, none⟩) 0 0) 0 (ugV [])) := World.ownsRow.alloc (HOS.out a _ hab) _
                    have r2 : (X.kind == 2) = false := by simp; exact fun q => f1 ((Pg.fp1_iff X.kind).2 (Or.inl q))
                    have r3 : (X.kind == 3) = false := by simp; exact fun q => f1 ((Pg.fp1_iff X.kind).2 (Or.inr (Or.inl q)))
                    have r6 : (X.kind == 6) = false := by simp; exact fun q => f1 ((Pg.fp1_iff X.kind).2 (Or.inr (Or.inr q)))
                    rw [← ha] at c2 S4 O4
                    have HAS := Lib.hid ha
                    clear f0 f1 q1 q2 HA HBB HF0 HAL HOS HOA hS hO HY HNO ha k5 k1
                    go_wp2_with fail
                    go_roundw
                    case rel => exact ⟨k + 1, by omega, by have := HEM.out; congr 1; omega, S4, O4⟩
                    case measure => have := HEM.out; simp [intOf] <;> omega
          · obtain rfl : k = n + 1 := by omega
            have e1 : ((n : Int) - ((n + 1 : Nat) : Int)) = -1 := by omega
            rw [e1]
            clear e1
            have S5 : Hid (SuS p la lk fa fk wa wk w1.heap.size n (Pg.runU p.B n n) w wr) := hS.out
            obtain ⟨Q, hQ⟩ : ∃ Q, Q = wr := ⟨_, rfl⟩
            subst hQ
            have O5 : Hid (Q.ownsRow w.heap.size 2 1 (.slice (some ⟨w.heap.size + 1, 0, none⟩) 0 0) (Pg.mkL (Pg.runU p.B n n) 0).length (ugV (Pg.mkL (Pg.runU p.B n n) 0))) := hO.out
            obtain ⟨hi1, hy0, hy1, hy2⟩ := HPI.out
            clear hS hO
            go_wp2_with fail
            go_loopw [5, 9] (fun dv iv wr => ∃ (i : Nat), i ≤ n ∧ iv = .int .i64 i ∧ Hid (wr.ownsRow w.heap.size 2 1 dv (Pg.mkL (Pg.runU p.B n n) i).length (ugV (Pg.mkL (Pg.runU p.B n n) i))) ∧ Hid (SuS p la lk fa fk wa wk w1.heap.size n (Pg.runU p.B n n) w wr)) (fun _ iv _ => n - (intOf iv).toNat)
            case atStart => exact ⟨0, Nat.zero_le _, rfl, O5, S5⟩
            case round =>
              obtain ⟨i, hi, rfl, hO, hS⟩ := hrel
              clear O5 S5
              by_cases hlt2 : i < n
              · have hltz : (i : Int) < (n : Int) := by omega
                have hltz2 : (i : Int) < (p.bn : Int) := by omega
                have cn := hS.out.at_ hlt2 (by omega)
                cases hu : Pg.runU p.B n n i with
                | true =>
                  have HSTEP := Lib.hid (Pg.mkL_yes hu)
                  have hll := Pg.mkL_len (Pg.runU p.B n n) i
                  have hsz := hS.out.old.size
                  rw [hu] at cn
                  clear hu
                  go_wp2_with (at_builtin; refine wpList_append_own _ rfl _ _ 23 rfl w.heap.size 2 i1 _ 1 8 Try.underlying23 hi1 hy0 hy1 hy2 rfl (by decide) _ _ _ rfl (hO.out.alloc _) ⟨wr.heap.size, 0, none⟩ 1 1 [.int .i64 (i : Nat)] rfl rfl ?d1 ?d2 ?d3 ?d4 ?d5 ?_)
                  case d1 =>
                    intro q x hq
                    match q, hq with
                    | 0, hq =>
                      simp at hq
                      subst hq
                      exact (rowN_alloc wr [.int .i64 (i : Nat)] 2).cell (i := 0) (by simp)
                  case d2 =>
                    intro x hx
                    simp at hx
                    subst hx
                    rfl
                  case d3 => unfold maxLen; omega
                  case d4 => omega
                  case d5 => simp; omega
                  intro v5 W5 hown hgrow hnil
                  have HS5 : Hid (SuS p la lk fa fk wa wk w1.heap.size n (Pg.runU p.B n n) w W5) := (hS.out.below (nbel_alloc _ _)).grown (hO.out.alloc _) hgrow
                  have HO5 : Hid (W5.ownsRow w.heap.size 2 1 v5 (Pg.mkL (Pg.runU p.B n n) (i + 1)).length (ugV (Pg.mkL (Pg.runU p.B n n) (i + 1)))) := by
                    show World.ownsRow _ _ _ _ _ _ _
                    rw [HSTEP.out, List.length_append, ugV_app]
                    exact hown
                  clear hown hgrow hnil hO hS cn
                  go_wp2_with fail
                  go_roundw
                  case rel => exact ⟨i + 1, by omega, by go_num, HO5, HS5⟩
                  case measure => simp [intOf]; omega
                | false =>
                  have HSTEP := Lib.hid (Pg.mkL_no hu)
                  rw [hu] at cn
                  clear hu
                  go_wp2_with fail
                  go_roundw
                  case rel => exact ⟨i + 1, by omega, by go_num, by rw [HSTEP.out]; exact hO, hS⟩
                  case measure => simp [intOf]; omega
              · obtain rfl : i = n := by omega
                have HU : Hid (∀ v, wr.ownsRow w.heap.size 2 1 v (Pg.mkL (Pg.runU p.B i i) i).length (ugV (Pg.mkL (Pg.runU p.B i i) i)) → UgEnd (Pg.uses p i) w (.returned v) wr) := fun v hv => ⟨_, rfl, by rw [HE.out]; exact hv⟩
                go_wp2_with fail
                go_ret
                exact ⟨HU.out _ hO.out, hS.out.old⟩
  · rw [dB_ff k]
    have HE : Hid (Pg.uses p z = []) := Pg.uses_no (fun q => k q.1)
    have HU : Hid (UgEnd (Pg.uses p z) w (.returned (.slice (some ⟨w.heap.size + 1, 0, none⟩) 0 0)) w1) := ⟨_, rfl, by rw [HE.out]; exact OW1.out⟩
    clear k
    go_wp2_with fail
    go_ret
    exact ⟨HU.out, S1.out.old⟩
end Go.Proofs.Ytiaeobocenanlaa
