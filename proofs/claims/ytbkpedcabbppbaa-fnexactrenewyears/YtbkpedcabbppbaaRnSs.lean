/-
  An answer that is a list of lists of numbers: its own memory; the laws' comparison and marks of it.
-/
import Derived.Test.YtbkpedcabbppbaaRnEx
import Derived.Test.YtbkpedcabbppbaaMnMem
namespace Go.Proofs.Ytbkpedcabbppbaa
open Go.RowKit Go.Deep

/-- Blocks of a range alone may have changed. -/
structure OnlyR (lo hi : Nat) (w w' : World) : Prop where
  os : w'.os = w.os
  tape : w'.tape = w.tape
  output : w'.output = w.output
  size : w.heap.size ≤ w'.heap.size
  block : ∀ k, k < w.heap.size → ¬ (lo ≤ k ∧ k < hi) → w'.heap[k]? = w.heap[k]?
theorem OnlyR.refl (lo hi : Nat) (w : World) : OnlyR lo hi w w := ⟨rfl, rfl, rfl, Nat.le_refl _, fun _ _ _ => rfl⟩
theorem OnlyR.only {lo hi g : Nat} {w w' w2 : World} (h : OnlyR lo hi w w') (h2 : Only g w' w2) (hg : lo ≤ g ∧ g < hi) : OnlyR lo hi w w2 :=
  ⟨h2.os.trans h.os, h2.tape.trans h.tape, h2.output.trans h.output, Nat.le_trans h.size h2.size, fun k hk hn => (h2.block k (Nat.lt_of_lt_of_le hk h.size) (fun e => hn (by omega))).trans (h.block k hk hn)⟩
theorem OnlyR.below {B lo hi : Nat} {w w' : World} (h : OnlyR lo hi w w') (h1 : B ≤ lo) (h2 : B ≤ w.heap.size) : Below B w w' := ⟨h.os, h.tape, h.output, h.size, fun k hk => h.block k (by omega) (by omega)⟩
theorem isBlk_type {T : TypeId} {g N : Nat} {f : Nat → Int} {W : World} (h : IsBlk T g N f W) : ∃ cur, W.heap[g]? = some (.cells cur T (0, 0)) := by
  obtain ⟨m, F, _, ⟨cur, h1, _⟩, _⟩ := h
  exact ⟨cur, h1⟩
theorem typ_ne {g k : Nat} {t t' : TypeId} {W : World} (h1 : ∃ cur, W.heap[g]? = some (.cells cur t (0, 0))) (h2 : ∃ cur, W.heap[k]? = some (.cells cur t' (0, 0))) (hne : t ≠ t') : g ≠ k := by
  rintro rfl
  obtain ⟨c1, h1⟩ := h1
  obtain ⟨c2, h2⟩ := h2
  rw [h1] at h2
  injection h2 with h2
  injection h2 with _ h2
  exact hne h2
/-- One row of its own. -/
def RwO (B hi N : Nat) (a : Option Addr) (c : Nat) (f : Nat → Int) (W : World) : Prop := (a = none ∧ N = 0 ∧ c = 0) ∨ ∃ b, a = some ⟨b, 0, none⟩ ∧ (B ≤ b ∧ b < hi) ∧ IsBlk 2 b N f W
theorem RwO.same {B hi N c : Nat} {a : Option Addr} {f : Nat → Int} {W W' : World} (h : RwO B hi N a c f W) (hb : ∀ q, B ≤ q → q < hi → q < W.heap.size → W'.heap[q]? = W.heap[q]?) : RwO B hi N a c f W' := by
  rcases h with h | ⟨b, e, h1, h2⟩
  · exact Or.inl h
  · exact Or.inr ⟨b, e, h1, h2.block (hb b h1.1 h1.2 h2.lt)⟩
theorem RwO.at_ {B hi N c : Nat} {a : Option Addr} {f : Nat → Int} {W : World} (h : RwO B hi N a c f W) : IsAt a N f W := by
  rcases h with h | ⟨b, e, h1, h2⟩
  · exact Or.inl h.2.1
  · rw [e]; exact h2.at_
/-- A list of lists of its own. -/
def SsO (B hi n : Nat) (a : Option Addr) (k : Nat) (LN : Nat → Nat) (L : Nat → Nat → Int) (W : World) : Prop :=
  (a = none ∧ n = 0 ∧ k = 0) ∨ ∃ (g : Nat) (aj : Nat → Option Addr) (cj : Nat → Nat), a = some ⟨g, 0, none⟩ ∧ (B ≤ g ∧ g < hi) ∧ (∃ M F, n ≤ M ∧ W.rowIs g 38 M F ∧ ∀ j, j < n → F j = .slice (aj j) (LN j) (cj j)) ∧ (∀ j, j < n → RwO B hi (LN j) (aj j) (cj j) (L j) W) ∧ ∀ i j b, i < n → j < n → aj i = some b → aj j = some b → i = j
theorem SsO.same {B hi n k : Nat} {a : Option Addr} {LN : Nat → Nat} {L : Nat → Nat → Int} {W W' : World} (h : SsO B hi n a k LN L W) (hb : ∀ q, B ≤ q → q < hi → q < W.heap.size → W'.heap[q]? = W.heap[q]?) : SsO B hi n a k LN L W' := by
  rcases h with h | ⟨g, aj, cj, e, h1, ⟨M, F, f1, f2, f3⟩, h3, h4⟩
  · exact Or.inl h
  · exact Or.inr ⟨g, aj, cj, e, h1, ⟨M, F, f1, f2.of_block (hb g h1.1 h1.2 f2.lt), f3⟩, fun j hj => (h3 j hj).same hb, h4⟩
theorem SsO.below {B hi n k : Nat} {a : Option Addr} {LN : Nat → Nat} {L : Nat → Nat → Int} {W W' : World} (h : SsO B hi n a k LN L W) (hb : Below W.heap.size W W') : SsO B hi n a k LN L W' := h.same (fun q _ _ hl => hb.block q hl)
theorem SsO.at_ {B hi n k : Nat} {a : Option Addr} {LN : Nat → Nat} {L : Nat → Nat → Int} {W : World} (h : SsO B hi n a k LN L W) : LsAt a n LN L W := by
  rcases h with h | ⟨g, aj, cj, e, h1, ⟨M, F, f1, f2, f3⟩, h3, h4⟩
  · exact Or.inl h.2.1
  · exact Or.inr ⟨g, e, fun i hi => ⟨_, _, (f2.cell (by omega)).trans (by rw [f3 i hi]), (h3 i hi).at_⟩⟩
/-- Marks of such a list. -/
def mkS (LN : Nat → Nat) (j c : Nat) : Int := ((1 + Mn.tot LN j + c : Nat) : Int)
/-- What a round of the comparison reads. -/
def EqSS (w : World) (b1 b2 i : Nat) (a1 : Option Addr) (n1 c1 : Nat) (a2 : Option Addr) (c2 : Nat) (W : World) : Prop := W.cell? ⟨b1, i, none⟩ = some (.slice a1 n1 c1) ∧ W.cell? ⟨b2, i, none⟩ = some (.slice a2 n1 c2) ∧ Below w.heap.size w W
theorem EqSS.below {w : World} {b1 b2 i : Nat} {a1 : Option Addr} {n1 c1 : Nat} {a2 : Option Addr} {c2 : Nat} {W W' : World} (h : EqSS w b1 b2 i a1 n1 c1 a2 c2 W) (hb : Below W.heap.size W W') : EqSS w b1 b2 i a1 n1 c1 a2 c2 W' := by
  obtain ⟨q1, q2, h3⟩ := h
  exact ⟨(hb.cell (World.block_lt_of_cell? _ _ q1)).trans q1, (hb.cell (World.block_lt_of_cell? _ _ q2)).trans q2, h3.trans (hb.mono h3.size)⟩
set_option maxRecDepth 100000 in
set_option maxHeartbeats 2000000 in
theorem meqSS_same (a b : Option Addr) (n ca cb : Nat) (LN : Nat → Nat) (L : Nat → Nat → Int) (w : World) (h1 : LsAt a n LN L w) (h2 : LsAt b n LN L w) (hn : n ≤ 1048576) (hl : ∀ i, i < n → LN i ≤ 1048576) :
    Calls Try.prog 14 #[.slice a n ca, .slice b n cb] w fun e w' => e = .returned (.bool true) ∧ Below w.heap.size w w' := by
  have H1 := Lib.hid h1
  have H2 := Lib.hid h2
  have HL := Lib.hid hl
  clear h1 h2 hl
  go_enter Try.func14, Try.ntmps14
  go_wp2_with fail
  go_loopw [5] (fun iv wr => ∃ (i : Nat), i ≤ n ∧ iv = .int .i64 i ∧ Hid (Below w.heap.size w wr)) (fun iv _ => n - (intOf iv).toNat)
  case atStart => exact ⟨0, Nat.zero_le _, rfl, Below.refl _ _⟩
  case round =>
    obtain ⟨i, hi, rfl, hB⟩ := hrel
    by_cases hlt : i < n
    · have hltz : (i : Int) < (n : Int) := by omega
      obtain ⟨b1, rfl, a1, c1, k1, K1⟩ := (H1.out.below hB.out).one hlt
      obtain ⟨b2, rfl, a2, c2, k2, K2⟩ := (H2.out.below hB.out).one hlt
      have HK1 := Lib.hid K1
      have HK2 := Lib.hid K2
      have HE : Hid (EqSS w b1 b2 i a1 (LN i) c1 a2 c2 wr) := ⟨k1, k2, hB.out⟩
      clear k1 k2 hB K1 K2
      go_wp2_with fail
      obtain ⟨W0, hW0⟩ : ∃ W0, W0 = wr := ⟨_, rfl⟩
      refine wp_region_held_drew (S := fun V => EqSS w b1 b2 i a1 (LN i) c1 a2 c2 V ∧ Below wr.heap.size wr V) (by kernel_rfl) ⟨HE.out.below (Below.refl _ _).drew, (Below.refl _ _).drew⟩ (fun hHeld => ?_)
      clear HE hW0 W0
      refine take_do (i := 0) (v := (.slice (some ⟨b1, 0, none⟩) n ca)) rfl (by kernel_rfl) (by kernel_rfl) (by kernel_rfl) (fun _ _ _ h => h) (by rfl) ?_ (by assumption) ?_
      · intro w hSw
        obtain ⟨⟨c0, d0, _⟩, _⟩ := hSw
        go_simp
      simp only [Act.put, List.setIfInBounds_toArray, List.set_cons_zero, List.set_cons_succ]
      refine take_do (i := 1) (v := (.int .i64 i)) rfl (by kernel_rfl) (by kernel_rfl) (by kernel_rfl) (fun _ _ _ h => h) (by rfl) ?_ (by assumption) ?_
      · intro w hSw
        obtain ⟨⟨c0, d0, _⟩, _⟩ := hSw
        go_simp
      simp only [Act.put, List.setIfInBounds_toArray, List.set_cons_zero, List.set_cons_succ]
      refine take_do (i := 2) (v := (.pointer (some ⟨b1, i, none⟩))) rfl (by kernel_rfl) (by kernel_rfl) (by kernel_rfl) (fun _ _ _ h => h) (by rfl) ?_ (by assumption) ?_
      · intro w hSw
        obtain ⟨⟨c0, d0, _⟩, _⟩ := hSw
        go_simp
      simp only [Act.put, List.setIfInBounds_toArray, List.set_cons_zero, List.set_cons_succ]
      refine take_do (i := 3) (v := (.slice a1 (LN i) c1)) rfl (by kernel_rfl) (by kernel_rfl) (by kernel_rfl) (fun _ _ _ h => h) (by rfl) ?_ (by assumption) ?_
      · intro w hSw
        obtain ⟨⟨c0, d0, _⟩, _⟩ := hSw
        go_simp
      simp only [Act.put, List.setIfInBounds_toArray, List.set_cons_zero, List.set_cons_succ]
      refine take_do (i := 4) (v := (.slice (some ⟨b2, 0, none⟩) n cb)) rfl (by kernel_rfl) (by kernel_rfl) (by kernel_rfl) (fun _ _ _ h => h) (by rfl) ?_ (by assumption) ?_
      · intro w hSw
        obtain ⟨⟨c0, d0, _⟩, _⟩ := hSw
        go_simp
      simp only [Act.put, List.setIfInBounds_toArray, List.set_cons_zero, List.set_cons_succ]
      refine take_do (i := 5) (v := (.int .i64 i)) rfl (by kernel_rfl) (by kernel_rfl) (by kernel_rfl) (fun _ _ _ h => h) (by rfl) ?_ (by assumption) ?_
      · intro w hSw
        obtain ⟨⟨c0, d0, _⟩, _⟩ := hSw
        go_simp
      simp only [Act.put, List.setIfInBounds_toArray, List.set_cons_zero, List.set_cons_succ]
      refine take_do (i := 6) (v := (.pointer (some ⟨b2, i, none⟩))) rfl (by kernel_rfl) (by kernel_rfl) (by kernel_rfl) (fun _ _ _ h => h) (by rfl) ?_ (by assumption) ?_
      · intro w hSw
        obtain ⟨⟨c0, d0, _⟩, _⟩ := hSw
        go_simp
      simp only [Act.put, List.setIfInBounds_toArray, List.set_cons_zero, List.set_cons_succ]
      refine take_do (i := 7) (v := (.slice a2 (LN i) c2)) rfl (by kernel_rfl) (by kernel_rfl) (by kernel_rfl) (fun _ _ _ h => h) (by rfl) ?_ (by assumption) ?_
      · intro w hSw
        obtain ⟨⟨c0, d0, _⟩, _⟩ := hSw
        go_simp
      simp only [Act.put, List.setIfInBounds_toArray, List.set_cons_zero, List.set_cons_succ]
      refine take_call (i := 8) rfl (by kernel_rfl) (fun K2 hK => ?_)
      go_simp
      refine (neqInt64S_same a1 a2 (LN i) c1 c2 (L i) _ (HK1.out.below hHeld.2) (HK2.out.below hHeld.2) (HL.out i hlt)).mono ?_
      rintro e w1 ⟨rfl, hb⟩
      go_wp2_with fail
      refine hK.out _ _ ⟨hHeld.1.below hb, hHeld.2.trans (hb.mono hHeld.2.size)⟩ (fun hHeld2 => ?_)
      clear hK hHeld hb
      have hHeld := hHeld2
      clear hHeld2
      refine take_do (i := 9) (v := (.bool false)) rfl (by kernel_rfl) (by kernel_rfl) (by kernel_rfl) (fun _ _ _ h => h) (by rfl) ?_ (by assumption) ?_
      · intro w hSw
        obtain ⟨⟨c0, d0, _⟩, _⟩ := hSw
        go_simp
      simp only [Act.put, List.setIfInBounds_toArray, List.set_cons_zero, List.set_cons_succ]
      refine wpAnyH_done (by kernel_rfl) ?_ _
      have HB1 := Lib.hid hHeld.1.2.2
      clear hHeld
      go_wp2_with fail
      go_roundw
      case rel => exact ⟨i + 1, by omega, by go_num, HB1⟩
      case measure => simp [intOf]; omega
    · obtain rfl : i = n := by omega
      go_wp2_with fail
      go_ret
      exact ⟨rfl, hB.out⟩
set_option maxRecDepth 100000 in
set_option maxHeartbeats 4000000 in
theorem markSs_any (B hi n : Nat) (a : Option Addr) (c : Nat) (LN : Nat → Nat) (L : Nat → Nat → Int) (w : World) (h : SsO B hi n a c LN L w) (hn : n ≤ 1048576) (ht : Mn.tot LN n ≤ 1048576) :
    Calls Try.prog 16 #[.slice a n c, .int .i64 1] w fun e w' => e = .returned (.int .i64 ((1 + Mn.tot LN n : Nat) : Int)) ∧ SsO B hi n a c LN (mkS LN) w' ∧ OnlyR B hi w w' := by
  rcases h with ⟨rfl, rfl, rfl⟩ | ⟨g, aj, cj, rfl, h1, hF, h3, h4⟩
  · go_enter Try.func16, Try.ntmps16
    go_wp2_with fail
    go_loopw [1, 5] (fun kv iv wr => kv = .int .i64 1 ∧ iv = .int .i64 0 ∧ wr = w) (fun _ _ _ => 0)
    case atStart => exact ⟨rfl, rfl, rfl⟩
    case round =>
      obtain ⟨rfl, rfl, rfl⟩ := hrel
      go_wp2_with fail
      go_ret
      exact ⟨rfl, Or.inl ⟨rfl, rfl, rfl⟩, OnlyR.refl _ _ _⟩
  · have HF := Lib.hid hF
    have H1 := Lib.hid h1
    have H3 : Hid (∀ j, j < n → ∃ f, RwO B hi (LN j) (aj j) (cj j) f w) := fun j hj => ⟨_, h3 j hj⟩
    have H4 := Lib.hid h4
    clear hF h1 h3 h4
    go_enter Try.func16, Try.ntmps16
    go_wp2_with fail
    go_loopw [1, 5] (fun kv iv wr => ∃ (i : Nat), i ≤ n ∧ kv = .int .i64 ((1 + Mn.tot LN i : Nat) : Int) ∧ iv = .int .i64 i ∧ Hid (∃ M F, n ≤ M ∧ wr.rowIs g 38 M F ∧ ∀ j, j < n → F j = .slice (aj j) (LN j) (cj j)) ∧ Hid (∀ j, j < n → ∃ f, RwO B hi (LN j) (aj j) (cj j) f wr) ∧ Hid (∀ j, j < i → RwO B hi (LN j) (aj j) (cj j) (mkS LN j) wr) ∧ Hid (OnlyR B hi w wr)) (fun _ iv _ => n - (intOf iv).toNat)
    case atStart => exact ⟨0, Nat.zero_le _, rfl, rfl, HF, H3, fun j hj => absurd hj (Nat.not_lt_zero _), OnlyR.refl _ _ _⟩
    case round =>
      obtain ⟨i, hi', rfl, rfl, hR, hI, hM, hO⟩ := hrel
      clear HF
      by_cases hlt : i < n
      · have hltz : (i : Int) < (n : Int) := by omega
        obtain ⟨N, F, f1, f2, f3⟩ := hR.out
        have c0 : wr.cell? ⟨g, i, none⟩ = some (.slice (aj i) (LN i) (cj i)) := (f2.cell (by omega)).trans (by rw [f3 i hlt])
        obtain ⟨K, hK⟩ : ∃ K : Nat, K = 1 + Mn.tot LN i := ⟨_, rfl⟩
        have HK := Lib.hid hK
        have hKb : K ≤ 4194304 := by have := Mn.tot_le LN n i hi'; omega
        have hLN : LN i ≤ 1048576 := by have := Mn.le_tot LN hlt; omega
        rw [← hK]
        clear hK
        obtain ⟨f, hf⟩ := hI.out i hlt
        have hgt : ∃ cur, wr.heap[g]? = some (.cells cur 38 (0, 0)) := by
          obtain ⟨cur, q, _⟩ := f2
          exact ⟨cur, q⟩
        have htot : Hid (Mn.tot LN (i + 1) = Mn.tot LN i + LN i) := rfl
        clear f1 f2 f3
        rcases hf with ⟨ha, hl, hc⟩ | ⟨b, ha, hbB, hblk⟩
        · rw [ha, hl, hc] at c0
          have HA : Hid (aj i = none ∧ LN i = 0 ∧ cj i = 0) := ⟨ha, hl, hc⟩
          clear ha hl hc hgt
          go_wp2_with fail
          refine (nmarkInt64S_nil K _).mono ?_
          rintro e w1 ⟨rfl, hw⟩
          subst w1
          have HM1 : Hid (∀ j, j < i + 1 → RwO B hi (LN j) (aj j) (cj j) (mkS LN j) wr) := fun j hj => by
            by_cases e : j = i
            · subst e; exact Or.inl HA.out
            · exact hM.out j (by omega)
          clear hM c0
          go_wp2_with fail
          go_roundw
          case rel =>
            refine ⟨i + 1, by omega, ?_, by go_num, hR, hI, HM1, hO⟩
            have q1 := HK.out
            have q2 := htot.out
            have q3 := HA.out.2.1
            congr 1; omega
          case measure => simp [intOf]; omega
        · rw [ha] at c0
          have HFI := Lib.hid hblk
          have HNE : Hid (g ≠ b) := typ_ne hgt (isBlk_type hblk) (by decide)
          have HA := Lib.hid ha
          have HBB := Lib.hid hbB
          clear hblk ha hbB hgt
          go_wp2_with fail
          refine (nmarkInt64S_any b (LN i) (cj i) K f _ HFI.out hLN (by omega)).mono ?_
          rintro e w1 ⟨rfl, hmk, ho⟩
          have HR1 : Hid (∃ M F, n ≤ M ∧ w1.rowIs g 38 M F ∧ ∀ j, j < n → F j = .slice (aj j) (LN j) (cj j)) := by
            obtain ⟨N, F, f1, f2, f3⟩ := hR.out
            exact ⟨N, F, f1, f2.of_block (ho.block _ f2.lt HNE.out), f3⟩
          have keep : ∀ j f, j < n → j ≠ i → RwO B hi (LN j) (aj j) (cj j) f wr → RwO B hi (LN j) (aj j) (cj j) f w1 := fun j f hj hne q => by
            rcases q with q | ⟨b', q1, q2, q3⟩
            · exact Or.inl q
            · refine Or.inr ⟨b', q1, q2, q3.block (ho.block _ q3.lt ?_)⟩
              rintro rfl
              exact hne (H4.out j i _ hj hlt q1 HA.out)
          have HI1 : Hid (∀ j, j < n → ∃ f, RwO B hi (LN j) (aj j) (cj j) f w1) := fun j hj => by
            by_cases e : j = i
            · subst e; exact ⟨_, Or.inr ⟨b, HA.out, HBB.out, hmk⟩⟩
            · obtain ⟨f, q⟩ := hI.out j hj
              exact ⟨f, keep j f hj e q⟩
          have HM1 : Hid (∀ j, j < i + 1 → RwO B hi (LN j) (aj j) (cj j) (mkS LN j) w1) := fun j hj => by
            by_cases e : j = i
            · subst e
              refine Or.inr ⟨b, HA.out, HBB.out, hmk.congr (fun t _ => ?_)⟩
              rw [HK.out]; rfl
            · exact keep j _ (by omega) e (hM.out j (by omega))
          have HO1 : Hid (OnlyR B hi w w1) := hO.out.only ho HBB.out
          clear hR hI hM hO hmk ho c0 keep HFI HNE
          go_wp2_with fail
          go_roundw
          case rel =>
            refine ⟨i + 1, by omega, ?_, by go_num, HR1, HI1, HM1, HO1⟩
            have q1 := HK.out
            have q2 := htot.out
            congr 1; omega
          case measure => simp [intOf]; omega
      · obtain rfl : i = n := by omega
        go_wp2_with fail
        go_ret
        exact ⟨rfl, Or.inr ⟨g, aj, cj, rfl, H1.out, hR.out, fun j hj => hM.out j hj, H4.out⟩, hO.out⟩
set_option maxRecDepth 100000 in
set_option maxHeartbeats 4000000 in
theorem heldSs_any (B hi n : Nat) (a : Option Addr) (c : Nat) (LN : Nat → Nat) (w : World) (h : SsO B hi n a c LN (mkS LN) w) (hn : n ≤ 1048576) (ht : Mn.tot LN n ≤ 1048576) :
    Calls Try.prog 17 #[.slice a n c, .int .i64 1] w fun e w' => e = .returned (.int .i64 ((1 + Mn.tot LN n : Nat) : Int)) ∧ w' = w := by
  rcases h with ⟨rfl, rfl, rfl⟩ | ⟨g, aj, cj, rfl, h1, hF, h3, h4⟩
  · go_enter Try.func17, Try.ntmps17
    go_wp2_with fail
    go_loopw [1, 5] (fun kv iv wr => kv = .int .i64 1 ∧ iv = .int .i64 0 ∧ wr = w) (fun _ _ _ => 0)
    case atStart => exact ⟨rfl, rfl, rfl⟩
    case round =>
      obtain ⟨rfl, rfl, rfl⟩ := hrel
      go_wp2_with fail
      go_ret
      exact ⟨rfl, rfl⟩
  · have HF := Lib.hid hF
    have H3 := Lib.hid h3
    clear hF h1 h3 h4
    go_enter Try.func17, Try.ntmps17
    go_wp2_with fail
    go_loopw [1, 5] (fun kv iv wr => ∃ (i : Nat), i ≤ n ∧ kv = .int .i64 ((1 + Mn.tot LN i : Nat) : Int) ∧ iv = .int .i64 i ∧ wr = w) (fun _ iv _ => n - (intOf iv).toNat)
    case atStart => exact ⟨0, Nat.zero_le _, rfl, rfl, rfl⟩
    case round =>
      obtain ⟨i, hi', rfl, rfl, rfl⟩ := hrel
      by_cases hlt : i < n
      · have hltz : (i : Int) < (n : Int) := by omega
        obtain ⟨N, F, f1, f2, f3⟩ := HF.out
        have c0 : wr.cell? ⟨g, i, none⟩ = some (.slice (aj i) (LN i) (cj i)) := (f2.cell (by omega)).trans (by rw [f3 i hlt])
        obtain ⟨K, hK⟩ : ∃ K : Nat, K = 1 + Mn.tot LN i := ⟨_, rfl⟩
        have HK := Lib.hid hK
        have hKb : K ≤ 4194304 := by have := Mn.tot_le LN n i hi'; omega
        have hLN : LN i ≤ 1048576 := by have := Mn.le_tot LN hlt; omega
        have htot : Hid (Mn.tot LN (i + 1) = Mn.tot LN i + LN i) := rfl
        have hKz : ¬ ((K + LN i : Nat) : Int) < 0 := by omega
        have hKz0 : ¬ (K : Int) < 0 := by omega
        have HR3 := Lib.hid (H3.out i hlt)
        rw [← hK]
        clear f1 f2 f3 hK
        rcases HR3.out with ⟨ha, hl, hc⟩ | ⟨b, ha, hbB, hblk⟩
        · rw [ha, hl, hc] at c0
          have HA : Hid (aj i = none ∧ LN i = 0 ∧ cj i = 0) := ⟨ha, hl, hc⟩
          clear ha hl hc
          go_wp2_with fail
          refine (nheldInt64S_nil K _).mono ?_
          rintro e w1 ⟨rfl, hw⟩
          subst w1
          clear c0
          go_wp2_with fail
          go_roundw
          case rel =>
            refine ⟨i + 1, by omega, ?_, by go_num, by trivial⟩
            have q1 := HK.out
            have q2 := htot.out
            have q3 := HA.out.2.1
            congr 1; omega
          case measure => simp [intOf]; omega
        · rw [ha] at c0
          have HMK : Hid (IsBlk 2 b (LN i) (mk1 K) wr) := hblk.congr (fun t _ => by rw [HK.out]; rfl)
          clear hblk ha hbB
          go_wp2_with fail
          refine (nheldInt64S_any b (LN i) (cj i) K _ HMK.out hLN (by omega)).mono ?_
          rintro e w1 ⟨rfl, hw⟩
          subst w1
          clear c0 HMK
          go_wp2_with fail
          go_roundw
          case rel =>
            refine ⟨i + 1, by omega, ?_, by go_num, by trivial⟩
            have q1 := HK.out
            have q2 := htot.out
            congr 1; omega
          case measure => simp [intOf]; omega
      · obtain rfl : i = n := by omega
        go_wp2_with fail
        go_ret
        exact ⟨rfl, rfl⟩
end Go.Proofs.Ytbkpedcabbppbaa
