/-
  The contracts of the program's mixing of batches.
-/
import Derived.Test.YtcjeieagpcphjaaDoorWkBs
import Derived.Test.YtcjeieagpcphjaaDoorWkSt
import Derived.Test.YtcjeieagpcphjaaDoorWkTab
namespace Go.Proofs.YtcjeieagpcphjaaDoor
open Go.RowKit Go.Deep

theorem InBlk.setI {g n : Nat} {f : Nat → Int} {w : World} (h : InBlk g n f w) (i : Nat) (x : Int) : InBlk g n (fun j => if j = i then x else f j) (w.setCell ⟨g, i, none⟩ (.int .i64 x)) := by
  obtain ⟨m, F, h1, h2, h3⟩ := h
  refine ⟨m, _, h1, h2.set i _, fun j hj => ?_⟩
  show (if j = i then _ else F j) = .int .i64 (if j = i then x else f j)
  by_cases e : j = i
  · rw [if_pos e, if_pos e]
  · rw [if_neg e, if_neg e]; exact h3 j hj
def addUp (f k : Nat → Int) (i : Nat) : Nat → Int := fun j => if j < i then f j + k j else f j
theorem addUp_succ (f k : Nat → Int) (i : Nat) : addUp f k (i + 1) = fun j => if j = i then f i + k i else addUp f k i j := by
  funext j
  unfold addUp
  by_cases e : j = i
  · subst e; simp
  · rw [if_neg e]
    by_cases h : j < i
    · rw [if_pos h, if_pos (by omega)]
    · rw [if_neg h, if_neg (by omega)]
set_option maxRecDepth 100000 in
set_option maxHeartbeats 2000000 in
theorem addP_any (g n cg : Nat) (f : Nat → Int) (pa : Option Addr) (ck : Nat) (k : Nat → Int) (w : World) (hg : InBlk g n f w) (hh : IntsAt pa n k w) (hne : ¬ atP pa g) (hn : n ≤ 6) (hf : ∀ j, j < n → (0 ≤ f j ∧ f j ≤ 4000000000000) ∧ (0 ≤ k j ∧ k j ≤ 1000000000)) :
    Calls Tryd.prog 78 #[.slice (some ⟨g, 0, none⟩) n cg, .slice pa n ck] w fun e w' => e = .returned (.tuple #[]) ∧ InBlk g n (fun j => f j + k j) w' ∧ Only g w w' := by
  have HH := Lib.hid hh
  have HF := Lib.hid hf
  have HNE := Lib.hid hne
  clear hh hf hne
  have HG : Hid (InBlk g n (addUp f k 0) w) := hg.congr (fun j _ => by unfold addUp; simp)
  clear hg
  go_enter Tryd.func78, Tryd.ntmps78
  go_wp2_with fail
  go_loopw [7] (fun iv wr => ∃ (i : Nat), i ≤ n ∧ iv = .int .i64 i ∧ Hid (InBlk g n (addUp f k i) wr) ∧ Hid (Only g w wr)) (fun iv _ => n - (intOf iv).toNat)
  case atStart => exact ⟨0, Nat.zero_le _, rfl, HG, Only.refl _ _⟩
  case round =>
    obtain ⟨i, hi, rfl, hG, hO⟩ := hrel
    clear HG
    by_cases hlt : i < n
    · have hltz : (i : Int) < (n : Int) := by omega
      obtain ⟨⟨f0, f1⟩, ⟨k0, k1⟩⟩ := HF.out i hlt
      obtain ⟨b, rfl, cb⟩ := HH.out.at_ hlt
      have hbg : b ≠ g := fun e => HNE.out (by unfold atP; rw [e])
      have c0 : wr.cell? ⟨g, i, none⟩ = some (.int .i64 (f i)) := (hG.out.cell hlt).trans (by unfold addUp; simp)
      have d0 := hG.out.frozen i
      have z0 := hG.out.lt
      have c1 : wr.cell? ⟨b, i, none⟩ = some (.int .i64 (k i)) := (World.cell?_of_block (a := ⟨b, i, none⟩) (hO.out.block b (World.block_lt_of_cell? _ _ cb) hbg)).trans cb
      have G2 : Hid (InBlk g n (addUp f k (i + 1)) (wr.setCell ⟨g, i, none⟩ (.int .i64 (f i + k i))).drew) := by
        show InBlk _ _ _ _
        rw [addUp_succ]; exact (hG.out.setI i (f i + k i)).block rfl
      have O2 : Hid (Only g w (wr.setCell ⟨g, i, none⟩ (.int .i64 (f i + k i))).drew) := by
        have h := hO.out.set i (.int .i64 (f i + k i))
        exact ⟨h.os, h.tape, h.output, h.size, h.block⟩
      clear hG hO cb
      go_wp2_with fail
      go_region
      go_wp2_with fail
      go_roundw
      case rel => exact ⟨i + 1, by omega, by go_num, G2, O2⟩
      case measure => simp [intOf]; omega
    · obtain rfl : i = n := by omega
      go_wp2_with fail
      exact bodyPost_end (v := .tuple #[]) (by simp [results, Tryd.results78, go_sem]) rfl ⟨rfl, hG.out.congr (fun j hj => by unfold addUp; rw [if_pos hj]), hO.out⟩
set_option maxRecDepth 100000 in
set_option maxHeartbeats 2000000 in
theorem sumAm_any (a : Option Addr) (m cap : Nat) (bs : Nat → Wk.Bt) (w : World) (h : IntsAt a m (fun i => (bs i).wt) w) (hm : m ≤ 400) (hb : ∀ i, i < m → Wk.Ok (bs i)) :
    Calls Tryd.prog 62 #[.slice a m cap] w fun e w' => e = .returned (.int .i64 (Wk.sumW bs m)) ∧ w' = w := by
  have H := Lib.hid h
  have HB := Lib.hid hb
  clear h hb
  go_enter Tryd.func62, Tryd.ntmps62
  go_wp2_with fail
  go_loopw [3, 8] (fun sv iv wr => ∃ (i : Nat), i ≤ m ∧ iv = .int .i64 i ∧ sv = .int .i64 (Wk.sumW bs i) ∧ Hid (wr = w)) (fun _ iv _ => m - (intOf iv).toNat)
  case atStart => exact ⟨0, Nat.zero_le _, rfl, rfl, rfl⟩
  case round =>
    obtain ⟨i, hi, rfl, rfl, hW⟩ := hrel
    obtain rfl := hW.out
    clear hW
    by_cases hlt : i < m
    · have hltz : (i : Int) < (m : Int) := by omega
      obtain ⟨b, rfl, c0⟩ := H.out.at_ hlt
      obtain ⟨s0, s1⟩ := Wk.sumW_bounds HB.out i (by omega)
      obtain ⟨x0, x1⟩ := (HB.out i hlt).1
      have HS : Hid (Wk.sumW bs i + (bs i).wt = Wk.sumW bs (i + 1)) := rfl
      generalize Wk.sumW bs i = s at *
      generalize (bs i).wt = x at *
      have s2 : s ≤ 400000000000 := by omega
      clear s1
      go_wp2_with fail
      go_roundw
      case rel => exact ⟨i + 1, by omega, by go_num, by rw [HS.out], by first | exact rfl | exact (trivial : True)⟩
      case measure => simp [intOf]; omega
    · obtain rfl : i = m := by omega
      go_wp2_with fail
      go_ret
      exact ⟨rfl, rfl⟩
theorem if_pos_or {P Q : Prop} {C : Prop} (h : P ∨ Q) (h1 : P → C) (h2 : Q → C) : C := h.elim h1 h2
set_option maxRecDepth 100000 in
set_option maxHeartbeats 1000000 in
theorem addP_nil (g : Nat) (pa : Option Addr) (ck : Nat) {f k : Nat → Int} (w : World) (hg : InBlk g 0 f w) :
    Calls Tryd.prog 78 #[.slice (some ⟨g, 0, none⟩) 0 0, .slice pa 0 ck] w fun e w' => e = .returned (.tuple #[]) ∧ InBlk g 0 (fun j => f j + k j) w' ∧ Only g w w' := by
  have HG : Hid (InBlk g 0 (fun j => f j + k j) w) := hg.congr (fun j hj => absurd hj (Nat.not_lt_zero _))
  clear hg
  go_enter Tryd.func78, Tryd.ntmps78
  go_wp2_with fail
  go_loopw [7] (fun iv wr => iv = .int .i64 0 ∧ Hid (wr = w)) (fun _ _ => 0)
  case atStart => exact ⟨rfl, rfl⟩
  case round =>
    obtain ⟨rfl, hW⟩ := hrel
    obtain rfl := hW.out
    go_wp2_with fail
    exact bodyPost_end (v := .tuple #[]) (by simp [results, Tryd.results78, go_sem]) rfl ⟨rfl, HG.out, Only.refl _ _⟩
/-- Lists of numbers, each anywhere, one behind the other. -/
def LsAt (a : Option Addr) (m : Nat) (bs : Nat → Be) (w : World) : Prop := m = 0 ∨ ∃ b, a = some ⟨b, 0, none⟩ ∧ ∀ i, i < m → w.cell? ⟨b, i, none⟩ = some (.slice (bs i).pa (bs i).n (bs i).k)
set_option maxRecDepth 100000 in
set_option maxHeartbeats 4000000 in
theorem sumPl_any (a : Option Addr) (m cap : Nat) (bs : Nat → Be) (N : Nat) (w : World) (h : LsAt a m bs w) (hm0 : 0 < m) (hm : m ≤ 400) (hb : ∀ i, i < m → Wk.Ok (bs i).b ∧ (bs i).n = N) (hi : ∀ i, i < m → IntsAt (bs i).pa (bs i).n (bs i).f w) (hN : N ≤ 6) :
    Calls Tryd.prog 63 #[.slice a m cap] w fun e w' => (∃ g, e = .returned (.slice (some ⟨g, 0, none⟩) N N) ∧ w.heap.size ≤ g ∧ InBlk g N (fun j => Wk.sumP (fun i => (bs i).b) j m) w') ∧ Below w.heap.size w w' := by
  obtain ⟨b, rfl, hc⟩ : ∃ b, a = some ⟨b, 0, none⟩ ∧ ∀ i, i < m → w.cell? ⟨b, i, none⟩ = some (.slice (bs i).pa (bs i).n (bs i).k) := by
    rcases h with h | h
    · omega
    · exact h
  have hmk := run_make_row' (P := Tryd.prog) 24 2 (.int .i64 0) 8 Tryd.underlying24 info_i64 rfl .i64 .i64 N (by omega) (by omega)
  have x0 := hc 0 hm0
  rw [(hb 0 hm0).2] at x0
  have hmz : (0 : Int) < (m : Int) := by omega
  have HC := Lib.hid hc
  have HB := Lib.hid hb
  have HI := Lib.hid hi
  have HST : Hid (InBlk w.heap.size N (fun j => Wk.sumP (fun i => (bs i).b) j 0) (w.alloc (mkO N))) := ⟨N, _, Nat.le_refl _, World.rowIs_made w (.int .i64 0) N 2, fun j _ => rfl⟩
  clear hc hb hi
  go_enter Tryd.func63, Tryd.ntmps63
  go_wp2_with fail
  clear hmk x0
  go_loopw [13] (fun iv wr => ∃ (i : Nat), i ≤ m ∧ iv = .int .i64 i ∧ Hid (InBlk w.heap.size N (fun j => Wk.sumP (fun i => (bs i).b) j i) wr) ∧ Hid (Below w.heap.size w wr)) (fun iv _ => m - (intOf iv).toNat)
  case atStart => exact ⟨0, Nat.zero_le _, rfl, HST, (Below.refl _ _).alloc (Nat.le_refl _) _⟩
  case round =>
    obtain ⟨i, hi, rfl, hG, hB⟩ := hrel
    clear HST
    by_cases hlt : i < m
    · have hltz : (i : Int) < (m : Int) := by omega
      have hbl : b < w.heap.size := World.block_lt_of_cell? _ _ (HC.out i hlt)
      have c0 := (hB.out.cell hbl).trans (HC.out i hlt)
      rw [(HB.out i hlt).2] at c0
      have HIN : Hid (IntsAt (bs i).pa N (bs i).f wr) := by
        have := (HI.out i hlt).below hB.out
        rw [(HB.out i hlt).2] at this
        exact this
      have HAT : Hid (¬ atP (bs i).pa w.heap.size ∨ N = 0) := by
        have h := HI.out i hlt
        rw [(HB.out i hlt).2] at h
        rcases h with h | ⟨q, e, h⟩
        · exact Or.inr h
        · by_cases hz : N = 0
          · exact Or.inr hz
          · refine Or.inl (fun h2 => ?_)
            have := World.block_lt_of_cell? _ _ (h 0 (by omega))
            unfold atP at h2
            rw [e] at h2
            simp at h2
            simp at this
            omega
      have hz : w.heap.size < wr.heap.size := hG.out.lt
      go_wp2_with fail
      refine ((if_pos_or HAT.out (fun hne => addP_any w.heap.size N N (fun j => Wk.sumP (fun i => (bs i).b) j i) (bs i).pa (bs i).k (bs i).f _ hG.out HIN.out hne hN (fun j hj => ⟨?_, ?_⟩)) (fun h0 => ?_) : Calls Tryd.prog 78 #[.slice (some ⟨w.heap.size, 0, none⟩) N N, .slice (bs i).pa N (bs i).k] wr fun e w' => e = .returned (.tuple #[]) ∧ InBlk w.heap.size N (fun j => Wk.sumP (fun i => (bs i).b) j i + (bs i).f j) w' ∧ Only w.heap.size wr w')).mono ?_
      · have h1 := Wk.sumP_bounds (bs := fun i => (bs i).b) (m := m) (j := j) (fun q hq => ⟨(HB.out q hq).1, by show j < (bs q).n; rw [(HB.out q hq).2]; exact hj⟩) i (by omega)
        omega
      · exact (HB.out i hlt).1.2.2 j (by show j < (bs i).n; rw [(HB.out i hlt).2]; exact hj)
      · subst h0
        exact addP_nil w.heap.size (bs i).pa (bs i).k wr hG.out
      rintro e w1 ⟨rfl, hg1, ho1⟩
      have HG1 : Hid (InBlk w.heap.size N (fun j => Wk.sumP (fun i => (bs i).b) j (i + 1)) w1) := hg1
      have HB1 : Hid (Below w.heap.size w w1) := hB.out.trans (ho1.below (Nat.le_refl _) hB.out.size)
      clear hg1 ho1 c0
      go_wp2_with fail
      go_roundw
      case rel => exact ⟨i + 1, by omega, by go_num, HG1, HB1⟩
      case measure => simp [intOf]; omega
    · obtain rfl : i = m := by omega
      go_wp2_with fail
      go_ret
      exact ⟨⟨w.heap.size, rfl, Nat.le_refl _, hG.out⟩, hB.out⟩
end Go.Proofs.YtcjeieagpcphjaaDoor
