/-
  The contract of the program's sums of places.
-/
import Derived.Test.YtokbhkcpkilcmaaDoorSwI6
namespace Go.Proofs.YtokbhkcpkilcmaaDoor
open Go.RowKit Go.Deep

/-- The first sums are made. -/
def addTo (f k : Nat → Int) (i : Nat) : Nat → Int := fun j => if j < i then f j + k j else f j
theorem addTo_succ (f k : Nat → Int) (i : Nat) : addTo f k (i + 1) = Sw.upd (addTo f k i) i (f i + k i) := by
  funext j
  unfold addTo Sw.upd
  by_cases e : j = i
  · subst e; simp
  · by_cases h : j < i
    · simp [e, h]; omega
    · simp [e, h]; omega
set_option maxRecDepth 100000 in
set_option maxHeartbeats 2000000 in
theorem add_any (g h n cg ch : Nat) (f k : Nat → Int) (w : World) (hg : InBlk g n f w) (hh : InBlk h n k w) (hne : g ≠ h) (hn : n ≤ 1000) (hf : ∀ j, j < n → (0 ≤ f j ∧ f j ≤ 4000000000000) ∧ (0 ≤ k j ∧ k j ≤ 4000000000000)) :
    Calls Tryd.prog 59 #[.slice (some ⟨g, 0, none⟩) n cg, .slice (some ⟨h, 0, none⟩) n ch] w fun e w' => e = .returned (.tuple #[]) ∧ InBlk g n (addTo f k n) w' ∧ (∀ b, b < w.heap.size → b ≠ g → w'.heap[b]? = w.heap[b]?) ∧ (w'.os = w.os ∧ w'.tape = w.tape ∧ w'.output = w.output ∧ w.heap.size ≤ w'.heap.size) := by
  have HH := Lib.hid hh
  have HF := Lib.hid hf
  have hh1 := hh.lt
  clear hh hf
  have HG : Hid (InBlk g n (addTo f k 0) w) := hg.congr (fun j _ => by unfold addTo; simp)
  clear hg
  go_enter Tryd.func59, Tryd.ntmps59
  go_wp2_with fail
  go_loopw [7] (fun iv wr => ∃ (i : Nat), i ≤ n ∧ iv = .int .i64 i ∧ Hid (InBlk g n (addTo f k i) wr) ∧ Hid (∀ b, b < w.heap.size → b ≠ g → wr.heap[b]? = w.heap[b]?) ∧ Hid (wr.os = w.os ∧ wr.tape = w.tape ∧ wr.output = w.output ∧ w.heap.size ≤ wr.heap.size)) (fun iv _ => n - (intOf iv).toNat)
  case atStart => exact ⟨0, Nat.zero_le _, rfl, HG, fun _ _ _ => rfl, rfl, rfl, rfl, Nat.le_refl _⟩
  case round =>
    obtain ⟨i, hi, rfl, hG, hO, hP⟩ := hrel
    clear HG
    by_cases hlt : i < n
    · have hltz : (i : Int) < (n : Int) := by omega
      obtain ⟨⟨f0, f1⟩, ⟨k0, k1⟩⟩ := HF.out i hlt
      have c0 : wr.cell? ⟨g, i, none⟩ = some (.int .i64 (f i)) := (hG.out.cell hlt).trans (by unfold addTo; simp)
      have d0 := hG.out.frozen i
      have z0 := hG.out.lt
      have c1 : wr.cell? ⟨h, i, none⟩ = some (.int .i64 (k i)) := (HH.out.block (hO.out h hh1 (fun e => hne e.symm))).cell hlt
      have G2 : Hid (InBlk g n (addTo f k (i + 1)) (wr.setCell ⟨g, i, none⟩ (.int .i64 (f i + k i))).drew) := by
        rw [addTo_succ]; exact (InBlk.setU hG.out i (f i + k i)).block rfl
      have O2 : Hid (∀ b, b < w.heap.size → b ≠ g → (wr.setCell ⟨g, i, none⟩ (.int .i64 (f i + k i))).drew.heap[b]? = w.heap[b]?) := fun b hb hbn => (blk_setCell_other _ _ _ _ (by show b ≠ g; exact hbn)).trans (hO.out b hb hbn)
      have P2 : Hid ((wr.setCell ⟨g, i, none⟩ (.int .i64 (f i + k i))).drew.os = w.os ∧ (wr.setCell ⟨g, i, none⟩ (.int .i64 (f i + k i))).drew.tape = w.tape ∧ (wr.setCell ⟨g, i, none⟩ (.int .i64 (f i + k i))).drew.output = w.output ∧ w.heap.size ≤ (wr.setCell ⟨g, i, none⟩ (.int .i64 (f i + k i))).drew.heap.size) := ⟨hP.out.1, hP.out.2.1, hP.out.2.2.1, by have := hP.out.2.2.2; show _ ≤ (wr.setCell _ _).heap.size; simpa using this⟩
      clear hG hO hP
      go_wp2_with fail
      go_region
      go_wp2_with fail
      go_roundw
      case rel => exact ⟨i + 1, by omega, by go_num, G2, O2, P2⟩
      case measure => simp [intOf]; omega
    · obtain rfl : i = n := by omega
      go_wp2_with fail
      exact bodyPost_end (v := .tuple #[]) (by simp [results, Tryd.results59, go_sem]) rfl ⟨rfl, hG.out, hO.out, hP.out⟩
end Go.Proofs.YtokbhkcpkilcmaaDoor
