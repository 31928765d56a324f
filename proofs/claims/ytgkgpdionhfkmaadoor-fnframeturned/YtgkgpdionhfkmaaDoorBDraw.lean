/-
  The contract of the draw of some bytes as a text.
-/
import Derived.Test.YtgkgpdionhfkmaaDoorDrawA
import Derived.Laws.AppendOwn
import Derived.OwnWalk
import Derived.Deep.Heap
import Derived.Lib.Hide
import Derived.Laws.IdiomStrings
namespace Go.Proofs.YtgkgpdionhfkmaaDoor
open Go.RowKit

theorem info_u8 : (Tryd.prog.info? 5).map (fun i => (i.zero, i.size, i.bytes)) = some (some (.int .u8 0), 1, 1) := by kernel_rfl
def bcell (c : UInt8) : Value := .int .u8 (c.toNat : Int)

/-- A value, not nil, that owns a list of bytes among blocks from B on. -/
def OwnB (B : Nat) (v : Value) (zs : List UInt8) (W : World) : Prop := W.ownsRow B 5 1 v zs.length (zs.map bcell) ∧ v ≠ .slice none 0 0

theorem OwnB.chg {B sb : Nat} {v : Value} {zs : List UInt8} {W W' : World} (h : OwnB B v zs W) (hsb : sb < B) (hc : Chg sb W W') : OwnB B v zs W' := by
  obtain ⟨⟨h1, h2⟩, hn⟩ := h
  refine ⟨⟨h1, ?_⟩, hn⟩
  rcases h2 with h2 | ⟨g, cap, cur, e1, e2, e3, e4⟩
  · exact Or.inl h2
  · refine Or.inr ⟨g, cap, cur, e1, e2, ?_, e4⟩
    have hlt : g < W.heap.size := by
      rcases Nat.lt_or_ge g W.heap.size with h | h
      · exact h
      · rw [Array.getElem?_eq_none h] at e3; cases e3
    rw [hc.2.2.2.2 g hlt (by omega)]; exact e3
theorem OwnB.form {B : Nat} {v : Value} {zs : List UInt8} {W : World} (h : OwnB B v zs W) : ∃ g cap, v = .slice (some ⟨g, 0, none⟩) zs.length cap ∧ B ≤ g ∧ ∀ j (hj : j < zs.length), W.cell? ((⟨g, 0, none⟩ : Addr).add j) = some (.int .u8 ((zs[j]'hj).toNat : Int)) := by
  obtain ⟨h', hn⟩ := h
  have hh := h'
  obtain ⟨h1, h2⟩ := h'
  rcases h2 with h2 | ⟨g, cap, cur, e1, e2, e3, _⟩
  · exact absurd h2.1 hn
  · have hb : v.ownBlock = some g := by rw [e1]; rfl
    refine ⟨g, cap, e1, e2, fun j hj => ?_⟩
    exact hh.cells hb j _ (by rw [List.getElem?_map, List.getElem?_eq_getElem hj]; rfl)

theorem Src.same' {sb : Nat} {w w' : World} (h : Src sb w) (hb : ∀ k, k ≤ sb → w'.heap[k]? = w.heap[k]?) : Src sb w' := by
  obtain ⟨a, len, cap, at_, mix, size, ⟨c0, c1, c2, c3, f0, f1, f2, f3⟩, h1, h2, h3, h4, h5, h6⟩ := h
  have ce : ∀ o, w'.cell? ⟨sb, o, none⟩ = w.cell? ⟨sb, o, none⟩ := fun o => World.cell?_of_block (hb sb (Nat.le_refl _))
  have fe : ∀ o, w'.frozen? ⟨sb, o, none⟩ = w.frozen? ⟨sb, o, none⟩ := fun o => World.frozen?_of_block (hb sb (Nat.le_refl _))
  refine ⟨a, len, cap, at_, mix, size, ⟨(ce 0).trans c0, (ce 1).trans c1, (ce 2).trans c2, (ce 3).trans c3, (fe 0).trans f0, (fe 1).trans f1, (fe 2).trans f2, (fe 3).trans f3⟩, h1, h2, h3, h4, h5, fun i hi => ?_⟩
  obtain ⟨cb, co, z, e, hne, hc, z0, z1⟩ := h6 i hi
  exact ⟨cb, co, z, e, hne, (World.cell?_of_block (a := ⟨cb, co + i, none⟩) (hb cb (by omega))).trans hc, z0, z1⟩

/-- What the drawing of bytes keeps. -/
def BL (w : World) (sb : Nat) (v : Value) (zs : List UInt8) (W : World) : Prop := OwnB w.heap.size v zs W ∧ Drew sb w W ∧ sb < w.heap.size
theorem BL.draw {w : World} {sb : Nat} {v : Value} {zs : List UInt8} {W W' : World} (h : BL w sb v zs W) (hd : Drew sb W W') : BL w sb v zs W' :=
  ⟨h.1.chg h.2.2 hd.2, ⟨hd.1, h.2.1.2.trans hd.2⟩, h.2.2⟩
theorem BL.push {w : World} {sb : Nat} {v v' : Value} {zs : List UInt8} {x : UInt8} {W W' : World} {o : Obj} (h : BL w sb v zs W) (hg : (W.alloc o).grownBy W' v.ownBlock)
    (hown : W'.ownsRow w.heap.size 5 1 v' (zs.length + 1) (zs.map bcell ++ [bcell x])) (hnil : ¬ v' = .slice none 0 0) : BL w sb v' (zs ++ [x]) W' := by
  have hz := h.2.1.2.size
  have hrow : ∀ k, v.ownBlock = some k → w.heap.size ≤ k := fun k e => (h.1.1.lt k e).1
  have hk : ∀ k, k < w.heap.size → W'.heap[k]? = W.heap[k]? := fun k hk => by
    rw [hg.block k (by simp; omega) (fun e => by have := hrow k e.symm; omega)]
    exact Go.Deep.blk_alloc_lt _ _ _ (by omega)
  refine ⟨⟨by simpa using hown, hnil⟩, ⟨h.2.1.1.same' (fun k hk2 => hk k (by have := h.2.2; omega)), ?_⟩, h.2.2⟩
  exact ⟨hg.os.trans h.2.1.2.1, hg.tape.trans h.2.1.2.2.1, hg.output.trans h.2.1.2.2.2.1, by have := hg.size; simp at this; omega, fun k hk1 hk2 => (hk k hk1).trans (h.2.1.2.2.2.2.2 k hk1 hk2)⟩
theorem bl_start {w : World} {sb : Nat} (h : Src sb w) : BL w sb (.slice (some ⟨w.heap.size, 0, none⟩) 0 0) [] (w.alloc (.cells #[] 5)) := by
  refine ⟨⟨⟨by simp, Or.inr ⟨w.heap.size, 0, #[], rfl, Nat.le_refl _, by show (w.heap.push _)[w.heap.size]? = _; simp, by simp, by simp, by simp, by simp⟩⟩, by simp⟩, ⟨h.below ((Below.refl _ _).alloc (Nat.le_refl _) _), Chg.of_below ((Below.refl _ _).alloc (Nat.le_refl _) _)⟩, h.lt⟩

theorem byte_of (v : Int) (h0 : 0 ≤ v) (h1 : v < 256) : (((UInt8.ofNat v.toNat).toNat : Nat) : Int) = v := by
  rw [UInt8.toNat_ofNat']; omega

set_option maxRecDepth 100000 in
set_option maxHeartbeats 2000000 in
theorem bytes_any (sb : Nat) (N : Int) (hN0 : 0 ≤ N) (hN : N ≤ 1000) (w : World) (h : Src sb w) :
    Calls Tryd.prog 41 #[.pointer (some ⟨sb, 0, none⟩), .int .i64 N] w fun e w' => (∃ s : ByteArray, e = .returned (.string s) ∧ s.size = N.toNat) ∧ Drew sb w w' := by
  have H : Hid (Src sb w) := h
  have hlt := h.lt
  clear h
  obtain ⟨i0, hi, hz0, hz1, hz2⟩ := info_parts info_u8
  go_enter Tryd.func41, Tryd.ntmps41
  go_wp2_with fail
  go_loopw [5, 6] (fun bv iv wr => ∃ (k : Nat) (zs : List UInt8), iv = .int .i64 k ∧ k ≤ N.toNat ∧ Hid (zs.length = k) ∧ Hid (BL w sb bv zs wr)) (fun _ iv _ => N.toNat - (intOf iv).toNat)
  case atStart => exact ⟨0, [], rfl, Nat.zero_le _, rfl, bl_start H.out⟩
  case round =>
    obtain ⟨k, zs, rfl, hk, hl, hF⟩ := hrel
    by_cases hlt2 : k < N.toNat
    · have hlz : (k : Int) < N := by omega
      go_wp2_with fail
      refine (n_any _ 256 _ hF.out.2.1.1 (by omega)).mono ?_
      rintro e w1 ⟨⟨v, rfl, v0, v1, _⟩, hD⟩
      have v2 : v < 256 := v1 (by omega)
      have HF1 : Hid (BL w sb _ zs w1) := hF.out.draw hD
      clear hD hF v1
      have hbv := byte_of v v0 v2
      go_wp2_with (at_builtin; refine wpList_append_own _ rfl _ _ 22 rfl w.heap.size 5 i0 (.int .u8 0) 1 1 Tryd.underlying22 hi hz0 hz1 hz2 rfl (by decide) _ _ _ rfl (HF1.out.1.1.alloc _) ⟨w1.heap.size, 0, none⟩ 1 1 [.int .u8 v] rfl rfl ?c1 ?c2 ?c3 ?c4 ?c5 ?_)
      case c1 =>
        intro j u hj
        match j, hj with
        | 0, hj => simp at hj; subst hj; simp [Addr.add]
      case c2 => intro u hu; simp at hu; subst hu; rfl
      case c3 => have := hl.out; unfold maxLen; omega
      case c4 => have := hl.out; omega
      case c5 => have := HF1.out.2.1.2.size; simp; omega
      · intro v' w2 hown hgrow hnil
        have HF2 : Hid (BL w sb v' (zs ++ [UInt8.ofNat v.toNat]) w2) := HF1.out.push hgrow (by unfold bcell; rw [hbv]; exact hown) hnil
        clear hown hgrow hnil HF1
        go_wp2_with fail
        go_roundw
        case rel => exact ⟨k + 1, zs ++ [UInt8.ofNat v.toNat], by go_num, by omega, by show _ = _; have := hl.out; simp; omega, HF2⟩
        case measure => simp [intOf]; omega
    · obtain rfl : k = N.toNat := by omega
      have hge : ¬ ((N.toNat : Nat) : Int) < N := by omega
      obtain ⟨g, cp, rfl, hg, hc⟩ := hF.out.1.form
      have hcv := run_convert_bytes_back (P := Tryd.prog) wr 22 9 5 ⟨g, 0, none⟩ cp zs Tryd.underlying22 Tryd.underlying5 Tryd.underlying9 hc
      clear hc
      go_wp2_with fail
      go_ret
      exact ⟨⟨_, rfl, by show zs.toArray.size = _; simpa using hl.out⟩, hF.out.2.1⟩
end Go.Proofs.YtgkgpdionhfkmaaDoor
