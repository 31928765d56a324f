/-
  Rosters in memory, and what the program reads of them.
-/
import Derived.Test.YtganlipebndeoaaJbMath
import Derived.Test.YtganlipebndeoaaBiLs
import Derived.Test.YtganlipebndeoaaNtEx1
namespace Go.Proofs.Ytganlipebndeoaa
open Go.RowKit Go.Deep

/-- The value of a shift. -/
abbrev shV (x : Je) (s : Int) : Value := .agg #[.int .i64 x.dy, .int .i64 x.cw, .slice x.pa x.an x.ak, .slice x.pr x.rn x.rk, .int .i64 s]
def ShCells (b o : Nat) (x : Je) (s : Int) (w : World) : Prop := w.cell? ⟨b, o, none⟩ = some (.int .i64 x.dy) ∧ w.cell? ⟨b, o + 1, none⟩ = some (.int .i64 x.cw) ∧ w.cell? ⟨b, o + 2, none⟩ = some (.slice x.pa x.an x.ak) ∧ w.cell? ⟨b, o + 3, none⟩ = some (.slice x.pr x.rn x.rk) ∧ w.cell? ⟨b, o + 4, none⟩ = some (.int .i64 s)
theorem ShCells.lt {b o : Nat} {x : Je} {s : Int} {w : World} (h : ShCells b o x s w) : b < w.heap.size := World.block_lt_of_cell? _ _ h.1
theorem ShCells.block {b o : Nat} {x : Je} {s : Int} {w w' : World} (h : ShCells b o x s w) (hb : w'.heap[b]? = w.heap[b]?) : ShCells b o x s w' :=
  ⟨(World.cell?_of_block (a := ⟨b, o, none⟩) hb).trans h.1, (World.cell?_of_block (a := ⟨b, o + 1, none⟩) hb).trans h.2.1, (World.cell?_of_block (a := ⟨b, o + 2, none⟩) hb).trans h.2.2.1, (World.cell?_of_block (a := ⟨b, o + 3, none⟩) hb).trans h.2.2.2.1, (World.cell?_of_block (a := ⟨b, o + 4, none⟩) hb).trans h.2.2.2.2⟩
/-- A roster in memory. -/
def ShAt (a : Option Addr) (m : Nat) (bs : Nat → Je) (s : Nat → Int) (w : World) : Prop := m = 0 ∨ ∃ b, a = some ⟨b, 0, none⟩ ∧ ∀ i, i < m → ShCells b (i * 5) (bs i) (s i) w
theorem ShAt.below {a : Option Addr} {m : Nat} {bs : Nat → Je} {s : Nat → Int} {w w' : World} (h : ShAt a m bs s w) (hb : Below w.heap.size w w') : ShAt a m bs s w' := by
  rcases h with h | ⟨b, e, h⟩
  · exact Or.inl h
  · exact Or.inr ⟨b, e, fun i hi => (h i hi).block (hb.block _ (h i hi).lt)⟩
theorem ShAt.at_ {a : Option Addr} {m : Nat} {bs : Nat → Je} {s : Nat → Int} {w : World} (h : ShAt a m bs s w) {i : Nat} (hi : i < m) : ∃ b, a = some ⟨b, 0, none⟩ ∧ ShCells b (i * 5) (bs i) (s i) w := by
  rcases h with h | ⟨b, e, h⟩
  · omega
  · exact ⟨b, e, h i hi⟩
theorem ShAt.part {a : Option Addr} {m n : Nat} {bs : Nat → Je} {s : Nat → Int} {w : World} (h : ShAt a m bs s w) (hn : n ≤ m) : ShAt a n bs s w := by
  rcases h with h | ⟨b, e, h⟩
  · exact Or.inl (by omega)
  · exact Or.inr ⟨b, e, fun i hi => h i (by omega)⟩
theorem jmax_cases (a b : Int) : (b ≤ a ∧ max a b = a) ∨ (a < b ∧ max a b = b) := by omega
set_option maxHeartbeats 1000000 in
theorem shEnd_any (x : Je) (s : Int) (w : World) (h : -1000000000 ≤ s ∧ s ≤ 1000000000) (h2 : 0 ≤ x.dy ∧ x.dy ≤ 1000000000) :
    Calls Try.prog 41 #[shV x s] w fun e w' => e = .returned (.int .i64 (s + x.dy)) ∧ Below w.heap.size w w' := by
  obtain ⟨dy, cw, pa, an, ak, A, pr, rn, rk, R⟩ := x
  simp only at h2 ⊢
  go_enter Try.func41, Try.ntmps41
  go_wp2_with fail
  go_ret
  exact ⟨by first | rfl | go_num, nbel_alloc _ _⟩
set_option maxRecDepth 100000 in
set_option maxHeartbeats 2000000 in
theorem ready_any (a : Option Addr) (m k : Nat) (bs : Nat → Je) (s : Nat → Int) (x : Je) (i : Nat) (w : World) (h : ShAt a m bs s w) (hx : IsAt x.pa x.an x.A w) (hr : Pl.Rising x.an x.A i) (hi : i ≤ m) (hn : x.an ≤ 1048576) (hb : Jb.Bnd i bs s 1000000) :
    Calls Try.prog 30 #[.slice a m k, jbV x] w fun e w' => e = .returned (.int .i64 (Jb.rdy bs s x)) ∧ Below w.heap.size w w' := by
  obtain ⟨dy, cw, pa, an, ak, A, pr, rn, rk, R⟩ := x
  obtain ⟨q, hq⟩ : ∃ q, q = Jb.rdy bs s ⟨dy, cw, pa, an, ak, A, pr, rn, rk, R⟩ := ⟨_, rfl⟩
  rw [← hq]
  have HQ : Hid (Jb.rdyTo bs s ⟨dy, cw, pa, an, ak, A, pr, rn, rk, R⟩ an = q) := by rw [hq]; rfl
  obtain ⟨RT, hRT⟩ : ∃ RT, RT = Jb.rdyTo bs s ⟨dy, cw, pa, an, ak, A, pr, rn, rk, R⟩ := ⟨_, rfl⟩
  rw [← hRT] at HQ
  have R0 : Hid (RT 0 = 0) := by rw [hRT]; rfl
  have RS : Hid (∀ t, RT (t + 1) = max (RT t) (s (A t).toNat + (bs (A t).toNat).dy)) := fun t => by rw [hRT]; rfl
  have RB : Hid (∀ t, t ≤ an → 0 ≤ RT t ∧ RT t ≤ 1000000) := fun t ht => by rw [hRT]; exact ⟨Jb.rdyTo_nn _ _ _ _, Jb.rdyTo_le (by omega) hr hb t ht⟩
  simp only at hx hr hn ⊢
  have H := Lib.hid (h.below (nbel_alloc w (.cells #[.int .i64 dy, .int .i64 cw, .slice pa an ak, .slice pr rn rk] 44)))
  have HX := Lib.hid (hx.below (nbel_alloc w (.cells #[.int .i64 dy, .int .i64 cw, .slice pa an ak, .slice pr rn rk] 44)))
  have HR := Lib.hid hr
  have HBN := Lib.hid hb
  obtain ⟨W, hW⟩ : ∃ W, W = w.alloc (.cells #[.int .i64 dy, .int .i64 cw, .slice pa an ak, .slice pr rn rk] 44) := ⟨_, rfl⟩
  rw [← hW] at H HX
  have HB0 : Hid (Below w.heap.size w W) := by show Below _ _ _; rw [hW]; exact nbel_alloc _ _
  have HW := Lib.hid hW
  clear h hx hr hb hW hRT hq
  go_enter Try.func30, Try.ntmps30
  go_wp2_with fail
  rw [← HW.out]
  clear HW
  go_loopw [5, 7, 11] (fun dv _ iv wr => ∃ (t : Nat), t ≤ an ∧ iv = .int .i64 t ∧ dv = .int .i64 (RT t) ∧ Hid (Below W.heap.size W wr)) (fun _ _ iv _ => an - (intOf iv).toNat)
  case atStart => exact ⟨0, Nat.zero_le _, rfl, by rw [R0.out], Below.refl _ _⟩
  case round =>
    obtain ⟨t, ht, rfl, rfl, hB⟩ := hrel
    by_cases hlt : t < an
    · have hltz : (t : Int) < (an : Int) := by omega
      obtain ⟨b, rfl, c0⟩ := (HX.out.below hB.out).at1 hlt
      have h1 := (HR.out t hlt).1
      obtain ⟨p, hp⟩ : ∃ p, p = (A t).toNat := ⟨_, rfl⟩
      have hpA : A t = (p : Int) := by omega
      have hpm : p < m := by omega
      have hpz : (p : Int) < (m : Int) := by omega
      rw [hpA] at c0
      obtain ⟨b2, rfl, ⟨d0, d1, d2, d3, d4⟩⟩ := (H.out.below hB.out).at_ hpm
      have hbd := HBN.out p (by omega)
      have HRS : Hid (RT (t + 1) = max (RT t) (s p + (bs p).dy)) := by show _ = _; rw [RS.out t, ← hp]
      obtain ⟨rb1, rb2⟩ := RB.out t (by omega)
      clear h1 hp hpA
      go_wp2_with fail
      refine (shEnd_any (bs p) (s p) _ (by omega) (by omega)).mono ?_
      rintro e w1 ⟨rfl, hb⟩
      have HB1 : Hid (Below W.heap.size W w1) := hB.out.trans (hb.mono hB.out.size)
      clear hb c0 d0 d1 d2 d3 d4
      obtain ⟨ev, hev⟩ : ∃ ev, ev = s p + (bs p).dy := ⟨_, rfl⟩
      rw [← hev] at HRS ⊢
      obtain ⟨rv, hrv⟩ : ∃ rv, rv = RT t := ⟨_, rfl⟩
      rw [← hrv] at HRS ⊢
      clear hev hrv rb1 rb2 hbd
      rcases jmax_cases rv ev with ⟨q1, q2⟩ | ⟨q1, q2⟩
      · have HQ2 := Lib.hid q2
        clear q2
        go_wp2_with fail
        go_roundw
        case rel => exact ⟨t + 1, by omega, by go_num, by rw [HRS.out, HQ2.out], HB1⟩
        case measure => simp [intOf]; omega
      · have HQ2 := Lib.hid q2
        clear q2
        go_wp2_with fail
        go_roundw
        case rel => exact ⟨t + 1, by omega, by go_num, by rw [HRS.out, HQ2.out], HB1⟩
        case measure => simp [intOf]; omega
    · obtain rfl : t = an := by omega
      go_wp2_with fail
      go_ret
      exact ⟨by rw [HQ.out]; rfl, HB0.out.trans (hB.out.mono HB0.out.size)⟩
end Go.Proofs.Ytganlipebndeoaa
