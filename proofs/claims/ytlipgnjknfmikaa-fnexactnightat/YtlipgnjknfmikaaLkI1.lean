/-
  The program's reads: a NaN for all that is missing; what a full window holds.
-/
import Derived.Test.YtlipgnjknfmikaaLkW
namespace Go.Proofs.Ytlipgnjknfmikaa
open Go.RowKit Go.Deep
attribute [local go_sem] lrun_store_float

namespace Lk
def nanW : Nat := 9221120237041090561
/-- What a read is told as. -/
def rd (f : Nat → Nat) (i : Nat) : Nat := if Fl.measB (f i) then f i else nanW
theorem nan_ne : FloatKind.f64.format.order nanW nanW = none := by decide +kernel
theorem rd_order (f : Nat → Nat) (i : Nat) : (!(FloatKind.f64.format.order (rd f i) (rd f i) == some .eq)) = !Fl.measB (f i) := by
  unfold rd
  cases h : Fl.measB (f i)
  · rw [if_neg (by decide), nan_ne]; rfl
  · obtain ⟨s, m, e, hr, _⟩ := Fl.meas_read _ h
    rw [if_pos rfl, Fl.ord_self hr]; rfl
end Lk
theorem kfrombits_run (x : Int) (w : World) : (callFunc 51 #[.int .u64 x]).run Try.prog w = .ok (.value (.float .f64 x.toNat)) w := by
  rw [run_callFunc_extern (fn := Try.f51) (e := Extern.MathFloatBits.float64frombits) Try.func51 (by kernel_rfl) (by kernel_rfl) (by kernel_rfl) (by kernel_rfl)]
  rfl
theorem nan_any (w : World) : Calls Try.prog 48 #[] w fun e w' => e = .returned (.float .f64 Lk.nanW) ∧ w' = w := by
  have h2 := kfrombits_run 9221120237041090561
  go_enter Try.func48, Try.ntmps48
  go_wp2
  go_ret
  exact ⟨rfl, rfl⟩

theorem fset {w W : World} {g n k : Nat} {F : Nat → Value} (h : W.rowIs g 27 n F) (hb : Below w.heap.size w W) (hg : w.heap.size ≤ g) (v : Value) : (W.setCell ⟨g, k, none⟩ v).rowIs g 27 n (fun j => if j = k then v else F j) ∧ Below w.heap.size w (W.setCell ⟨g, k, none⟩ v) :=
  ⟨h.set k v, hb.setCell (p := ⟨g, k, none⟩) hg v⟩
/-- The first k reads are there. -/
def RdTo (g n k : Nat) (f : Nat → Nat) (W : World) : Prop := W.rowIs g 27 n (fun j => .float .f64 (if j < k then Lk.rd f j else 0))
theorem rdto_put {g n k x : Nat} {f : Nat → Nat} {W : World} (h : RdTo g n k f W) (hx : x = Lk.rd f k) : RdTo g n (k + 1) f (W.setCell ⟨g, k, none⟩ (.float .f64 x)) :=
  (h.set k _).congr (fun j _ => by
    subst hx
    by_cases e : j = k
    · subst e; simp
    · rw [if_neg e]; congr 1; by_cases e2 : j < k
      · rw [if_pos e2, if_pos (by omega)]
      · rw [if_neg e2, if_neg (by omega)])
theorem rdto_put2 {g n k x y : Nat} {f : Nat → Nat} {W : World} (h : RdTo g n k f W) (hx : x = Lk.rd f k) : RdTo g n (k + 1) f ((W.setCell ⟨g, k, none⟩ (.float .f64 y)).setCell ⟨g, k, none⟩ (.float .f64 x)) :=
  ((h.set k _).set k _).congr (fun j _ => by
    subst hx
    by_cases e : j = k
    · subst e; simp
    · rw [if_neg e, if_neg e]; congr 1; by_cases e2 : j < k
      · rw [if_pos e2, if_pos (by omega)]
      · rw [if_neg e2, if_neg (by omega)])
set_option maxHeartbeats 2000000 in
theorem readsOf_any (a : Option Addr) (n cap : Nat) (f : Nat → Nat) (w : World) (h : FlAt a n f w) (hn : n ≤ 400) :
    Calls Try.prog 38 #[.slice a n cap] w fun e w' => e = .returned (.slice (some ⟨w.heap.size, 0, none⟩) n n) ∧ w'.rowIs w.heap.size 27 n (fun j => .float .f64 (Lk.rd f j)) ∧ Below w.heap.size w w' := by
  have hmk := run_make_row' (P := Try.prog) 23 27 (.float .f64 0) 8 Try.underlying23 linfo_f64 rfl .i64 .i64 n (by omega) (by omega)
  have H := Lib.hid h
  clear h
  go_enter Try.func38, Try.ntmps38
  go_wp2
  clear hmk
  go_loopw [4, 5, 11] (fun _ _ i wx => ∃ k : Nat, k ≤ n ∧ i = .int .i64 k ∧ RdTo w.heap.size n k f wx ∧ Below w.heap.size w wx) (fun _ _ i _ => n - (intOf i).toNat)
  case atStart => exact ⟨0, Nat.zero_le _, rfl, (World.rowIs_made w (.float .f64 0) n 27).congr (fun i _ => by simp), (Below.refl _ _).alloc (Nat.le_refl _) _⟩
  case round =>
    obtain ⟨k, hk, rfl, hrow, hbel⟩ := hrel
    by_cases hlt : k < n
    · have hltz : (k : Int) < (n : Int) := by omega
      have hk0 : (0 : Int) ≤ (k : Int) := by omega
      obtain ⟨b, rfl, c0⟩ := (H.out.below hbel).at_ hlt
      have c1 := World.rowIs.cell hrow hlt
      have c2 := World.rowIs.frozen hrow k
      have Hrow := Lib.hid hrow
      have hlt2 := World.rowIs.lt hrow
      clear hrow
      cases hm : Fl.measB (f k)
      · have HX : Hid (Lk.nanW = Lk.rd f k) := by show _ = _; unfold Lk.rd; rw [hm]; rfl
        go_wp2_with (first | (go_at_call 36; refine (implMeas_any _ _).mono ?_; rintro e w' ⟨rfl, rfl⟩) | (go_at_call 48; refine (nan_any _).mono ?_; rintro e w' ⟨rfl, rfl⟩))
        go_roundw
        case rel => exact ⟨k + 1, by omega, by go_num, rdto_put2 Hrow.out HX.out, (hbel.setCell (Nat.le_refl _) _).setCell (Nat.le_refl _) _⟩
        case measure => simp [intOf]; omega
      · have HX : Hid (f k = Lk.rd f k) := by show _ = _; unfold Lk.rd; rw [hm]; rfl
        go_wp2_with (first | (go_at_call 36; refine (implMeas_any _ _).mono ?_; rintro e w' ⟨rfl, rfl⟩))
        go_roundw
        case rel => exact ⟨k + 1, by omega, by go_num, rdto_put Hrow.out HX.out, hbel.setCell (Nat.le_refl _) _⟩
        case measure => simp [intOf]; omega
    · obtain rfl : k = n := by omega
      have Hrow := Lib.hid hrow
      clear hrow
      go_wp2
      go_ret
      exact ⟨rfl, Hrow.out.congr (fun j hj => by rw [if_pos hj]), hbel⟩

/-- The first k places of a window are there. -/
def WrTo (g s k : Nat) (ys : List Nat) (W : World) : Prop := W.rowIs g 27 s (fun j => .float .f64 (if j < k then Lk.slotR s ys j else 0))
theorem wrto_put {g s k x : Nat} {ys : List Nat} {W : World} (h : WrTo g s k ys W) (hx : x = Lk.slotR s ys k) : WrTo g s (k + 1) ys (W.setCell ⟨g, k, none⟩ (.float .f64 x)) :=
  (h.set k _).congr (fun j _ => by
    subst hx
    by_cases e : j = k
    · subst e; simp
    · rw [if_neg e]; congr 1; by_cases e2 : j < k
      · rw [if_pos e2, if_pos (by omega)]
      · rw [if_neg e2, if_neg (by omega)])
set_option maxHeartbeats 2000000 in
theorem wreads_any (g s : Nat) (ys : List Nat) (w : World) (h : Win g s ys w) (hs : 2 ≤ s) (hs2 : s ≤ 400) :
    Calls Try.prog 46 #[.slice (some ⟨g, 0, none⟩) s s] w fun e w' => e = .returned (.slice (some ⟨w.heap.size, 0, none⟩) s s) ∧ w'.rowIs w.heap.size 27 s (fun j => .float .f64 (Lk.slotR s ys j)) ∧ Below w.heap.size w w' := by
  have hmk := run_make_row' (P := Try.prog) 23 27 (.float .f64 0) 8 Try.underlying23 linfo_f64 rfl .i64 .i64 s (by omega) (by omega)
  have hglt := World.rowIs.lt h
  have H := Lib.hid h
  clear h
  go_enter Try.func46, Try.ntmps46
  go_wp2
  clear hmk
  go_loopw [4, 5, 11] (fun _ _ i wx => ∃ k : Nat, k ≤ s ∧ i = .int .i64 k ∧ WrTo w.heap.size s k ys wx ∧ Below w.heap.size w wx) (fun _ _ i _ => s - (intOf i).toNat)
  case atStart => exact ⟨0, Nat.zero_le _, rfl, (World.rowIs_made w (.float .f64 0) s 27).congr (fun i _ => by simp), (Below.refl _ _).alloc (Nat.le_refl _) _⟩
  case round =>
    obtain ⟨k, hk, rfl, hrow, hbel⟩ := hrel
    by_cases hlt : k < s
    · have hltz : (k : Int) < (s : Int) := by omega
      have hk0 : (0 : Int) ≤ (k : Int) := by omega
      have hw := World.rowIs.of_block H.out (hbel.block _ hglt)
      have w0 := (World.rowIs.cell hw (i := k * 2) (by omega)).trans (congrArg some (wcell_even s ys k))
      have w1 := (World.rowIs.cell hw (i := k * 2 + 1) (by omega)).trans (congrArg some (wcell_odd s ys k))
      have c1 := World.rowIs.cell hrow hlt
      have c2 := World.rowIs.frozen hrow k
      have Hrow := Lib.hid hrow
      have hlt2 := World.rowIs.lt hrow
      clear hrow hw
      go_wp2_with fail
      go_roundw
      case rel => exact ⟨k + 1, by omega, by go_num, wrow_below (wrto_put Hrow.out rfl) (bel_alloc _ _), (hbel.setCell (Nat.le_refl _) _).alloc (by simp; omega) _⟩
      case measure => simp [intOf]; omega
    · obtain rfl : k = s := by omega
      have Hrow := Lib.hid hrow
      clear hrow
      go_wp2
      go_ret
      exact ⟨rfl, Hrow.out.congr (fun j hj => by rw [if_pos hj]), hbel⟩
end Go.Proofs.Ytlipgnjknfmikaa
