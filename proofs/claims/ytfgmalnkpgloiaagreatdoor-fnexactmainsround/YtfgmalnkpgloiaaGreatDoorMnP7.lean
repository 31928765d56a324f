/-
  A round of mains: the program's walk.
-/
import Derived.Test.YtfgmalnkpgloiaaGreatDoorMnP6
import Derived.Test.YtfgmalnkpgloiaaGreatDoorMnP1
import Derived.Test.YtfgmalnkpgloiaaGreatDoorMnTl
import Derived.Test.YtfgmalnkpgloiaaGreatDoorMnV3
namespace Go.Proofs.YtfgmalnkpgloiaaGreatDoor
open Go.RowKit Go.Deep
theorem kd_ne {m : Mn.Mains} {gk g n : Nat} {f : Nat → Int} {w : World} (hk : KdBlk gk m w) (hf : IsBlk 2 g n f w) : gk ≠ g := by
  rintro rfl
  obtain ⟨F, ⟨c1, e1, _⟩, _⟩ := hk
  obtain ⟨_, _, _, ⟨c2, e2, _⟩, _⟩ := hf
  rw [e1] at e2
  cases e2
theorem no_loops {m : Mn.Mains} (hr : Mn.Right m) (h : m.pn = 0) : m.ln = 0 := by
  rcases Nat.eq_zero_or_pos m.ln with e | e
  · exact e
  · have := hr.l 0 e
    have := (this.num 0 this.n1).lt
    omega
theorem round_nil {m : Mn.Mains} (h : m.ln = 0) (f : Nat → Int) : Mn.round m f = f := by unfold Mn.round; rw [h]; rfl
set_option maxRecDepth 100000 in
theorem round0_any (m : Mn.Mains) (la : Option Addr) (lk gk : Nat) (fa : Option Addr) (fc : Nat) (w : World) (hl : m.ln = 0) :
    Calls Tryz.prog 69 #[rmV la m.ln lk gk m.pn fa fc] w fun e w' => e = .returned (.tuple #[]) ∧ Below w.heap.size w w' := by
  have R0 := Lib.hid (rowN_alloc w [.slice la 0 lk, .slice (some ⟨gk, 0, none⟩) m.pn m.pn, .slice fa m.pn fc] 70)
  have B0 := Lib.hid (nbel_alloc w (.cells #[.slice la 0 lk, .slice (some ⟨gk, 0, none⟩) m.pn m.pn, .slice fa m.pn fc] 70))
  rw [hl]
  clear hl
  go_enter Tryz.func69, Tryz.ntmps69
  go_wp2_with fail
  go_loopw [12] (fun iv wr => iv = .int .i64 0 ∧ Hid (Below w.heap.size w wr)) (fun _ _ => 0)
  case atStart => exact ⟨rfl, B0⟩
  case round =>
    obtain ⟨rfl, hB⟩ := hrel
    go_wp2_with fail
    go_end0
    exact ⟨rfl, hB.out⟩
/-- A round over a list that an answer is. -/
theorem round_ow (m : Mn.Mains) (la : Option Addr) (lk gk : Nat) (a : Option Addr) (c : Nat) (f : Nat → Int) (b w : World) (hb : Below b.heap.size b w) (hl : LsAt la m.ln m.LN m.L b) (hk : KdBlk gk m w) (ho : OwL 2 b.heap.size m.pn a c f w) (hr : Mn.Right m) (hok : Mn.AllOk m f) :
    Calls Tryz.prog 69 #[rmV la m.ln lk gk m.pn a c] w fun e w' => e = .returned (.tuple #[]) ∧ OwL 2 b.heap.size m.pn a c (Mn.round m f) w' ∧ OnlyO a w w' := by
  rcases ho with ⟨rfl, h0, rfl⟩ | ⟨g, rfl, h1, h2⟩
  · have hl0 := no_loops hr h0
    exact (round0_any m la lk gk none 0 w hl0).mono (fun e w' ⟨he, hbb⟩ => ⟨he, Or.inl ⟨rfl, h0, rfl⟩, hbb.os, hbb.tape, hbb.output, hbb.size, fun k hk _ => hbb.block k hk⟩)
  · exact (round_any m la lk gk g c f b w hb hl h1 hk (kd_ne hk h2) h2 hr hok).mono (fun e w' ⟨he, h3, h4⟩ => ⟨he, Or.inr ⟨g, rfl, h1, h3⟩, h4.os, h4.tape, h4.output, h4.size, fun k hk hne => h4.block k hk (fun e => hne (by rw [e]))⟩)
/-- What a round tells, ahead of the telling. -/
inductive RmEnd (m : Mn.Mains) (xn : Nat) (f : Nat → Int) (B : Nat) (e : Ending) (W : World) : Prop
  | no (c : Int) (s0 s : ByteArray) : (c = 2 ∧ 400 < xn) ∨ (c = 1 ∧ xn ≤ 400 ∧ ¬ (Mn.Right m ∧ xn = m.pn ∧ Mn.AllOk m f)) → e = .returned (.tuple #[moV none 0 0 none 0 0 0 0 0 0, .iface 107 (.agg #[.string s0, errV s c])]) → RmEnd m xn f B e W
  | ok (a : Option Addr) (c : Nat) : xn ≤ 400 → Mn.Right m → xn = m.pn → Mn.AllOk m f → e = .returned (.tuple #[moV a m.pn c none 0 0 (Mn.rest m (Mn.round m f)) 0 0 0, .nilIface]) → OwL 2 B m.pn a c (Mn.round m f) W → RmEnd m xn f B e W
/-- What stands behind the flows that were given. -/
structure RdQ (m : Mn.Mains) (pa : Option Addr) (pk : Nat) (la : Option Addr) (lk : Nat) (wa : Option Addr) (wk : Nat) (X gk : Nat) (a : Option Addr) (c : Nat) (f : Nat → Int) (w1 w W : World) : Prop where
  res : W.rowIs (w.heap.size + 1) 31 6 (rowN (moL none 0 0 none 0 0 0 0 0 0))
  r6 : W.rowIs X 70 3 (rowN [.slice la m.ln lk, .slice (some ⟨gk, 0, none⟩) m.pn m.pn, .slice a m.pn c])
  k : KdBlk gk m W
  o : OwL 2 (w.heap.size + 2) m.pn a c f W
  at_ : MnAt m pa la wa W
  old : Below w.heap.size w W
theorem RdQ.below {m : Mn.Mains} {pa : Option Addr} {pk : Nat} {la : Option Addr} {lk : Nat} {wa : Option Addr} {wk X gk : Nat} {a : Option Addr} {c : Nat} {f : Nat → Int} {w1 w W W' : World} (h : RdQ m pa pk la lk wa wk X gk a c f w1 w W) (hb : Below W.heap.size W W') : RdQ m pa pk la lk wa wk X gk a c f w1 w W' := ⟨nrow_below h.res hb, nrow_below h.r6 hb, h.k.below hb, h.o.below hb, h.at_.below hb, h.old.trans (hb.mono h.old.size)⟩
end Go.Proofs.YtfgmalnkpgloiaaGreatDoor
