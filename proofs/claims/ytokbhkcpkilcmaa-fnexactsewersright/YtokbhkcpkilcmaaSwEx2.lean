/-
  The laws' conversions, comparisons and marks of sewers.
-/
import Derived.Test.YtokbhkcpkilcmaaSwEx1
namespace Go.Proofs.Ytokbhkcpkilcmaa
open Go.RowKit Go.Deep

/-- Sewers, numbers, that were handed in: anywhere in memory. -/
def RcsIn (a : Option Addr) (n : Nat) (rs : Nat → Sw.Rc) (w : World) : Prop := IsIn a (n * 6) (scF rs) w
theorem RcsIn.below {a : Option Addr} {n : Nat} {rs : Nat → Sw.Rc} {w w' : World} (h : RcsIn a n rs w) (hb : Below w.heap.size w w') : RcsIn a n rs w' := IsIn.below h hb
abbrev IntsIn (a : Option Addr) (n : Nat) (f : Nat → Int) (w : World) : Prop := IsIn a n f w
abbrev MkBlk (T : TypeId) (g N k : Nat) (w : World) : Prop := IsBlk T g N (mk1 k) w
theorem toReachS_any (a : Option Addr) (n cap : Nat) (rs : Nat → Sw.Rc) (w : World) (h : RcsIn a n rs w) (hn : n ≤ 1048576) :
    Calls Try.prog 6 #[.slice a n cap] w fun e w' => (e = .returned (.slice (some ⟨w.heap.size, 0, none⟩) n n) ∧ RcBlk w.heap.size n rs w') ∧ Below w.heap.size w w' := ntoSewerS_any a n cap (scF rs) w h hn
theorem eqReachS_same (a b : Option Addr) (n ca cb : Nat) (rs : Nat → Sw.Rc) (w : World) (h1 : RcsAt a n rs w) (h2 : RcsAt b n rs w) (hn : n ≤ 1048576) :
    Calls Try.prog 8 #[.slice a n ca, .slice b n cb] w fun e w' => e = .returned (.bool true) ∧ Below w.heap.size w w' := neqSewerS_same a b n ca cb (scF rs) w h1 h2 hn
theorem sz_in (a : Option Addr) (n cap : Nat) (w : World) (hn : n ≤ 1048576) :
    Calls Try.prog 4 #[.slice a n cap, .int .i64 1048576] w fun e w' => e = .returned (.int .i64 ((1048576 - n : Nat) : Int)) ∧ w' = w := nszSewer_in a n cap 1048576 w hn (by omega)
theorem sz_over (a : Option Addr) (n cap : Nat) (w : World) (hn : 1048576 < n) (hm : n ≤ 9223372036854775807) :
    Calls Try.prog 4 #[.slice a n cap, .int .i64 1048576] w fun e w' => e = .returned (.int .i64 (-1)) ∧ w' = w := nszSewer_over a n cap 1048576 w hn (by omega) hm
end Go.Proofs.Ytokbhkcpkilcmaa
