/-
  The laws' conversions, comparisons and marks of sewers.
-/
import Derived.Test.YtokbhkcpkilcmaaDoorSwEx1
namespace Go.Proofs.YtokbhkcpkilcmaaDoor
open Go.RowKit Go.Deep

/-- Sewers, numbers, that were handed in: anywhere in memory. -/
def RcsIn (a : Option Addr) (n : Nat) (rs : Nat → Sw.Rc) (w : World) : Prop := IsIn a (n * 6) (scF rs) w
theorem RcsIn.below {a : Option Addr} {n : Nat} {rs : Nat → Sw.Rc} {w w' : World} (h : RcsIn a n rs w) (hb : Below w.heap.size w w') : RcsIn a n rs w' := IsIn.below h hb
abbrev IntsIn (a : Option Addr) (n : Nat) (f : Nat → Int) (w : World) : Prop := IsIn a n f w
abbrev MkBlk (T : TypeId) (g N k : Nat) (w : World) : Prop := IsBlk T g N (mk1 k) w
theorem toReachS_any (a : Option Addr) (n cap : Nat) (rs : Nat → Sw.Rc) (w : World) (h : RcsIn a n rs w) (hn : n ≤ 1048576) :
    Calls Tryd.prog 9 #[.slice a n cap] w fun e w' => (e = .returned (.slice (some ⟨w.heap.size, 0, none⟩) n n) ∧ RcBlk w.heap.size n rs w') ∧ Below w.heap.size w w' := ntoSewerS_any a n cap (scF rs) w h hn
theorem eqReachS_same (a b : Option Addr) (n ca cb : Nat) (rs : Nat → Sw.Rc) (w : World) (h1 : RcsAt a n rs w) (h2 : RcsAt b n rs w) (hn : n ≤ 1048576) :
    Calls Tryd.prog 13 #[.slice a n ca, .slice b n cb] w fun e w' => e = .returned (.bool true) ∧ Below w.heap.size w w' := neqSewerS_same a b n ca cb (scF rs) w h1 h2 hn
theorem sz_in (a : Option Addr) (n cap : Nat) (w : World) (hn : n ≤ 1048576) :
    Calls Tryd.prog 7 #[.slice a n cap, .int .i64 1048576] w fun e w' => e = .returned (.int .i64 ((1048576 - n : Nat) : Int)) ∧ w' = w := nszSewer_in a n cap 1048576 w hn (by omega)
theorem sz_over (a : Option Addr) (n cap : Nat) (w : World) (hn : 1048576 < n) (hm : n ≤ 9223372036854775807) :
    Calls Tryd.prog 7 #[.slice a n cap, .int .i64 1048576] w fun e w' => e = .returned (.int .i64 (-1)) ∧ w' = w := nszSewer_over a n cap 1048576 w hn (by omega) hm
theorem toInt64S_any (a : Option Addr) (n cap : Nat) (f : Nat → Int) (w : World) (h : IntsIn a n f w) (hn : n ≤ 1048576) :
    Calls Tryd.prog 10 #[.slice a n cap] w fun e w' => (e = .returned (.slice (some ⟨w.heap.size, 0, none⟩) n n) ∧ InBlk w.heap.size n f w') ∧ Below w.heap.size w w' := ntoInt64S_any a n cap f w h hn
theorem eqInt64S_same (a b : Option Addr) (n ca cb : Nat) (f : Nat → Int) (w : World) (h1 : IntsAt a n f w) (h2 : IntsAt b n f w) (hn : n ≤ 1048576) :
    Calls Tryd.prog 14 #[.slice a n ca, .slice b n cb] w fun e w' => e = .returned (.bool true) ∧ Below w.heap.size w w' := neqInt64S_same a b n ca cb f w h1 h2 hn
theorem markReachS_any (g n c k : Nat) (rs : Nat → Sw.Rc) (w : World) (h : RcBlk g n rs w) (hn : n ≤ 1048576) (hk : k ≤ 16777216) :
    Calls Tryd.prog 15 #[.slice (some ⟨g, 0, none⟩) n c, .int .i64 k] w fun e w' => e = .returned (.int .i64 ((k + n * 6 : Nat) : Int)) ∧ MkBlk 55 g (n * 6) k w' ∧ Only g w w' := nmarkSewerS_any g n c k (scF rs) w h hn hk
theorem markReachS_nil (k : Nat) (w : World) :
    Calls Tryd.prog 15 #[.slice none 0 0, .int .i64 k] w fun e w' => e = .returned (.int .i64 k) ∧ w' = w := nmarkSewerS_nil k w
theorem markInt64S_any (g n c k : Nat) (f : Nat → Int) (w : World) (h : InBlk g n f w) (hn : n ≤ 1048576) (hk : k ≤ 16777216) :
    Calls Tryd.prog 16 #[.slice (some ⟨g, 0, none⟩) n c, .int .i64 k] w fun e w' => e = .returned (.int .i64 ((k + n : Nat) : Int)) ∧ MkBlk 2 g n k w' ∧ Only g w w' := nmarkInt64S_any g n c k f w h hn hk
theorem markInt64S_nil (k : Nat) (w : World) :
    Calls Tryd.prog 16 #[.slice none 0 0, .int .i64 k] w fun e w' => e = .returned (.int .i64 k) ∧ w' = w := nmarkInt64S_nil k w
theorem heldReachS_any (g n c k : Nat) (w : World) (h : MkBlk 55 g (n * 6) k w) (hn : n ≤ 1048576) (hk : k ≤ 16777216) :
    Calls Tryd.prog 41 #[.slice (some ⟨g, 0, none⟩) n c, .int .i64 k] w fun e w' => e = .returned (.int .i64 ((k + n * 6 : Nat) : Int)) ∧ w' = w := nheldSewerS_any g n c k w h hn hk
theorem heldReachS_nil (k : Nat) (w : World) :
    Calls Tryd.prog 41 #[.slice none 0 0, .int .i64 k] w fun e w' => e = .returned (.int .i64 k) ∧ w' = w := nheldSewerS_nil k w
theorem heldInt64S_any (g n c k : Nat) (w : World) (h : MkBlk 2 g n k w) (hn : n ≤ 1048576) (hk : k ≤ 16777216) :
    Calls Tryd.prog 25 #[.slice (some ⟨g, 0, none⟩) n c, .int .i64 k] w fun e w' => e = .returned (.int .i64 ((k + n : Nat) : Int)) ∧ w' = w := nheldInt64S_any g n c k w h hn hk
theorem heldInt64S_nil (k : Nat) (w : World) :
    Calls Tryd.prog 25 #[.slice none 0 0, .int .i64 k] w fun e w' => e = .returned (.int .i64 k) ∧ w' = w := nheldInt64S_nil k w
end Go.Proofs.YtokbhkcpkilcmaaDoor
