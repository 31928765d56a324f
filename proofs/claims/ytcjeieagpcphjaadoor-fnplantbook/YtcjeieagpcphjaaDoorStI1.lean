/-
  The contracts of the program's tests of curves, rules, flows and stores.
-/
import Derived.Test.YtcjeieagpcphjaaDoorStMem
import Derived.Test.YtcjeieagpcphjaaDoorAw
import Derived.Shelf.SlSortCmp.QuietGrown
namespace Go.Proofs.YtcjeieagpcphjaaDoor
open Go.RowKit Go.Deep

set_option maxHeartbeats 400000 in
theorem within_any (x m : Int) (b : Bool) (hb : b = true ↔ (0 ≤ x ∧ x ≤ m)) (w : World) :
    Calls Tryd.prog 77 #[.int .i64 x, .int .i64 m] w fun e w' => e = .returned (.bool b) ∧ w' = w := by
  by_cases h1 : 0 ≤ x
  · by_cases h2 : x ≤ m
    · obtain rfl : b = true := hb.2 ⟨h1, h2⟩
      go_enter Tryd.func77, Tryd.ntmps77
      go_wp2_with fail
      go_ret
      exact ⟨rfl, rfl⟩
    · obtain rfl : b = false := by
        cases b with
        | false => rfl
        | true => exact absurd (hb.1 rfl).2 h2
      go_enter Tryd.func77, Tryd.ntmps77
      go_wp2_with fail
      go_ret
      exact ⟨rfl, rfl⟩
  · obtain rfl : b = false := by
      cases b with
      | false => rfl
      | true => exact absurd (hb.1 rfl).1 h1
    go_enter Tryd.func77, Tryd.ntmps77
    go_wp2_with fail
    go_ret
    exact ⟨rfl, rfl⟩
theorem BoolEnd.eq {P : Prop} {e : Ending} (h : BoolEnd P e) {b : Bool} (hb : b = true ↔ P) : e = .returned (.bool b) := by
  obtain ⟨b', rfl, hb'⟩ := h
  obtain rfl : b' = b := by cases b <;> cases b' <;> simp_all
  rfl
theorem box3 (w : World) (a b c : Value) (t : TypeId) : (w.alloc (.cells #[a, b, c] t)).cell? ⟨w.heap.size, 0, none⟩ = some a ∧ (w.alloc (.cells #[a, b, c] t)).cell? ⟨w.heap.size, 1, none⟩ = some b ∧ (w.alloc (.cells #[a, b, c] t)).cell? ⟨w.heap.size, 2, none⟩ = some c := by
  refine ⟨?_, ?_, ?_⟩ <;> (simp only [World.cell?, blk_alloc_new]; rfl)
/-- A store as a value. -/
abbrev stV (ca : Option Addr) (cn ck : Nat) (ra : Option Addr) (rn rk : Nat) (v : Int) : Value := .agg #[.slice ca cn ck, .slice ra rn rk, .int .i64 v]
/-- A store in memory. -/
structure StAt (ca : Option Addr) (cn : Nat) (c : Nat → St.Pr) (ra : Option Addr) (rn : Nat) (r : Nat → St.Pr) (w : World) : Prop where
  cu : PrsAt ca cn c w
  ru : PrsAt ra rn r w
theorem StAt.below {ca ra : Option Addr} {cn rn : Nat} {c r : Nat → St.Pr} {w w' : World} (h : StAt ca cn c ra rn r w) (hb : Below w.heap.size w w') : StAt ca cn c ra rn r w' := ⟨h.cu.below hb, h.ru.below hb⟩
theorem StAt.gr {ca ra : Option Addr} {cn rn : Nat} {c r : Nat → St.Pr} {w w' : World} (h : StAt ca cn c ra rn r w) (hb : Gr w w') : StAt ca cn c ra rn r w' := h.below hb.bel
theorem grown_of_gr {P : Program} {f : FuncId} {args : Array Value} {w : World} {n : Nat} {os : Array Obj} {v : Value}
    (h : Calls P f args (Go.Sort.grow (w.drewN n) os) fun e w' => e = .returned v ∧ Gr (Go.Sort.grow (w.drewN n) os) w') : Calls P f args (Go.Sort.grow (w.drewN n) os) fun e w'' => e = .returned v ∧ ∃ p : GrownBy, w'' = Go.Sort.grow (w.drewN p.n) p.os :=
  Calls.grown_of (h.mono fun _ _ ⟨h1, h2⟩ => ⟨h1, h2.eq⟩)
end Go.Proofs.YtcjeieagpcphjaaDoor
