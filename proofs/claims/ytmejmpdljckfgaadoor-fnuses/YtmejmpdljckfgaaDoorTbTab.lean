/-
  The text of a number, by the library's table of powers of ten.
-/
import Derived.Test.YtmejmpdljckfgaaDoorNtMem
import Derived.Test.YtmejmpdljckfgaaDoorStShelf
import Derived.Lib.AppendIntMem
import Derived.Lib.ItoaLen
namespace Go.Proofs.YtmejmpdljckfgaaDoor
open Go.RowKit Go.Deep

abbrev TabOk (w : World) : Prop := Lib.TabIs Tryd.prog w "internal/strconv.uint64pow10" .u64 Lib.pow10Tab
theorem tab_below {w w' : World} (h : TabOk w) (hb : Below w.heap.size w w') : TabOk w' := Lib.tabBelow_of_tabIs h w' hb
theorem lgrow_below {w : World} (q : Nat) (os : Array Obj) : Below w.heap.size w (Go.Sort.grow (w.drewN q) os) := ⟨rfl, rfl, rfl, by simp [Go.Sort.grow, World.drewN], fun k hk => by rw [Go.Sort.heap_grow_old]; rfl; exact hk⟩
theorem itoaS_any (k : Nat) (hk : k < 100000) (w : World) (ht : TabOk w) : Calls Tryd.prog 70 #[.int .i64 k] w fun e w' => (∃ s, e = .returned (.string s) ∧ s.size ≤ 200) ∧ Below w.heap.size w w' :=
  (Tryd.strconv_Itoa (k : Int) (by omega) (by omega) w ht).mono fun _ _ ⟨he, q, os, hw⟩ => ⟨⟨_, he, by have := Lib.itoa_length_le (k : Int) (by omega) (by omega); simp [ByteArray.size]; omega⟩, by rw [hw]; exact lgrow_below q os⟩
end Go.Proofs.YtmejmpdljckfgaaDoor
