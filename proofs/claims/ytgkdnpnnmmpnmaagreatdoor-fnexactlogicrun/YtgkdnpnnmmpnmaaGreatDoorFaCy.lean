/-
  Facts of ranges for programs, Logics, answers of cycles.
-/
import Derived.Test.YtgkdnpnnmmpnmaaGreatDoorFa
import Derived.Test.YtgkdnpnnmmpnmaaGreatDoorCyMem
import Derived.Test.YtgkdnpnnmmpnmaaGreatDoorPgEx
import Derived.Test.YtgkdnpnnmmpnmaaGreatDoorCyEx1
import Derived.Test.YtgkdnpnnmmpnmaaGreatDoorCyEx
namespace Go.Proofs.YtgkdnpnnmmpnmaaGreatDoor
open Go.RowKit Go.Deep

theorem fact_pg {W : World} {n : Pg.Prog} {B gl gf gw X m : Nat} {T : TypeId} {F : Nat → Value} (hr : W.rowIs X T m F) (h : PgBlk n B gl gf gw W) (hX : B ≤ X) : Fact B W.heap.size (fun V => V.rowIs X T m F ∧ PgBlk n B gl gf gw V) W := by
  have l1 := h.l.lt
  have l2 := h.f.lt
  have l3 := h.w.lt
  have lo := h.lo
  exact ⟨⟨hr, h⟩, fun V V' a hk => ⟨a.1.of_block (hk _ hX hr.lt a.1.lt), ⟨a.2.l.block (hk _ lo.1 l1 a.2.l.lt), a.2.f.block (hk _ lo.2.1 l2 a.2.f.lt), a.2.w.block (hk _ lo.2.2 l3 a.2.w.lt), a.2.lo, a.2.ne⟩⟩, Nat.le_trans lo.1 (Nat.le_of_lt l1), Nat.le_refl _⟩
theorem rng_pg {n : Pg.Prog} {B gl gf gw hi : Nat} {W V W' : World} (h : PgBlk n B gl gf gw W) (h2 : gl < hi ∧ gf < hi ∧ gw < hi) (ho : OnlyG gl gf gw V W') : Rng B hi V W' :=
  ⟨ho.os, ho.tape, ho.output, ho.size, fun k hk hn => ho.block k hk (fun e => hn (by have := h.lo; omega)) (fun e => hn (by have := h.lo; omega)) (fun e => hn (by have := h.lo; omega))⟩
theorem stab_cyo {T : TypeId} {B N c lo hi : Nat} {a : Option Addr} {f : Nat → Int} (hl : lo ≤ B) (hh : ∀ k, a = some ⟨k, 0, none⟩ → k < hi) : Stab lo hi (fun V => CyO T B N a c f V) := fun _ _ h hk => h.keep (fun k e h1 h2 => hk k (Nat.le_trans hl h1) (hh k e) h2)
theorem fact_cyo {T : TypeId} {B N c lo : Nat} {a : Option Addr} {f : Nat → Int} {W : World} (h : CyO T B N a c f W) (hl : lo ≤ B) (hs : lo ≤ W.heap.size) : Fact lo W.heap.size (fun V => CyO T B N a c f V) W := ⟨h, stab_cyo hl (fun _ e => (h.lt e).2), hs, Nat.le_refl _⟩
theorem stab_lgo {T : TypeId} {B n k m l lo hi : Nat} {a b : Option Addr} {f g : Nat → Int} (hl : lo ≤ B) (hh : ∀ j, a = some ⟨j, 0, none⟩ ∨ b = some ⟨j, 0, none⟩ → j < hi) : Stab lo hi (fun V => LgO T B n k m l a b f g V) := fun _ _ h hk => h.keep (fun j e h1 h2 => hk j (Nat.le_trans hl h1) (hh j e) h2)
theorem fact_lgo {T : TypeId} {B n k m l lo : Nat} {a b : Option Addr} {f g : Nat → Int} {W : World} (h : LgO T B n k m l a b f g W) (hl : lo ≤ B) (hs : lo ≤ W.heap.size) : Fact lo W.heap.size (fun V => LgO T B n k m l a b f g V) W := ⟨h, stab_lgo hl (fun _ e => (h.lt e).2), hs, Nat.le_refl _⟩
theorem stab_coo {T : TypeId} {B n k m l p q lo hi : Nat} {a b c : Option Addr} {f g h' : Nat → Int} (hl : lo ≤ B) (hh : ∀ j, a = some ⟨j, 0, none⟩ ∨ b = some ⟨j, 0, none⟩ ∨ c = some ⟨j, 0, none⟩ → j < hi) : Stab lo hi (fun V => CoO T B n k m l p q a b c f g h' V) := fun _ _ h hk => h.keep (fun j e h1 h2 => hk j (Nat.le_trans hl h1) (hh j e) h2)
theorem fact_coo {T : TypeId} {B n k m l p q lo : Nat} {a b c : Option Addr} {f g h' : Nat → Int} {W : World} (h : CoO T B n k m l p q a b c f g h' W) (hl : lo ≤ B) (hs : lo ≤ W.heap.size) : Fact lo W.heap.size (fun V => CoO T B n k m l p q a b c f g h' V) W := ⟨h, stab_coo hl (fun _ e => (h.lt e).2), hs, Nat.le_refl _⟩
theorem rng_a {l : List (Option Addr)} {lo hi : Nat} {V W' : World} (ho : OnlyA l V W') (h : ∀ a j, a ∈ l → a = some ⟨j, 0, none⟩ → lo ≤ j ∧ j < hi) : Rng lo hi V W' :=
  ⟨ho.os, ho.tape, ho.output, ho.size, fun k hk hn => ho.block k hk (fun a ha e => hn (h a k ha e))⟩
theorem row_a {l : List (Option Addr)} {V W' : World} {s n : Nat} {T : TypeId} {F : Nat → Value} (ho : OnlyA l V W') (hr : V.rowIs s T n F) (hne : ∀ a, a ∈ l → a ≠ some ⟨s, 0, none⟩) : W'.rowIs s T n F := hr.of_block (ho.block _ hr.lt hne)
theorem CoO.neR {T S : TypeId} {B n k m l p q g N : Nat} {a b c : Option Addr} {f f' h : Nat → Int} {W : World} {F : Nat → Value} (x : CoO T B n k m l p q a b c f f' h W) (hr : W.rowIs g S N F) (hT : T ≠ S) : ¬ (a = some ⟨g, 0, none⟩ ∨ b = some ⟨g, 0, none⟩ ∨ c = some ⟨g, 0, none⟩) := by
  rintro (e | e | e)
  · exact x.s.t.ne hr hT e
  · exact x.s.c.ne hr hT e
  · exact x.o.ne hr hT e
theorem cyput5 {W : World} {g : Nat} {T : TypeId} {l : List Value} (h : W.rowIs g T 5 (rowN l)) (hl : l.length = 5) (v0 v1 v2 v3 v4 : Value) : World.rowIs (((((W.setCell ⟨g, 0, none⟩ v0).setCell ⟨g, 1, none⟩ v1).setCell ⟨g, 2, none⟩ v2).setCell ⟨g, 3, none⟩ v3).setCell ⟨g, 4, none⟩ v4) g T 5 (rowN [v0, v1, v2, v3, v4]) := by
  match l, hl with
  | [a, b, c, d, e], _ => exact rowN_put (rowN_put (rowN_put (rowN_put (rowN_put h 0 v0 (by simp)) 1 v1 (by simp)) 2 v2 (by simp)) 3 v3 (by simp)) 4 v4 (by simp)
theorem cyblk5 {W : World} {g k : Nat} (h : k ≠ g) (v0 v1 v2 v3 v4 : Value) : (World.heap (((((W.setCell ⟨g, 0, none⟩ v0).setCell ⟨g, 1, none⟩ v1).setCell ⟨g, 2, none⟩ v2).setCell ⟨g, 3, none⟩ v3).setCell ⟨g, 4, none⟩ v4))[k]? = W.heap[k]? := (cyhs _ _ _ h 4 v4).trans ((cyhs _ _ _ h 3 v3).trans ((cyhs _ _ _ h 2 v2).trans ((cyhs _ _ _ h 1 v1).trans (cyhs _ _ _ h 0 v0))))
theorem cybel5 {B g : Nat} {W0 W : World} (h : Below B W0 W) (hg : B ≤ g) (v0 v1 v2 v3 v4 : Value) : Below B W0 (((((W.setCell ⟨g, 0, none⟩ v0).setCell ⟨g, 1, none⟩ v1).setCell ⟨g, 2, none⟩ v2).setCell ⟨g, 3, none⟩ v3).setCell ⟨g, 4, none⟩ v4) := (((((h.setCell (p := ⟨g, 0, none⟩) hg v0).setCell (p := ⟨g, 1, none⟩) hg v1).setCell (p := ⟨g, 2, none⟩) hg v2).setCell (p := ⟨g, 3, none⟩) hg v3).setCell (p := ⟨g, 4, none⟩) hg v4)
theorem ints_conv (a : Option Addr) (n cap : Nat) (f : Nat → Int) (w : World) (h : IsIn a n f w) (hn : n ≤ 1048576) :
    Calls Tryz.prog 28 #[.slice a n cap] w fun e w' => (∃ g, e = .returned (.slice (some ⟨g, 0, none⟩) n n) ∧ w.heap.size ≤ g ∧ IsBlk 2 g n f w') ∧ Below w.heap.size w w' :=
  (ntoInt64S_any a n cap f w h hn).mono (fun _ _ ⟨⟨h1, h2⟩, h3⟩ => ⟨⟨_, h1, Nat.le_refl _, h2⟩, h3⟩)
theorem ops_conv (a : Option Addr) (n cap : Nat) (f : Nat → Int) (w : World) (h : IsIn a (n * 3) f w) (hn : n ≤ 1048576) :
    Calls Tryz.prog 40 #[.slice a n cap] w fun e w' => (∃ g, e = .returned (.slice (some ⟨g, 0, none⟩) n n) ∧ w.heap.size ≤ g ∧ IsBlk 88 g (n * 3) f w') ∧ Below w.heap.size w w' :=
  (ntoOpS_any a n cap f w h hn).mono (fun _ _ ⟨⟨h1, h2⟩, h3⟩ => ⟨⟨_, h1, Nat.le_refl _, h2⟩, h3⟩)
theorem markOps_any {B N c k : Nat} {a : Option Addr} {f : Nat → Int} (w : World) (h : CyO 88 B (N * 3) a c f w) (hn : N ≤ 1048576) (hk : k ≤ 1073741824) :
    Calls Tryz.prog 42 #[.slice a N c, .int .i64 (k : Nat)] w fun e w' => e = .returned (.int .i64 ((k + N * 3 : Nat) : Int)) ∧ CyO 88 B (N * 3) a c (mk1 k) w' ∧ OnlyA [a] w w' := by
  rcases h with ⟨rfl, h0, rfl⟩ | ⟨g, rfl, h1, h2⟩
  · obtain rfl : N = 0 := by omega
    exact (nmarkOpS_nil k w).mono (fun e w' ⟨he, hw⟩ => ⟨he, Or.inl ⟨rfl, rfl, rfl⟩, by rw [hw]; exact ⟨rfl, rfl, rfl, Nat.le_refl _, fun _ _ _ => rfl⟩⟩)
  · exact (nmarkOpS_any g N c k f w h2 hn hk).mono (fun e w' ⟨he, hi, ho⟩ => ⟨he, Or.inr ⟨g, rfl, h1, hi⟩, ho.os, ho.tape, ho.output, ho.size, fun j hj hne => ho.block j hj (fun e => hne (some ⟨g, 0, none⟩) (by simp) (by rw [e]))⟩)
end Go.Proofs.YtgkdnpnnmmpnmaaGreatDoor
