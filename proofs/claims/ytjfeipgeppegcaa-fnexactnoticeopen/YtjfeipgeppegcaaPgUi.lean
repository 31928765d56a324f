/-
  What a block leans on: the program's.
-/
import Derived.Test.YtjfeipgeppegcaaPgUm
import Derived.Test.YtjfeipgeppegcaaPgI5
import Derived.Test.YtjfeipgeppegcaaPgS2
namespace Go.Proofs.Ytjfeipgeppegcaa
open Go.RowKit Go.Deep

/-- The cells of a list of places. -/
def ugV (l : List Nat) : List Value := l.map fun x : Nat => Value.int .i64 (x : Int)
theorem ugV_app (l : List Nat) (x : Nat) : ugV (l ++ [x]) = ugV l ++ [.int .i64 (x : Nat)] := by simp [ugV]
theorem ug_low {B B' n size : Nat} {e : TypeId} {v : Value} {xs : List Value} {W : World} (h : W.ownsRow B e size v n xs) (hb : B' ≤ B) : W.ownsRow B' e size v n xs := ⟨h.1, h.2.imp id (fun ⟨g, cap, cur, e1, e2, r⟩ => ⟨g, cap, cur, e1, Nat.le_trans hb e2, r⟩)⟩
theorem uginfo : (Try.prog.info? 2).map (fun i => (i.zero, i.size, i.bytes)) = some (some (.int .i64 0), 1, 8) := by kernel_rfl
/-- The marked places. -/
def Pg.mkL (u : Nat → Bool) (i : Nat) : List Nat := (List.range i).filter (fun j => u j)
theorem Pg.mkL_yes {u : Nat → Bool} {i : Nat} (h : u i = true) : Pg.mkL u (i + 1) = Pg.mkL u i ++ [i] := by unfold Pg.mkL; rw [List.range_succ, List.filter_append]; simp only [List.filter_cons, h, List.filter_nil]; simp
theorem Pg.mkL_no {u : Nat → Bool} {i : Nat} (h : u i = false) : Pg.mkL u (i + 1) = Pg.mkL u i := by unfold Pg.mkL; rw [List.range_succ, List.filter_append]; simp only [List.filter_cons, h, List.filter_nil]; simp
theorem Pg.mkL_len (u : Nat → Bool) (i : Nat) : (Pg.mkL u i).length ≤ i := Nat.le_trans (List.length_filter_le _ _) (by simp)
set_option maxRecDepth 100000 in
set_option maxHeartbeats 4000000 in
theorem marked_any (g N c : Nat) (u : Nat → Bool) (w : World) (h : BoBlk g N u w) (hN : N ≤ 1048576) :
    Calls Try.prog 30 #[.slice (some ⟨g, 0, none⟩) N c] w fun e w' => (∃ v, e = .returned v ∧ w'.ownsRow w.heap.size 2 1 v (Pg.mkL u N).length (ugV (Pg.mkL u N))) ∧ Below w.heap.size w w' := by
  obtain ⟨i1, hi1, hy0, hy1, hy2⟩ := info_parts uginfo
  have H := Lib.hid h
  clear h
  have HO0 : Hid (w.ownsRow w.heap.size 2 1 (.slice none 0 0) (Pg.mkL u 0).length (ugV (Pg.mkL u 0))) := World.ownsRow_nil _ _ _ _
  go_enter Try.func30, Try.ntmps30
  go_wp2_with fail
  go_loopw [3, 8] (fun dv iv wr => ∃ (i : Nat), i ≤ N ∧ iv = .int .i64 i ∧ Hid (wr.ownsRow w.heap.size 2 1 dv (Pg.mkL u i).length (ugV (Pg.mkL u i))) ∧ Hid (Below w.heap.size w wr)) (fun _ iv _ => N - (intOf iv).toNat)
  case atStart => exact ⟨0, Nat.zero_le _, rfl, HO0, Below.refl _ _⟩
  case round =>
    obtain ⟨i, hi, rfl, hO, hB⟩ := hrel
    clear HO0
    by_cases hlt : i < N
    · have hltz : (i : Int) < (N : Int) := by omega
      have cn := (H.out.below hB.out).at_ hlt
      cases hu : u i with
      | true =>
        have HSTEP := Lib.hid (Pg.mkL_yes hu)
        have hll := Pg.mkL_len u i
        have hsz := hB.out.size
        rw [hu] at cn
        clear hu
        go_wp2_with (at_builtin; refine wpList_append_own _ rfl _ _ 29 rfl w.heap.size 2 i1 _ 1 8 Try.underlying29 hi1 hy0 hy1 hy2 rfl (by decide) _ _ _ rfl (hO.out.alloc _) ⟨wr.heap.size, 0, none⟩ 1 1 [.int .i64 (i : Nat)] rfl rfl ?d1 ?d2 ?d3 ?d4 ?d5 ?_)
        case d1 =>
          intro q x hq
          match q, hq with
          | 0, hq =>
            simp at hq
            subst hq
            exact (rowN_alloc wr [.int .i64 (i : Nat)] 2).cell (i := 0) (by simp)
        case d2 =>
          intro x hx
          simp at hx
          subst hx
          rfl
        case d3 => unfold maxLen; omega
        case d4 => omega
        case d5 => simp; omega
        intro v5 W5 hown hgrow hnil
        have HB5 : Hid (Below w.heap.size w W5) := (hB.out.alloc hB.out.size _).grown hgrow (by simp; omega) (fun k e => (hO.out.lt k e).1)
        have HO5 : Hid (W5.ownsRow w.heap.size 2 1 v5 (Pg.mkL u (i + 1)).length (ugV (Pg.mkL u (i + 1)))) := by
          show World.ownsRow _ _ _ _ _ _ _
          rw [HSTEP.out, List.length_append, ugV_app]
          exact hown
        clear hown hgrow hnil hO hB cn
        go_wp2_with fail
        go_roundw
        case rel => exact ⟨i + 1, by omega, by go_num, HO5, HB5⟩
        case measure => simp [intOf]; omega
      | false =>
        have HSTEP := Lib.hid (Pg.mkL_no hu)
        rw [hu] at cn
        clear hu
        go_wp2_with fail
        go_roundw
        case rel => exact ⟨i + 1, by omega, by go_num, by rw [HSTEP.out]; exact hO, hB⟩
        case measure => simp [intOf]; omega
    · obtain rfl : i = N := by omega
      go_wp2_with fail
      go_ret
      exact ⟨⟨_, rfl, hO.out⟩, hB.out⟩
end Go.Proofs.Ytjfeipgeppegcaa
