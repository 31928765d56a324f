/-
  The text of a program: the program's.
-/
import Derived.Test.YtiaeobocenanlaaDoorPgTx
import Derived.Test.YtiaeobocenanlaaDoorPgI5
import Derived.Test.YtiaeobocenanlaaDoorPgS2
import Derived.Test.YtiaeobocenanlaaDoorJnShelf
import Derived.Test.YtiaeobocenanlaaDoorTextB
namespace Go.Proofs.YtiaeobocenanlaaDoor
open Go.RowKit Go.Deep

theorem gstep_append_own {P : Program} {ops : Array Oper} {o : Oper} {a : Act} {w : World} {K : Act → World → Prop} {Q : Exit → Act → World → Prop} {E : Prop}
    (hg : o.guard = none) (s x : Operand) (t : TypeId) (hop : o.op = Op.call { callee := Callee.builtin Builtin.append, args := #[s, x], argTypes := #[t, t] }) (B : Nat)
    (e : TypeId) (i : TypeInfo) (z : Value) (size bytes : Nat) (h1 : P.underlying t = some (.slice e)) (h2 : P.info? e = some i) (h3 : i.zero = some z) (h4 : i.size = size) (h5 : i.bytes = bytes) (h6 : z.cells.size = size) (h7 : 0 < size)
    (v : Value) (n : Nat) (olds : List Value) (hs : a.eval s = v) (hown : w.ownsRow B e size v n olds)
    (ad : Addr) (m c : Nat) (news : List Value) (hx : a.eval x = .slice (some ad) m c) (hn : news.length = m * size) (hc : ∀ j u, news[j]? = some u → w.cell? (ad.add j) = some u) (h1c : ∀ u ∈ news, u.oneCell' = true)
    (b1 : n + m ≤ maxLen) (b2 : (n + m) * bytes ≤ 140737488355328) (hB : B ≤ w.heap.size)
    (hK : ∀ v' w', w'.ownsRow B e size v' (n + m) (olds ++ news) → w.grownBy w' v.ownBlock → K (a.put o.dst v') w') :
    if Region.wanted o (yielded ops a.tmps) = true then Oper.wp P o a w K Q else E := by
  have hw : Region.wanted o (yielded ops a.tmps) = true := by simp [Region.wanted, hg]
  rw [if_pos hw]
  obtain ⟨v', w', hrun, r1, r2, _⟩ := run_append_own (P := P) w B t o.type e i z size bytes h1 h2 h3 h4 h5 h6 h7 v n olds hown ad m c news hn hc h1c b1 b2 hB
  unfold Oper.wp
  simp [execOp, hop, resolve, invoke, builtin, hs, hx, hrun, Result.andThen]
  exact hK v' w' r1 r2

theorem strinfo : (Tryd.prog.info? 9).map (fun i => (i.zero, i.size, i.bytes)) = some (some (.string ⟨#[]⟩), 1, 16) := by kernel_rfl
/-- A list of texts of one's own. -/
def StO (B : Nat) (v : Value) (xs : List ByteArray) (W : World) : Prop := W.ownsRow B 9 1 v xs.length (xs.map Value.string)
theorem StO.below {B : Nat} {v : Value} {xs : List ByteArray} {W W' : World} (h : StO B v xs W) (hb : Below W.heap.size W W') : StO B v xs W' := by
  refine ⟨h.1, ?_⟩
  rcases h.2 with h2 | ⟨g, cap, cur, e1, e2, e3, e4, e5, e6, e7⟩
  · exact Or.inl h2
  · exact Or.inr ⟨g, cap, cur, e1, e2, (hb.block g (Array.getElem?_eq_some_iff.1 e3).1).trans e3, e4, e5, e6, e7⟩
theorem StO.typ {B : Nat} {v : Value} {xs : List ByteArray} {W : World} (h : StO B v xs W) {g : Nat} (hg : v.ownBlock = some g) : ∃ cur, W.heap[g]? = some (.cells cur 9 (0, 0)) := by
  rcases h.2 with h2 | ⟨g', cap, cur, e, _, h3, _⟩
  · rw [h2.1] at hg; cases hg
  · rw [e] at hg
    have : g' = g := by simpa [Value.ownBlock] using hg
    subst this
    exact ⟨cur, h3⟩
theorem StO.ne {B k N : Nat} {t : TypeId} {F : Nat → Value} {v : Value} {xs : List ByteArray} {W : World} (h : StO B v xs W) (hne : t ≠ 9) (hr : W.rowIs k t N F) : some k ≠ v.ownBlock := fun e => by
  obtain ⟨cur, hc⟩ := h.typ e.symm
  obtain ⟨c2, h3, _⟩ := hr
  rw [hc] at h3
  simp at h3
  exact hne h3.2.symm
theorem StO.cells {B : Nat} {v : Value} {xs : List ByteArray} {W : World} (h : StO B v xs W) (hp : xs ≠ []) : ∃ g c, v = .slice (some ⟨g, 0, none⟩) xs.length c ∧ g < W.heap.size ∧ xs.length ≤ c ∧ ∀ (j : Nat) x, xs[j]? = some x → W.cell? ⟨g, 0 + j, none⟩ = some (.string x) := by
  rcases h.2 with h2 | ⟨g, cap, cur, e1, e2, e3, e4, e5, e6, e7⟩
  · exfalso
    have : xs.length = 0 := h2.2
    exact hp (List.eq_nil_of_length_eq_zero this)
  · refine ⟨g, cap, e1, (Array.getElem?_eq_some_iff.1 e3).1, by omega, fun j x hj => ?_⟩
    have hl := (List.getElem?_eq_some_iff.1 hj).1
    have h1 : (cur.toList.take (xs.length * 1))[j]? = (xs.map Value.string)[j]? := by rw [e7]
    rw [List.getElem?_take, if_pos (by omega), Array.getElem?_toList, List.getElem?_map, hj] at h1
    rw [Nat.zero_add]
    simp [World.cell?, e3, h1]
theorem StO.nil (B : Nat) (W : World) : StO B (.slice none 0 0) [] W := World.ownsRow_nil _ _ _ _
theorem StO.push {B : Nat} {v : Value} {xs : List ByteArray} {s : ByteArray} {W : World} (h : W.ownsRow B 9 1 v (xs.length + 1) (xs.map Value.string ++ [.string s])) : StO B v (xs ++ [s]) W := by
  unfold StO
  rw [List.length_append, List.map_append]
  exact h
set_option maxRecDepth 100000 in
theorem nameAt_any (p : Pg.Prog) (la : Option Addr) (lk : Nat) (fa : Option Addr) (fk : Nat) (wa : Option Addr) (wk : Nat) (z : Int) (w : World) (h : BksAt la p.bn p.B w) (h0 : 0 ≤ z) (h1 : z < p.bn) :
    Calls Tryd.prog 21 #[pgV p la lk fa fk wa wk, .int .i64 z] w fun e w' => e = .returned (.string (Pg.nmAt p z)) ∧ Below w.heap.size w w' := by
  obtain ⟨n, hn⟩ : ∃ n : Nat, (n : Int) = z := ⟨z.toNat, by omega⟩
  have HE : Hid (Pg.nmAt p z = (p.B n).name) := by show _ = _; unfold Pg.nmAt; rw [show z.toNat = n by omega]
  subst hn
  have hnb : n < p.bn := by omega
  obtain ⟨b, e, c0, c1, c2, c3⟩ := h.at_ hnb
  subst e
  have hbl : b < w.heap.size := World.block_lt_of_cell? _ _ c0
  go_enter Tryd.func21, Tryd.ntmps21
  go_wp2_with fail
  go_ret
  exact ⟨by rw [HE.out]; rfl, nbel_alloc _ _⟩
set_option maxRecDepth 100000 in
theorem lineBy_any (g c : Nat) (xs : List ByteArray) (w : World) (hc : ∀ (j : Nat) x, xs[j]? = some x → w.cell? ⟨g, 0 + j, none⟩ = some (.string x)) (hg : g < w.heap.size) (hx : xs.length ≤ 10) (hcap : xs.length ≤ c) (hl : (Pg.lineOf xs).length ≤ 1000) :
    Calls Tryd.prog 19 #[.slice (some ⟨g, 0, none⟩) xs.length c] w fun e w' => e = .returned (.string ⟨(Pg.lineOf xs).toArray⟩) ∧ Below w.heap.size w w' := by
  have HL : Hid (Pg.lineOf xs = Lib.join (xs.map (·.data.toList)) [32] ++ [10]) := rfl
  have hj : (Lib.join (xs.map (·.data.toList)) [32]).length ≤ 1000 := by
    unfold Pg.lineOf at hl
    simp only [List.length_append] at hl
    omega
  clear hl
  go_enter Tryd.func19, Tryd.ntmps19
  go_wp2_with fail
  refine (Tryd.strings_Join g 0 c xs ⟨#[32]⟩ _ hc hg (by omega) hcap (by show (Lib.join _ [32]).length ≤ _; omega)).mono ?_
  rintro e w1 ⟨rfl, hb⟩
  have HB := Lib.hid hb
  obtain ⟨l, hl2⟩ : ∃ l, l = Lib.join (xs.map (·.data.toList)) [32] := ⟨_, rfl⟩
  have hl3 : Lib.join (xs.map (·.data.toList)) (⟨#[32]⟩ : ByteArray).data.toList = l := hl2.symm
  rw [hl3]
  have hl4 : l.length ≤ 1000 := by rw [hl2]; exact hj
  have HL2 := Lib.hid hl2
  clear hb hl2 hl3 hj hc hg hcap
  go_wp2_with fail
  go_ret
  refine ⟨?_, HB.out⟩
  rw [HL.out, ← HL2.out]
  simp
  apply ByteArray.ext
  simp
end Go.Proofs.YtiaeobocenanlaaDoor
