/-
  A filling's list.
-/
import Derived.Test.YtjmnehlgefpheaaDoorTbF2
namespace Go.Proofs.YtjmnehlgefpheaaDoor
open Go.RowKit Go.Deep

set_option maxRecDepth 100000 in
set_option maxHeartbeats 2000000 in
theorem reverse_none (w : World) :
    Calls Tryd.prog 54 #[.slice none 0 0] w fun e w' => e = .returned (.tuple #[]) ∧ w' = w := by
  go_enter Tryd.func54, Tryd.ntmps54
  go_wp2_with fail
  go_loopw [2, 3] (fun iv jv wr => iv = .int .i64 0 ∧ jv = .int .i64 (-1) ∧ wr = w) (fun _ _ _ => 0)
  case atStart => exact ⟨rfl, by go_num, rfl⟩
  case round =>
    obtain ⟨rfl, rfl, rfl⟩ := hrel
    go_wp2_with fail
    exact bodyPost_end (v := .tuple #[]) (by simp [results, Tryd.results54, go_sem]) rfl ⟨rfl, rfl⟩
theorem reverse_nil_any (B : Nat) (a : Option Addr) (c : Nat) (l : List Tb.Pc) (w : World) (h : OwL 38 B (l.length * 3) a c (Tb.fl l) w) (hl : l.length ≤ 1000) :
    Calls Tryd.prog 54 #[.slice a l.length c] w fun e w' => e = .returned (.tuple #[]) ∧ OwL 38 B (l.length * 3) a c (Tb.fl l.reverse) w' ∧ (B ≤ w.heap.size → Below B w w') := by
  rcases h with ⟨rfl, h2, rfl⟩ | ⟨g, rfl, h1, h2⟩
  · have e : l.length = 0 := by omega
    rw [e]
    exact (reverse_none w).mono (fun e w' ⟨he, hw⟩ => ⟨he, Or.inl ⟨rfl, by omega, rfl⟩, fun _ => by rw [hw]; exact Below.refl _ _⟩)
  · exact (reverse_any g c l w h2 hl).mono (fun e w' ⟨he, hi, ho⟩ => ⟨he, Or.inr ⟨g, rfl, h1, hi⟩, fun hB => ho.below h1 hB⟩)
theorem take_pv {Q : List Tb.Pc} {j : Nat} (h : j < Q.length) : pv (Q.take (j + 1)) = pv (Q.take j) ++ pcL (Tb.pg Q j) := by rw [Tb.take_pg h, pv_app, pv_one]
set_option maxRecDepth 100000 in
set_option maxHeartbeats 8000000 in
theorem flist_any (B h : Nat) (G : Nat → Nat) (Q : List Tb.Pc) (w : World) (q : Que B h G Q w) (hl : Q.length ≤ 1000) :
    Calls Tryd.prog 48 #[.pointer (some ⟨h, 0, none⟩)] w fun e w' => (∃ a c, e = .returned (.slice a Q.length c) ∧ OwL 38 w.heap.size (Q.length * 3) a c (Tb.fl Q.reverse) w') ∧ Below w.heap.size w w' := by
  obtain ⟨i1, hi1, hy0, hy1, hy2⟩ := info_parts pinfo
  obtain ⟨bg, hf, _⟩ := q.fill
  obtain ⟨⟨f0, f1, f2⟩, _⟩ := rowN3 hf
  have hmk := pmk0 Q.length (by omega)
  obtain ⟨W, hW⟩ : ∃ W, W = w.alloc (.cells (madeCells #[.int .i64 0, .int .i64 0, .int .i64 0] (Q.length * 3)) 38) := ⟨_, rfl⟩
  have hb : Below w.heap.size w W := by rw [hW]; exact nbel_alloc _ _
  have HOW : Hid (W.ownsRow w.heap.size 38 3 (.slice (some ⟨w.heap.size, 0, none⟩) 0 Q.length) 0 (pv (Q.take 0))) := by
    show W.ownsRow _ _ _ _ _ _
    rw [hW]
    exact World.ownsRow_made w _ Q.length (Nat.le_refl _) (by unfold maxLen; omega) (size_madeCells _ _)
  have HI := Lib.hid q.inj
  have HQ := Lib.hid q
  obtain ⟨⟨g0, g1, g2⟩, _⟩ := rowN3 (nrow_below hf hb)
  rw [hW] at g0 g1 g2
  have HB := Lib.hid hb
  have HW := Lib.hid hW
  clear q hf hb hW
  go_enter Tryd.func48, Tryd.ntmps48
  go_wp2_with fail
  rw [← HW.out]
  clear f0 f1 f2 g0 g1 g2 hmk HW
  go_loopw [3, 4] (fun lv av wr => ∃ (j : Nat), j ≤ Q.length ∧ av = .pointer (nxA G j Q.length) ∧ Hid (wr.ownsRow w.heap.size 38 3 lv j (pv (Q.take j))) ∧ Hid (Below w.heap.size w wr)) (fun _ av _ => dist G Q.length av)
  case atStart => exact ⟨0, Nat.zero_le _, rfl, HOW, HB⟩
  case round =>
    obtain ⟨j, hj, rfl, ho, hb⟩ := hrel
    clear HB HOW
    by_cases hlt : j < Q.length
    · have hn := (HQ.out.below hb.out).node j hlt
      obtain ⟨⟨n0, n1, n2, n3⟩, _⟩ := rowN4 hn
      have HD : Hid (dist G Q.length (.pointer (nxA G (j + 1) Q.length)) < dist G Q.length (.pointer (nxA G j Q.length))) := by
        show _ < _
        rw [dist_at HI.out hj, dist_at HI.out (by omega : j + 1 ≤ Q.length)]
        omega
      have e1 : nxA G j Q.length = some ⟨G j, 0, none⟩ := by unfold nxA; rw [if_pos hlt]
      rw [e1] at HD ⊢
      have hbs := hb.out.size
      have HGL : Hid (inQ h G Q.length (G j)) := Or.inr ⟨j, hlt, rfl⟩
      clear hn e1
      go_wp2_with (at_builtin; refine wpList_append_own _ rfl _ _ 23 rfl w.heap.size 38 i1 _ 3 24 Tryd.underlying23 hi1 hy0 hy1 hy2 rfl (by decide) _ _ _ rfl (ho.out.alloc _) ⟨wr.heap.size, 0, none⟩ 1 1 (pcL (Tb.pg Q j)) rfl rfl ?d1 ?d2 ?d3 ?d4 ?d5 ?_)
      case d1 =>
        intro j x hj
        match j, hj with
        | 0, hj => simp at hj; subst hj; simp [Addr.add]
        | 1, hj => simp at hj; subst hj; simp [Addr.add]
        | 2, hj => simp at hj; subst hj; simp [Addr.add]
      case d2 =>
        intro x hx
        simp at hx
        rcases hx with rfl | rfl | rfl <;> rfl
      case d3 => unfold maxLen; omega
      case d4 => omega
      case d5 => simp; omega
      intro v5 W5 hown hgrow hnil
      have hrow : ∀ k, u3.ownBlock = some k → w.heap.size ≤ k := fun k e => (ho.out.lt k e).1
      have HB5 : Hid (Below w.heap.size w W5) := (hb.out.alloc hbs _).grown hgrow (by simp; omega) hrow
      have HO5 : Hid (W5.ownsRow w.heap.size 38 3 v5 (j + 1) (pv (Q.take (j + 1)))) := by
        show W5.ownsRow _ _ _ _ _ _
        rw [take_pv hlt]; exact hown
      clear hown hgrow hnil hrow ho hb hbs
      clear n0 n1 n2 n3
      obtain ⟨⟨n0, n1, n2, n3⟩, _⟩ := rowN4 ((HQ.out.below HB5.out).node j hlt)
      go_wp2_with fail
      go_roundw
      case rel => exact ⟨j + 1, by omega, rfl, HO5, HB5⟩
      case measure => exact HD.out
    · obtain rfl : j = Q.length := by omega
      have e1 : nxA G Q.length Q.length = none := by unfold nxA; rw [if_neg (by omega)]
      rw [e1]
      clear e1
      obtain ⟨a, c, e, how⟩ := owl_of (l := Q) (by have := ho.out; rwa [List.take_length] at this)
      subst e
      have HO := Lib.hid how
      have HBS := Lib.hid hb.out.size
      clear how ho
      go_wp2_with fail
      refine (reverse_nil_any w.heap.size a c Q _ HO.out hl).mono ?_
      rintro e w2 ⟨rfl, h2, h3⟩
      have H2 := Lib.hid h2
      have HB2 : Hid (Below w.heap.size w w2) := hb.out.trans (h3 HBS.out)
      clear h2 h3
      go_wp2_with fail
      go_ret
      exact ⟨⟨a, c, rfl, H2.out⟩, HB2.out⟩
end Go.Proofs.YtjmnehlgefpheaaDoor
