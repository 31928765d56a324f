/-
  The contracts of the program's FrameRight and FrameText.
-/
import Derived.Test.YtdlojhncbgfjbaaGreatDoorFrI1
import Derived.Test.YtdlojhncbgfjbaaGreatDoorFrSpec
import Derived.Lib.ConvBytes
import Derived.Lib.AtoiErrMem
import Derived.Lib.AppendStr
import Derived.Laws.AppendOwn
import Derived.Laws.MakeOwn
namespace Go.Proofs.YtdlojhncbgfjbaaGreatDoor
open Go.RowKit

set_option maxRecDepth 100000 in
set_option maxHeartbeats 1000000 in
theorem implFrRight (u k s : Int) (b : ByteArray) (w : World) :
    Calls Tryz.prog 118 #[.agg #[.int .i64 u, .int .i64 k, .int .i64 s, .string b]] w fun e w' => e = .returned (.bool (Fr.rightB u k s b.size)) ∧ Below w.heap.size w w' := by
  go_enter Tryz.func118, Tryz.ntmps118
  go_wp2_with fail
  all_goals
    go_ret
    refine ⟨?_, (Below.refl _ _).alloc (Nat.le_refl _) _⟩
    first
      | (show Ending.returned (Value.bool false) = _
         have e : Fr.rightB u k s b.size = false := by unfold Fr.rightB; apply decide_eq_false; omega
         rw [e])
      | (show Ending.returned (Value.bool (decide ((b.size : Int) ≤ 64))) = _
         have e : Fr.rightB u k s b.size = decide ((b.size : Int) ≤ 64) := by unfold Fr.rightB; apply decide_eq_decide.2; omega
         rw [e])

theorem info_by : (Tryz.prog.info? 5).map (fun i => (i.zero, i.size, i.bytes)) = some (some (.int .u8 0), 1, 1) := by kernel_rfl
def u8c (c : UInt8) : Value := .int .u8 c.toNat
theorem u8c_by8 (x : Int) (h0 : 0 ≤ x) (h1 : x < 256) : u8c (Fr.by8 x) = .int .u8 x := by unfold u8c; rw [Fr.by8_toNat x h0 h1]
/-- Bytes in a row of the function's own. -/
def OwnBy (B : Nat) (v : Value) (l : List UInt8) (W : World) : Prop := W.ownsRow B 5 1 v l.length (l.map u8c) ∧ v ≠ .slice none 0 0
theorem OwnBy.form {B : Nat} {v : Value} {l : List UInt8} {W : World} (h : OwnBy B v l W) : ∃ g cap, v = .slice (some ⟨g, 0, none⟩) l.length cap ∧ B ≤ g ∧ l.length ≤ cap ∧ ∀ j (hj : j < l.length), W.cell? ⟨g, j, none⟩ = some (.int .u8 l[j].toNat) := by
  obtain ⟨h', hn⟩ := h
  have hh := h'
  obtain ⟨h1, h2⟩ := h'
  rcases h2 with h2 | ⟨g, cap, cur, e1, e2, e3, e4, _⟩
  · exact absurd h2.1 hn
  · have hb : v.ownBlock = some g := by rw [e1]; rfl
    refine ⟨g, cap, e1, e2, e4, fun j hj => ?_⟩
    have c := hh.cells hb j (u8c l[j]) (by rw [List.getElem?_map, List.getElem?_eq_getElem hj]; rfl)
    have e : ((⟨g, 0, none⟩ : Addr).add j) = ⟨g, j, none⟩ := by unfold Addr.add; split <;> simp_all
    rw [e] at c
    exact c
theorem below_grown {B : Nat} {w W W' : World} {row : Option Nat} (h : Below B w W) (hs : B ≤ W.heap.size) (hg : W.grownBy W' row) (hr : ∀ k, row = some k → B ≤ k) : Below B w W' :=
  ⟨hg.os.trans h.os, hg.tape.trans h.tape, hg.output.trans h.output, Nat.le_trans h.size hg.size, fun k hk => (hg.block k (by omega) (fun e => by have := hr k e.symm; omega)).trans (h.block k hk)⟩
theorem run_make_by (n : Nat) (hn : n ≤ 1000) (wx : World) : (Instr.makeSlice 22 (.int .i64 0) (.int .i64 (6 + (n : Int) + 2))).run Tryz.prog wx = .ok (.slice (some ⟨wx.heap.size, 0, none⟩) 0 (6 + n + 2)) (wx.alloc (.cells (madeCells (Value.int .u8 0).cells (6 + n + 2)) 5)) := by
  obtain ⟨i0, hi, hz0, hz1, hz2⟩ := info_parts info_by
  have := run_make (P := Tryz.prog) wx 22 5 i0 (.int .u8 0) Tryz.underlying22 hi hz0 .i64 .i64 0 (6 + (n : Int) + 2) (by omega) (by omega) (by rw [hz2]; omega) (by omega)
  rw [this]
  have e : (6 + (n : Int) + 2).toNat = 6 + n + 2 := by omega
  rw [e, hz1]
  simp
theorem own_made (w wx : World) (g n : Nat) (hg : g = wx.heap.size) (hn : n ≤ 1000) (hb : w.heap.size ≤ wx.heap.size) : OwnBy w.heap.size (.slice (some ⟨g, 0, none⟩) 0 n) [] (wx.alloc (.cells (madeCells #[.int .u8 0] n) 5)) :=
  hg ▸   ⟨World.ownsRow_made wx _ n hb (by unfold maxLen; omega) (by rw [size_madeCells]; omega), by simp⟩

theorem six_cells (w : World) (a b c d e f : Value) (g : Nat) (hg : g = w.heap.size) : ∀ j u, [a, b, c, d, e, f][j]? = some u → (w.alloc (.cells #[a, b, c, d, e, f] 5)).cell? ((⟨g, 0, none⟩ : Addr).add j) = some u := by
  intro j u hu
  subst hg
  have hj : j = 0 ∨ j = 1 ∨ j = 2 ∨ j = 3 ∨ j = 4 ∨ j = 5 := by
    have := (List.getElem?_eq_some_iff.1 hu).1
    simp at this; omega
  rcases hj with rfl | rfl | rfl | rfl | rfl | rfl <;> (simp at hu; subst hu; simp [Addr.add])
theorem two_cells (w : World) (a b : Value) (g : Nat) (hg : g = w.heap.size) : ∀ j u, [a, b][j]? = some u → (w.alloc (.cells #[a, b] 5)).cell? ((⟨g, 0, none⟩ : Addr).add j) = some u := by
  intro j u hu
  subst hg
  have hj : j = 0 ∨ j = 1 := by
    have := (List.getElem?_eq_some_iff.1 hu).1
    simp at this; omega
  rcases hj with rfl | rfl <;> (simp at hu; subst hu; simp [Addr.add])

set_option maxRecDepth 100000 in
set_option maxHeartbeats 1000000 in
theorem implBytesOf (u k s : Int) (b : ByteArray) (w : World) (hr : Fr.rightB u k s b.size = true) :
    Calls Tryz.prog 100 #[.agg #[.int .i64 u, .int .i64 k, .int .i64 s, .string b]] w fun e w' => ∃ v, e = .returned v ∧ OwnBy w.heap.size v (Fr.text u k s b.data.toList) w' ∧ Below w.heap.size w w' := by
  obtain ⟨r1, r2, r3, r4, r5, r6, r7⟩ := (Fr.rightB_iff _ _ _ _).1 hr
  clear hr
  obtain ⟨i0, hi, hz0, hz1, hz2⟩ := info_parts info_by
  have hmk := run_make_by b.size (by omega)
  have r8 : s / 256 ≤ 255 := by omega
  have r9 : 0 ≤ s / 256 := by omega
  have r10 : 0 ≤ s % 256 := by omega
  have r11 : s % 256 ≤ 255 := by omega
  have O1 := Lib.hid (own_made w (w.alloc (.cells #[.int .i64 u, .int .i64 k, .int .i64 s, .string b] 70)) (w.heap.size + 1) (6 + b.size + 2) (by simp) (by omega) (by simp))
  go_enter Tryz.func100, Tryz.ntmps100
  go_wp2_with (at_builtin; refine wpList_append_own _ rfl _ _ 22 rfl w.heap.size 5 i0 (.int .u8 0) 1 1 Tryz.underlying22 hi hz0 hz1 hz2 rfl (by decide) _ _ _ rfl (O1.out.1.alloc _) ⟨w.heap.size + 1 + 1, 0, none⟩ 6 6 [.int .u8 126, .int .u8 u, .int .u8 k, .int .u8 (s / 256), .int .u8 (s % 256), .int .u8 (b.size : Int)] ?c0 rfl ?c1 ?c2 ?c3 ?c4 ?c5 ?_)
  case c0 => simp [Act.eval]
  case c1 => exact six_cells _ _ _ _ _ _ _ _ (by simp)
  case c2 => intro x hx; simp at hx; rcases hx with rfl | rfl | rfl | rfl | rfl | rfl <;> rfl
  case c3 => unfold maxLen; simp
  case c4 => simp
  case c5 => simp; omega
  intro v2 W2 hown hgrow hnil
  have q1 : OwnBy w.heap.size v2 (126 :: [Fr.by8 u, Fr.by8 k, Fr.by8 (s / 256), Fr.by8 (s % 256), Fr.by8 (b.size : Int)]) W2 := by
    refine ⟨?_, hnil⟩
    simp only [List.map_cons, List.map_nil, u8c_by8 u r1 (by omega), u8c_by8 k (by omega) (by omega), u8c_by8 (s / 256) r9 (by omega), u8c_by8 (s % 256) r10 (by omega), u8c_by8 (b.size : Int) (by omega) (by omega)]
    exact hown
  have q2 : Below w.heap.size w W2 := by
    refine below_grown ?_ ?_ hgrow (fun k hk => ?_)
    · exact (((Below.refl _ _).alloc (Nat.le_refl _) _).alloc (by simp) _).alloc (by simp; omega) _
    · simp; omega
    have hk' : some (w.heap.size + 1) = some k := hk
    cases hk'; omega
  have q3 : W2.cell? ⟨w.heap.size, 3, none⟩ = some (.string b) := hgrow.cell (by rw [World.cell?_alloc_lt _ _ ⟨w.heap.size, 3, none⟩ (by simp; omega), World.cell?_alloc_lt _ _ ⟨w.heap.size, 3, none⟩ (by simp)]; simp) (fun e => by have e' : some w.heap.size = some (w.heap.size + 1) := e; simp at e')
  obtain ⟨L, hL⟩ : ∃ L : List UInt8, L = 126 :: [Fr.by8 u, Fr.by8 k, Fr.by8 (s / 256), Fr.by8 (s % 256), Fr.by8 (b.size : Int)] := ⟨_, rfl⟩
  have hL6 : L.length = 6 := by rw [hL]; rfl
  rw [← hL] at q1
  have hLM : L ++ b.data.toList = 126 :: Fr.head u k s b.data.toList := by
    rw [hL]
    unfold Fr.head
    rfl
  have Q1 := Lib.hid q1
  have Q2 := Lib.hid q2
  clear hown hgrow hnil q1 q2 hmk hL
  go_wp2_with (at_builtin; refine Lib.wpList_append_own_string _ rfl _ _ 22 9 rfl w.heap.size 5 i0 Tryz.underlying22 Tryz.underlying9 hi hz0 hz1 hz2 _ _ _ rfl Q1.out.1 b rfl ?d1 ?d2 ?d3 ?_)
  case d1 => unfold maxLen; omega
  case d2 => omega
  case d3 => exact Q2.out.size
  intro v3 W3 hown hgrow hnil
  have q1 : OwnBy w.heap.size v3 (126 :: Fr.head u k s b.data.toList) W3 := by
    rw [← hLM]
    refine ⟨?_, fun e => Q1.out.2 (hnil.1 e).1⟩
    rw [List.map_append, List.length_append, hL6]
    exact hown
  have q2 : Below w.heap.size w W3 := below_grown Q2.out Q2.out.size hgrow (fun k hk => (Q1.out.1.lt k hk).1)
  have hM5 := Fr.head_len u k s b.data.toList
  have hbl : b.data.toList.length = b.size := rfl
  rw [hbl] at hM5
  have HT : Hid (Fr.text u k s b.data.toList = (126 :: Fr.head u k s b.data.toList) ++ [Fr.by8 ((Crc.sum (Fr.head u k s b.data.toList) : Int) / 256), Fr.by8 ((Crc.sum (Fr.head u k s b.data.toList) : Int) % 256)]) := by
    show _ = _
    unfold Fr.text
    rfl
  clear hown hgrow hnil hLM hL6 hbl q3
  generalize Fr.head u k s b.data.toList = M at *
  generalize hTX : Fr.text u k s b.data.toList = TX at *
  obtain ⟨g, cp, rfl, hg, hcp, hcell⟩ := q1.form
  have Q3 := Lib.hid q1
  have Q4 := Lib.hid q2
  have hcell1 : ∀ j (hj : j < M.length), W3.cell? ⟨g, 1 + j, none⟩ = some (.int .u8 M[j].toNat) := fun j hj => by
    have := hcell (j + 1) (by simp; omega)
    have e : 1 + j = j + 1 := by omega
    rw [e]
    exact this
  have HC := Lib.hid hcell1
  have hlen : (126 :: M).length = M.length + 1 := rfl
  rw [hlen] at hcp
  rw [hlen]
  have z1 : (1 : Int) ≤ ((M.length + 1 : Nat) : Int) := by omega
  have z2 : ((M.length + 1 : Nat) : Int) ≤ (cp : Int) := by omega
  clear q1 q2 hcell hcell1 Q1 Q2
  go_wp2_with fail
  rw [← hM5]
  refine (sumBytes_any M _ g 1 _ (by omega) W3 (fun _ => rfl) HC.out).mono ?_
  rintro e w4 ⟨rfl, hw4⟩
  rw [hw4]
  clear hw4
  have hm := Crc.sum_lt M
  generalize Crc.sum M = m at *
  have m8 : (m : Int) / 256 ≤ 255 := by omega
  have m9 : 0 ≤ (m : Int) / 256 := by omega
  have m10 : 0 ≤ (m : Int) % 256 := by omega
  have m11 : (m : Int) % 256 ≤ 255 := by omega
  have m12 : (m : Int) < 65536 := by omega
  clear HC
  obtain ⟨XS, hXS⟩ : ∃ XS : List Value, XS = List.map u8c (126 :: M) := ⟨_, rfl⟩
  have O5 : Hid (W3.ownsRow w.heap.size 5 1 (.slice (some ⟨g, 0, none⟩) (5 + b.size + 1) cp) (5 + b.size + 1) XS) := by
    rw [hXS, ← hM5]; exact Q3.out.1
  go_wp2_with (at_builtin; refine wpList_append_own _ rfl _ _ 22 rfl w.heap.size 5 i0 (.int .u8 0) 1 1 Tryz.underlying22 hi hz0 hz1 hz2 rfl (by decide) _ _ _ rfl (O5.out.alloc _) ⟨W3.heap.size, 0, none⟩ 2 2 [.int .u8 ((m : Int) / 256), .int .u8 ((m : Int) % 256)] ?f0 rfl ?f1 ?f2 ?f3 ?f4 ?f5 ?_)
  case f0 => simp [Act.eval]
  case f1 => exact two_cells _ _ _ _ rfl
  case f2 => intro x hx; simp at hx; rcases hx with rfl | rfl <;> rfl
  case f3 => unfold maxLen; simp; omega
  case f4 => simp; omega
  case f5 => have := Q4.out.size; simp; omega
  intro v5 W5 hown hgrow hnil
  have q1 : OwnBy w.heap.size v5 TX W5 := by
    rw [HT.out]
    refine ⟨?_, hnil⟩
    rw [List.map_append, List.length_append, hlen, hM5]
    simp only [List.map_cons, List.map_nil, u8c_by8 ((m : Int) / 256) m9 (by omega), u8c_by8 ((m : Int) % 256) m10 (by omega)]
    exact hown
  have q2 : Below w.heap.size w W5 := by
    refine below_grown (Q4.out.alloc Q4.out.size _) (by have := Q4.out.size; simp; omega) hgrow (fun k hk => ?_)
    have hk' : some g = some k := hk
    cases hk'; exact hg
  have Q5 := Lib.hid q1
  have Q6 := Lib.hid q2
  clear hown hgrow hnil q1 q2 Q3 Q4 HT
  go_wp2_with fail
  go_ret
  exact ⟨_, rfl, by rw [hTX]; exact Q5.out, Q6.out⟩
end Go.Proofs.YtdlojhncbgfjbaaGreatDoor
