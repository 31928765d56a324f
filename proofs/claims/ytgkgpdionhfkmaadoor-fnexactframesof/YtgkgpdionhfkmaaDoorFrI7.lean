/-
  The contract of the program's reading of one frame by a scanner, whatever stands there.
-/
import Derived.Test.YtgkgpdionhfkmaaDoorFrI6
import Derived.Test.YtgkgpdionhfkmaaDoorEt
namespace Go.Proofs.YtgkgpdionhfkmaaDoor
open Go.RowKit Go.Deep

/-- No frame is read: the error that is told. -/
def FrNo (w : World) (r : List UInt8) (e : Ending) (w' : World) : Prop := ∃ s c, c ≠ 0 ∧ Fr.read r = Fr.bad c ∧ e = .returned (.tuple #[frZ, errV s c]) ∧ Below w.heap.size w w'
/-- A frame is read, and the scanner stands behind it. -/
def FrYes (B p g cap : Nat) (l : List UInt8) (i : Nat) (w : World) (e : Ending) (w' : World) : Prop :=
  Fr.read (l.drop i) = ⟨Fr.at8 (l.drop i) 1, Fr.at8 (l.drop i) 2, Fr.seq (l.drop i), Fr.body (l.drop i), 8 + Fr.bodyLen (l.drop i), 0⟩ ∧ i + (8 + Fr.bodyLen (l.drop i)) ≤ l.length ∧
  e = .returned (.tuple #[.agg #[.int .i64 (Fr.at8 (l.drop i) 1), .int .i64 (Fr.at8 (l.drop i) 2), .int .i64 (Fr.seq (l.drop i)), .string ⟨(Fr.body (l.drop i)).toArray⟩], .nilIface]) ∧ Scn B p g cap l (i + (8 + Fr.bodyLen (l.drop i))) w' ∧ w.grownBy w' (some p)

theorem scnFrame_any (B p g cap i : Nat) (l : List UInt8) (w : World) (h : Scn B p g cap l i w) :
    Calls Tryd.prog 27 #[.pointer (some ⟨p, 0, none⟩)] w fun e w' => FrNo w (l.drop i) e w' ∨ FrYes B p g cap l i w e w' := by
  have hi : i ≤ l.length := h.2.2.2.2.1
  have hlen : (l.drop i).length = l.length - i := List.length_drop
  by_cases h0 : l.drop i = [] ∨ Fr.at8 (l.drop i) 0 ≠ 126
  · refine (frame_bad B p g cap i l _ 4 w h (fun wx hx => head_none B p g cap i l wx hx h0)).mono ?_
    rintro e w' ⟨he, hb⟩
    exact Or.inl ⟨_, 4, by omega, by unfold Fr.read; rw [if_pos h0], he, hb⟩
  · have hne : l.drop i ≠ [] := fun e => h0 (Or.inl e)
    have h126 : Fr.at8 (l.drop i) 0 = 126 := by
      by_cases k : Fr.at8 (l.drop i) 0 = 126
      · exact k
      · exact absurd (Or.inr k) h0
    have hpos : 0 < (l.drop i).length := List.length_pos_iff.2 hne
    by_cases h6 : (l.drop i).length < 6
    · refine (frame_bad B p g cap i l _ 6 w h (fun wx hx => head_short B p g cap i l wx hx h126 (by omega) (by omega))).mono ?_
      rintro e w' ⟨he, hb⟩
      exact Or.inl ⟨_, 6, by omega, by unfold Fr.read; rw [if_neg h0, if_pos h6], he, hb⟩
    · cases hB : headBad (l.drop i)
      · have hno : ¬ (Fr.rightB (Fr.at8 (l.drop i) 1) (Fr.at8 (l.drop i) 2) (Fr.seq (l.drop i)) 0 = false ∨ 64 < Fr.bodyLen (l.drop i)) := fun k => by
          have := (headBad_iff _).2 k
          rw [hB] at this; cases this
        by_cases hs : (l.drop i).length < 8 + Fr.bodyLen (l.drop i)
        · refine (frame_short B p g cap i l w h h126 (by omega) hB (by omega)).mono ?_
          rintro e w' ⟨he, hb⟩
          exact Or.inl ⟨_, 6, by omega, by unfold Fr.read; rw [if_neg h0, if_neg h6, if_neg hno, if_pos hs], he, hb⟩
        · by_cases hsum : Crc.sum (((l.drop i).drop 1).take (5 + Fr.bodyLen (l.drop i))) = ((l.drop i).getD (6 + Fr.bodyLen (l.drop i)) 0).toNat * 256 + ((l.drop i).getD (7 + Fr.bodyLen (l.drop i)) 0).toNat
          · refine (frame_ok B p g cap i l w h h126 (by omega) hB (by omega) hsum).mono ?_
            rintro e w' ⟨he, hb, hg⟩
            refine Or.inr ⟨?_, by omega, he, hb, hg⟩
            conv => lhs; unfold Fr.read
            rw [if_neg h0, if_neg h6, if_neg hno, if_neg hs, if_neg (fun k => k hsum)]
          · refine (frame_long B p g cap i l w h h126 (by omega) hB (by omega) hsum).mono ?_
            rintro e w' ⟨he, hb⟩
            exact Or.inl ⟨_, 7, by omega, by unfold Fr.read; rw [if_neg h0, if_neg h6, if_neg hno, if_neg hs, if_pos hsum], he, hb⟩
      · have hyes := (headBad_iff _).1 hB
        refine (frame_bad B p g cap i l ⟨#[97, 32, 102, 114, 97, 109, 101, 39, 115, 32, 104, 101, 97, 100]⟩ 1 w h (fun wx hx => (head_long B p g cap i l wx hx h126 (by omega)).mono ?_)).mono ?_
        · rintro e w' ⟨⟨v, rfl, hv⟩, hb⟩
          exact ⟨by rw [hv.1 hB], hb⟩
        · rintro e w' ⟨he, hb⟩
          exact Or.inl ⟨_, 1, by omega, by unfold Fr.read; rw [if_neg h0, if_neg h6, if_pos hyes], he, hb⟩

theorem codeOf_errV (s : ByteArray) (c : Int) (w : World) (h : Et w) : Calls Tryd.prog 24 #[errV s c] w fun e w' => e = .returned (.int .i64 c) ∧ Below w.heap.size w w' := codeOf_any _ c (finds_one s c) w h

theorem slot6_grown {w w1 w2 : World} {p : Nat} (h : Slot6 w w1) (hg : w1.grownBy w2 (some p)) (hp : (w.alloc (.cells #[.int .i64 0, .int .i64 0, .int .i64 0, .string ⟨#[]⟩, .int .i64 0, .int .i64 0] 34)).heap.size ≤ p) : Slot6 w w2 :=
  below_grown h h.size hg (fun k hk => by simp only [World.size_alloc] at hp; cases hk; exact hp)

set_option maxRecDepth 100000 in
set_option maxHeartbeats 1000000 in
theorem scanner_over (s : ByteArray) (hs : 20000 < s.size) (w : World) :
    Calls Tryd.prog 23 #[.string s] w fun e w' => e = .returned (.tuple #[.pointer none, errV ⟨#[97, 32, 116, 101, 120, 116]⟩ 2]) ∧ w' = w := by
  have hz : (20000 : Int) < (s.size : Int) := by omega
  go_enter Tryd.func23, Tryd.ntmps23
  go_wp2_with fail
  exact bodyPost_ret (v := .tuple #[.pointer none, errV ⟨#[97, 32, 116, 101, 120, 116]⟩ 2]) (by simp [results, Tryd.results23, go_sem]) rfl ⟨rfl, rfl⟩

set_option maxRecDepth 100000 in
set_option maxHeartbeats 1000000 in
theorem implFrRead_over (s : ByteArray) (hs : 20000 < s.size) (w : World) (hg : Et w) :
    Calls Tryd.prog 12 #[.string s] w fun e w' => e = .returned (Fr.val (Fr.bad 2)) ∧ Below w.heap.size w w' := by
  have HG := Lib.hid hg
  clear hg
  go_enter Tryd.func12, Tryd.ntmps12
  go_wp2_with fail
  refine (scanner_over s hs _).mono ?_
  rintro e w1 ⟨rfl, hw1⟩
  rw [hw1]
  clear hw1
  go_wp2_with fail
  refine (codeOf_errV _ 2 _ (HG.out.alloc _)).mono ?_
  rintro e w2 ⟨rfl, hb⟩
  have HS : Hid (Slot6 w w2) := (Slot6.start w).next hb
  obtain ⟨⟨s0, s1, s2, s3, s4, s5⟩, ⟨f0, f1, f2, f3, f4, f5⟩, hz2⟩ := kept6 HS.out
  clear hb
  go_wp2_with fail
  exact bodyPost_ret (v := Fr.val (Fr.bad 2)) (by simp [results, Tryd.results12, go_sem, s0, s1, s2, s3, s4, s5, Fr.val, Fr.bad]) rfl ⟨rfl, below_set6 HS.out.below _ _ _ _ _ _⟩

set_option maxRecDepth 100000 in
set_option maxHeartbeats 1000000 in
theorem implFrRead_any (s : ByteArray) (hs : s.size ≤ 20000) (w : World) (hg : Et w) :
    Calls Tryd.prog 12 #[.string s] w fun e w' => e = .returned (Fr.val (Fr.read s.data.toList)) ∧ Below w.heap.size w w' := by
  have HG := Lib.hid hg
  clear hg
  go_enter Tryd.func12, Tryd.ntmps12
  go_wp2_with fail
  refine (scanner_of s hs _).mono ?_
  rintro e w1 ⟨p, g, cap, rfl, hS, hb⟩
  have HB1 : Hid (Slot6 w w1) := (Slot6.start w).next hb
  have HS := Lib.hid hS
  clear hb hS
  go_wp2_with fail
  refine (scnFrame_any _ p g cap 0 _ _ HS.out).mono ?_
  rintro e w2 (⟨sx, c, hc, hrd, rfl, hb⟩ | ⟨hrd, hle, rfl, hS2, hgr⟩)
  · rw [List.drop_zero] at hrd
    have HR := Lib.hid hrd
    have HB2 : Hid (Slot6 w w2) := HB1.out.next hb
    have HG2 : Hid (Et w2) := HG.out.below HB2.out.below
    clear hb hrd HB1 HS
    go_wp2_with fail
    refine (codeOf_errV _ c _ (HG2.out.alloc _)).mono ?_
    rintro e w3 ⟨rfl, hb⟩
    have HS : Hid (Slot6 w w3) := HB2.out.next (((Below.refl _ _).alloc (Nat.le_refl _) _).trans (hb.mono (by simp)))
    obtain ⟨⟨s0, s1, s2, s3, s4, s5⟩, ⟨f0, f1, f2, f3, f4, f5⟩, hz2⟩ := kept6 HS.out
    clear hb HB2 HG2
    go_wp2_with fail
    exact bodyPost_ret (v := Fr.val (Fr.bad c)) (by simp [results, Tryd.results12, go_sem, s0, s1, s2, s3, s4, s5, Fr.val, Fr.bad]) rfl ⟨by rw [HR.out], below_set6 HS.out.below _ _ _ _ _ _⟩
  · simp only [List.drop_zero, Nat.zero_add] at hrd hle hS2 ⊢
    have HR := Lib.hid hrd
    have HS2 := Lib.hid hS2
    have HB2 : Hid (Slot6 w w2) := slot6_grown HB1.out hgr HS.out.1
    have HB3 : Hid (Slot6 w (w2.alloc (.cells #[.int .i64 (Fr.at8 s.data.toList 1), .int .i64 (Fr.at8 s.data.toList 2), .int .i64 (Fr.seq s.data.toList), .string ⟨(Fr.body s.data.toList).toArray⟩] 27))) := HB2.out.next ((Below.refl _ _).alloc (Nat.le_refl _) _)
    obtain ⟨⟨s0, s1, s2, s3, s4, s5⟩, ⟨f0, f1, f2, f3, f4, f5⟩, hz2⟩ := kept6 HB3.out
    have hp2 : p < w2.heap.size := HS2.out.2.2.2.2.2.2.1.lt
    have hpw : w.heap.size ≠ p := by have := HS.out.1; simp only [World.size_alloc] at this; omega
    have pc : (w2.alloc (.cells #[.int .i64 (Fr.at8 s.data.toList 1), .int .i64 (Fr.at8 s.data.toList 2), .int .i64 (Fr.seq s.data.toList), .string ⟨(Fr.body s.data.toList).toArray⟩] 27)).cell? ⟨p, 1, none⟩ = some (.int .i64 ((8 + Fr.bodyLen s.data.toList : Nat) : Int)) := (World.cell?_alloc_lt _ _ ⟨p, 1, none⟩ hp2).trans (HS2.out.2.2.2.2.2.2.1.cell (i := 1) (by omega))
    have z0 : (w2.alloc (.cells #[.int .i64 (Fr.at8 s.data.toList 1), .int .i64 (Fr.at8 s.data.toList 2), .int .i64 (Fr.seq s.data.toList), .string ⟨(Fr.body s.data.toList).toArray⟩] 27)).cell? ⟨w2.heap.size, 0, none⟩ = some (.int .i64 (Fr.at8 s.data.toList 1)) := by rw [World.cell?_alloc_at _ _ _ _ rfl]; rfl
    have z1 : (w2.alloc (.cells #[.int .i64 (Fr.at8 s.data.toList 1), .int .i64 (Fr.at8 s.data.toList 2), .int .i64 (Fr.seq s.data.toList), .string ⟨(Fr.body s.data.toList).toArray⟩] 27)).cell? ⟨w2.heap.size, 1, none⟩ = some (.int .i64 (Fr.at8 s.data.toList 2)) := by rw [World.cell?_alloc_at _ _ _ _ rfl]; rfl
    have z2 : (w2.alloc (.cells #[.int .i64 (Fr.at8 s.data.toList 1), .int .i64 (Fr.at8 s.data.toList 2), .int .i64 (Fr.seq s.data.toList), .string ⟨(Fr.body s.data.toList).toArray⟩] 27)).cell? ⟨w2.heap.size, 2, none⟩ = some (.int .i64 (Fr.seq s.data.toList)) := by rw [World.cell?_alloc_at _ _ _ _ rfl]; rfl
    have z3 : (w2.alloc (.cells #[.int .i64 (Fr.at8 s.data.toList 1), .int .i64 (Fr.at8 s.data.toList 2), .int .i64 (Fr.seq s.data.toList), .string ⟨(Fr.body s.data.toList).toArray⟩] 27)).cell? ⟨w2.heap.size, 3, none⟩ = some (.string ⟨(Fr.body s.data.toList).toArray⟩) := by rw [World.cell?_alloc_at _ _ _ _ rfl]; rfl
    have hbl : Fr.bodyLen s.data.toList < 256 := (s.data.toList.getD 5 0).toNat_lt
    have hw2 : w.heap.size < w2.heap.size := by have := HB2.out.size; omega
    clear hrd hS2 hgr HB1 HS HS2 hle HB2
    go_wp2_with fail
    generalize (w2.alloc (.cells #[.int .i64 (Fr.at8 s.data.toList 1), .int .i64 (Fr.at8 s.data.toList 2), .int .i64 (Fr.seq s.data.toList), .string ⟨(Fr.body s.data.toList).toArray⟩] 27)) = W3 at *
    generalize w2.heap.size = F at *
    generalize Fr.at8 s.data.toList 1 = u at *
    generalize Fr.at8 s.data.toList 2 = k at *
    generalize Fr.seq s.data.toList = q at *
    generalize Fr.bodyLen s.data.toList = n at *
    go_region
    go_wp2_with fail
    exact bodyPost_ret (v := .agg #[.int .i64 u, .int .i64 k, .int .i64 q, .string ⟨(Fr.body s.data.toList).toArray⟩, .int .i64 (8 + (n : Int)), .int .i64 0]) (by simp [results, Tryd.results12, go_sem, s0, s1, s2, s3, s4, s5]) rfl ⟨by rw [HR.out]; rfl, (below_set6 HB3.out.below _ _ _ _ _ _).drew⟩
end Go.Proofs.YtgkgpdionhfkmaaDoor
