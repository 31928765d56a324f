/-
  The contract of the program's reading of one frame by a scanner, whatever stands there.
-/
import Derived.Test.YtdlojhncbgfjbaaGreatDoorFrI6
import Derived.Test.YtdlojhncbgfjbaaGreatDoorEt
namespace Go.Proofs.YtdlojhncbgfjbaaGreatDoor
open Go.RowKit Go.Deep

/-- No frame is read: the error that is told. -/
def FrNo (w : World) (r : List UInt8) (e : Ending) (w' : World) : Prop := ∃ s c, c ≠ 0 ∧ Fr.read r = Fr.bad c ∧ e = .returned (.tuple #[frZ, errV s c]) ∧ Below w.heap.size w w'
/-- A frame is read, and the scanner stands behind it. -/
def FrYes (B p g cap : Nat) (l : List UInt8) (i : Nat) (w : World) (e : Ending) (w' : World) : Prop :=
  Fr.read (l.drop i) = ⟨Fr.at8 (l.drop i) 1, Fr.at8 (l.drop i) 2, Fr.seq (l.drop i), Fr.body (l.drop i), 8 + Fr.bodyLen (l.drop i), 0⟩ ∧ i + (8 + Fr.bodyLen (l.drop i)) ≤ l.length ∧
  e = .returned (.tuple #[.agg #[.int .i64 (Fr.at8 (l.drop i) 1), .int .i64 (Fr.at8 (l.drop i) 2), .int .i64 (Fr.seq (l.drop i)), .string ⟨(Fr.body (l.drop i)).toArray⟩], .nilIface]) ∧ Scn B p g cap l (i + (8 + Fr.bodyLen (l.drop i))) w' ∧ w.grownBy w' (some p)

theorem scnFrame_any (B p g cap i : Nat) (l : List UInt8) (w : World) (h : Scn B p g cap l i w) :
    Calls Tryz.prog 105 #[.pointer (some ⟨p, 0, none⟩)] w fun e w' => FrNo w (l.drop i) e w' ∨ FrYes B p g cap l i w e w' := by
  have hi : i ≤ l.length := h.2.2.2.2.1
  have hlen : (l.drop i).length = l.length - i := List.length_drop
  by_cases h0 : l.drop i = [] ∨ Fr.at8 (l.drop i) 0 ≠ 126
  · refine (frame_bad B p g cap i l _ 4 w h (fun wx hx => head_none B p g cap i l wx hx h0)).mono ?_
    rintro e w' ⟨he, hb⟩
    exact Or.inl ⟨_, 4, by omega, by unfold Fr.read; rw [if_pos h0], he, hb⟩
  · have hne : l.drop i ≠ [] := fun e => h0 (Or.inl e)
    have h126 : Fr.at8 (l.drop i) 0 = 126 := by
      by_cases k : Fr.at8 (l.drop i) 0 = 126
      · exact k
      · exact absurd (Or.inr k) h0
    have hpos : 0 < (l.drop i).length := List.length_pos_iff.2 hne
    by_cases h6 : (l.drop i).length < 6
    · refine (frame_bad B p g cap i l _ 6 w h (fun wx hx => head_short B p g cap i l wx hx h126 (by omega) (by omega))).mono ?_
      rintro e w' ⟨he, hb⟩
      exact Or.inl ⟨_, 6, by omega, by unfold Fr.read; rw [if_neg h0, if_pos h6], he, hb⟩
    · cases hB : headBad (l.drop i)
      · have hno : ¬ (Fr.rightB (Fr.at8 (l.drop i) 1) (Fr.at8 (l.drop i) 2) (Fr.seq (l.drop i)) 0 = false ∨ 64 < Fr.bodyLen (l.drop i)) := fun k => by
          have := (headBad_iff _).2 k
          rw [hB] at this; cases this
        by_cases hs : (l.drop i).length < 8 + Fr.bodyLen (l.drop i)
        · refine (frame_short B p g cap i l w h h126 (by omega) hB (by omega)).mono ?_
          rintro e w' ⟨he, hb⟩
          exact Or.inl ⟨_, 6, by omega, by unfold Fr.read; rw [if_neg h0, if_neg h6, if_neg hno, if_pos hs], he, hb⟩
        · by_cases hsum : Crc.sum (((l.drop i).drop 1).take (5 + Fr.bodyLen (l.drop i))) = ((l.drop i).getD (6 + Fr.bodyLen (l.drop i)) 0).toNat * 256 + ((l.drop i).getD (7 + Fr.bodyLen (l.drop i)) 0).toNat
          · refine (frame_ok B p g cap i l w h h126 (by omega) hB (by omega) hsum).mono ?_
            rintro e w' ⟨he, hb, hg⟩
            refine Or.inr ⟨?_, by omega, he, hb, hg⟩
            conv => lhs; unfold Fr.read
            rw [if_neg h0, if_neg h6, if_neg hno, if_neg hs, if_neg (fun k => k hsum)]
          · refine (frame_long B p g cap i l w h h126 (by omega) hB (by omega) hsum).mono ?_
            rintro e w' ⟨he, hb⟩
            exact Or.inl ⟨_, 7, by omega, by unfold Fr.read; rw [if_neg h0, if_neg h6, if_neg hno, if_neg hs, if_pos hsum], he, hb⟩
      · have hyes := (headBad_iff _).1 hB
        refine (frame_bad B p g cap i l ⟨#[97, 32, 102, 114, 97, 109, 101, 39, 115, 32, 104, 101, 97, 100]⟩ 1 w h (fun wx hx => (head_long B p g cap i l wx hx h126 (by omega)).mono ?_)).mono ?_
        · rintro e w' ⟨⟨v, rfl, hv⟩, hb⟩
          exact ⟨by rw [hv.1 hB], hb⟩
        · rintro e w' ⟨he, hb⟩
          exact Or.inl ⟨_, 1, by omega, by unfold Fr.read; rw [if_neg h0, if_neg h6, if_pos hyes], he, hb⟩

theorem codeOf_errV (s : ByteArray) (c : Int) (w : World) (h : Et w) : Calls Tryz.prog 17 #[errV s c] w fun e w' => e = .returned (.int .i64 c) ∧ Below w.heap.size w w' := codeOf_any _ c (finds_one s c) w h

theorem slot6_grown {w w1 w2 : World} {p : Nat} (h : Slot6 w w1) (hg : w1.grownBy w2 (some p)) (hp : (w.alloc (.cells #[.int .i64 0, .int .i64 0, .int .i64 0, .string ⟨#[]⟩, .int .i64 0, .int .i64 0] 98)).heap.size ≤ p) : Slot6 w w2 :=
  below_grown h h.size hg (fun k hk => by simp only [World.size_alloc] at hp; cases hk; exact hp)

set_option maxRecDepth 100000 in
set_option maxHeartbeats 1000000 in
theorem scanner_over (s : ByteArray) (hs : 20000 < s.size) (w : World) :
    Calls Tryz.prog 95 #[.string s] w fun e w' => e = .returned (.tuple #[.pointer none, errV ⟨#[97, 32, 116, 101, 120, 116]⟩ 2]) ∧ w' = w := by
  have hz : (20000 : Int) < (s.size : Int) := by omega
  go_enter Tryz.func95, Tryz.ntmps95
  go_wp2_with fail
  exact bodyPost_ret (v := .tuple #[.pointer none, errV ⟨#[97, 32, 116, 101, 120, 116]⟩ 2]) (by simp [results, Tryz.results95, go_sem]) rfl ⟨rfl, rfl⟩

end Go.Proofs.YtdlojhncbgfjbaaGreatDoor
