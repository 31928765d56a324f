/-
  The contracts of the model's frames.
-/
import Derived.Test.YtdlojhncbgfjbaaGreatDoorFrSum
import Derived.Test.YtdlojhncbgfjbaaGreatDoorFrMath
namespace Go.Proofs.YtdlojhncbgfjbaaGreatDoor
open Go.RowKit

set_option maxRecDepth 100000 in
set_option maxHeartbeats 1000000 in
theorem specFrRight_any (u k s : Int) (b : ByteArray) (w : World) :
    Calls Tryz.prog 35 #[.agg #[.int .i64 u, .int .i64 k, .int .i64 s, .string b]] w fun e w' => e = .returned (.bool (Fr.rightB u k s b.size)) ∧ Below w.heap.size w w' := by
  go_enter Tryz.func35, Tryz.ntmps35
  go_wp2_with fail
  all_goals
    go_ret
    refine ⟨?_, (Below.refl _ _).alloc (Nat.le_refl _) _⟩
    first
      | (show Ending.returned (Value.bool false) = _
         have e : Fr.rightB u k s b.size = false := by unfold Fr.rightB; apply decide_eq_false; omega
         rw [e])
      | (show Ending.returned (Value.bool (decide ((b.size : Int) ≤ 64))) = _
         have e : Fr.rightB u k s b.size = decide ((b.size : Int) ≤ 64) := by unfold Fr.rightB; apply decide_eq_decide.2; omega
         rw [e])

/-- Bytes made of numbers, as a text. -/
theorem row_text {xs : List Int} (h : ∀ x ∈ xs, 0 ≤ x ∧ x < 256) (wx : World) :
    (convert 22 9 (.slice (some ⟨wx.heap.size, 0, none⟩) xs.length xs.length)).run Tryz.prog (wx.alloc (.cells (xs.map (Value.int .u8)).toArray 5)) = .ok (.string ⟨(xs.map Fr.by8).toArray⟩) (wx.alloc (.cells (xs.map (Value.int .u8)).toArray 5)) := by
  have := run_convert_bytes_back (P := Tryz.prog) (wx.alloc (.cells (xs.map (Value.int .u8)).toArray 5)) 22 9 5 ⟨wx.heap.size, 0, none⟩ xs.length (xs.map Fr.by8) Tryz.underlying22 Tryz.underlying5 Tryz.underlying9 (fun j hj => by
    have hl : j < xs.length := by simpa using hj
    rw [List.getElem_map, Fr.by8_toNat _ (h _ (List.getElem_mem hl)).1 (h _ (List.getElem_mem hl)).2]
    have e : ((⟨wx.heap.size, 0, none⟩ : Addr).add j) = ⟨wx.heap.size, j, none⟩ := by
      by_cases h0 : j = 0
      · subst h0; simp [Addr.add]
      · simp [Addr.add, h0]
    rw [e]
    simp [hl])
  simpa using this

theorem four_later {w w1 : World} {t : TypeId} {x y z q : Value} (hb : Below (w.heap.size + 1) (w.alloc (.cells #[x, y, z, q] t)) w1) :
    w1.cell? ⟨w.heap.size, 0, none⟩ = some x ∧ w1.cell? ⟨w.heap.size, 1, none⟩ = some y ∧ w1.cell? ⟨w.heap.size, 2, none⟩ = some z ∧ w1.cell? ⟨w.heap.size, 3, none⟩ = some q ∧ w.heap.size < w1.heap.size ∧ Hid (Below w.heap.size w w1) := by
  refine ⟨?_, ?_, ?_, ?_, ?_, ?_⟩
  · rw [hb.cell (by simp)]; simp
  · rw [hb.cell (by simp)]; simp
  · rw [hb.cell (by simp)]; simp
  · rw [hb.cell (by simp)]; simp
  · have := hb.size; simp at this; omega
  · exact ((Below.refl _ _).alloc (Nat.le_refl _) _).trans (hb.mono (by omega))

set_option maxRecDepth 100000 in
set_option maxHeartbeats 1000000 in
theorem specFrText_no (u k s : Int) (b : ByteArray) (w : World) (hr : Fr.rightB u k s b.size = false) :
    Calls Tryz.prog 24 #[.agg #[.int .i64 u, .int .i64 k, .int .i64 s, .string b]] w fun e w' => e = .returned (.string ⟨#[]⟩) ∧ Below w.heap.size w w' := by
  have HR := Lib.hid hr
  clear hr
  go_enter Tryz.func24, Tryz.ntmps24
  go_wp2_with fail
  refine (specFrRight_any _ _ _ _ _).mono ?_
  rintro e w1 ⟨rfl, hb⟩
  rw [HR.out]
  have HB : Hid (Below w.heap.size w w1) := ((Below.refl _ _).alloc (Nat.le_refl _) _).trans (hb.mono (by simp))
  clear hb
  go_wp2_with fail
  go_ret
  exact ⟨rfl, HB.out⟩

set_option maxRecDepth 100000 in
set_option maxHeartbeats 1000000 in
theorem specFrText_yes (u k s : Int) (b : ByteArray) (w : World) (hr : Fr.rightB u k s b.size = true) :
    Calls Tryz.prog 24 #[.agg #[.int .i64 u, .int .i64 k, .int .i64 s, .string b]] w fun e w' => e = .returned (.string ⟨(Fr.text u k s b.data.toList).toArray⟩) ∧ Below w.heap.size w w' := by
  obtain ⟨r1, r2, r3, r4, r5, r6, r7⟩ := (Fr.rightB_iff _ _ _ _).1 hr
  have HR := Lib.hid hr
  clear hr
  go_enter Tryz.func24, Tryz.ntmps24
  go_wp2_with fail
  refine (specFrRight_any _ _ _ _ _).mono ?_
  rintro e w1 ⟨rfl, hb⟩
  rw [HR.out]
  clear HR
  obtain ⟨q0, q1, q2, q3, hz, hB⟩ := four_later (hb.mono (by simp))
  clear hb
  have hcv := fun wx => row_text (xs := [u, k, s / 256, s % 256, (b.size : Int)]) (by simp; omega) wx
  simp only [List.length_cons, List.length_nil, List.map_cons, List.map_nil] at hcv
  have r8 : s / 256 ≤ 255 := by omega
  have r9 : 0 ≤ s / 256 := by omega
  have r10 : 0 ≤ s % 256 := by omega
  have r11 : s % 256 ≤ 255 := by omega
  go_wp2_with fail
  have hhd : ((⟨#[Fr.by8 u, Fr.by8 k, Fr.by8 (s / 256), Fr.by8 (s % 256), Fr.by8 (b.size : Int)]⟩ : ByteArray) ++ b).data.toList = Fr.head u k s b.data.toList := by
    unfold Fr.head
    have e : (b.data.toList.length : Int) = (b.size : Int) := rfl
    rw [e]; simp
  have hsz : ((⟨#[Fr.by8 u, Fr.by8 k, Fr.by8 (s / 256), Fr.by8 (s % 256), Fr.by8 (b.size : Int)]⟩ : ByteArray) ++ b).size ≤ 69 := by
    show ((⟨#[Fr.by8 u, Fr.by8 k, Fr.by8 (s / 256), Fr.by8 (s % 256), Fr.by8 (b.size : Int)]⟩ : ByteArray) ++ b).data.toList.length ≤ 69
    rw [hhd, Fr.head_len]
    have e : b.data.toList.length = b.size := rfl
    omega
  have HHD := Lib.hid hhd
  clear hhd hcv
  generalize (⟨#[Fr.by8 u, Fr.by8 k, Fr.by8 (s / 256), Fr.by8 (s % 256), Fr.by8 (b.size : Int)]⟩ : ByteArray) ++ b = D at *
  refine (specSum_any D (by omega) _).mono ?_
  rintro e w2 ⟨rfl, rfl⟩
  have hm := Crc.sum_lt D.data.toList
  have hft : Hid (Fr.text u k s b.data.toList = 126 :: (D.data.toList ++ [Fr.by8 ((Crc.sum D.data.toList : Int) / 256), Fr.by8 ((Crc.sum D.data.toList : Int) % 256)])) := by
    show _ = _
    unfold Fr.text; rw [← HHD.out]
  generalize Crc.sum D.data.toList = m at *
  have hcv := fun wx => row_text (xs := [(m : Int) / 256, (m : Int) % 256]) (by simp; omega) wx
  simp only [List.length_cons, List.length_nil, List.map_cons, List.map_nil] at hcv
  have m8 : (m : Int) / 256 ≤ 255 := by omega
  have m9 : 0 ≤ (m : Int) / 256 := by omega
  have m10 : 0 ≤ (m : Int) % 256 := by omega
  have m11 : (m : Int) % 256 ≤ 255 := by omega
  have m12 : (m : Int) < 65536 := by omega
  have HB2 : Hid (Below w.heap.size w (w1.alloc (.cells #[.int .u8 u, .int .u8 k, .int .u8 (s / 256), .int .u8 (s % 256), .int .u8 (b.size : Int)] 5))) := hB.out.alloc (by omega) _
  clear hB q0 q1 q2 q3
  generalize w1.alloc (.cells #[.int .u8 u, .int .u8 k, .int .u8 (s / 256), .int .u8 (s % 256), .int .u8 (b.size : Int)] 5) = w3 at *
  go_wp2_with fail
  go_ret
  refine ⟨?_, HB2.out.alloc HB2.out.size _⟩
  rw [hft.out]
  refine congrArg (fun x => Ending.returned (Value.string x)) ?_
  apply ByteArray.ext
  simp
end Go.Proofs.YtdlojhncbgfjbaaGreatDoor
