/-
  The contract of the laws' markText.
-/
import Derived.Test.YtjfeipgeppegcaaNums
import Derived.Lib.ConvBytes
import Derived.Deep.Heap
namespace Go.Proofs.Ytjfeipgeppegcaa
open Go.RowKit

/-- The digits of a number ahead of others. -/
def markD : Nat → List UInt8 → List UInt8
  | 0, out => out
  | k + 1, out => markD ((k + 1) / 10) (UInt8.ofNat (48 + (k + 1) % 10) :: out)
decreasing_by omega
theorem markD_pos (k : Nat) (out : List UInt8) (h : 0 < k) : markD k out = markD (k / 10) (UInt8.ofNat (48 + k % 10) :: out) := by
  obtain ⟨m, rfl⟩ : ∃ m, k = m + 1 := ⟨k - 1, by omega⟩
  rw [markD]
/-- What a place is marked with. -/
def markB (k : Nat) : ByteArray := if k = 0 then ⟨#[109, 48]⟩ else ⟨(109 :: markD k []).toArray⟩

theorem byte_text (x : Nat) (hx : x < 256) (wx : World) :
    (convert 63 9 (.slice (some ⟨wx.heap.size, 0, none⟩) 1 1)).run Try.prog (wx.alloc (.cells #[.int .u8 x] 5)) = .ok (.string ⟨#[UInt8.ofNat x]⟩) (wx.alloc (.cells #[.int .u8 x] 5)) := by
  have := run_convert_bytes_back (P := Try.prog) (wx.alloc (.cells #[.int .u8 x] 5)) 63 9 5 ⟨wx.heap.size, 0, none⟩ 1 [UInt8.ofNat x] Try.underlying63 Try.underlying5 Try.underlying9 (fun j hj => by
    have hl : j = 0 := by simp at hj; omega
    subst hl
    have e : (((UInt8.ofNat x).toNat : Nat) : Int) = x := by rw [UInt8.toNat_ofNat']; omega
    simp only [List.getElem_cons_zero, e]
    simp [Addr.add])
  simpa using this

set_option maxRecDepth 100000 in
set_option maxHeartbeats 2000000 in
theorem markText_any (k : Nat) (hk : k ≤ 1073741824) (w : World) :
    Calls Try.prog 31 #[.int .i64 k] w fun e w' => e = .returned (.string (markB k)) ∧ Below w.heap.size w w' := by
  by_cases h0 : k = 0
  · subst h0
    go_enter Try.func31, Try.ntmps31
    go_wp2_with fail
    go_ret
    exact ⟨rfl, Below.refl _ _⟩
  · have hkz : ¬ (k : Int) ≤ 0 := by omega
    have HM : Hid (markB k = ⟨(109 :: markD k []).toArray⟩) := by
      show _ = _
      unfold markB; rw [if_neg h0]
    go_enter Try.func31, Try.ntmps31
    go_wp2_with fail
    go_loopw [0, 3] (fun kv ov wr => ∃ (j : Nat) (T : ByteArray), kv = .int .i64 j ∧ ov = .string T ∧ j ≤ k ∧ T.size ≤ k - j ∧ Hid (markD j T.data.toList = markD k []) ∧ Hid (Below w.heap.size w wr)) (fun kv _ _ => (intOf kv).toNat)
    case atStart => exact ⟨k, ⟨#[]⟩, rfl, rfl, Nat.le_refl _, Nat.zero_le _, rfl, Below.refl _ _⟩
    case round =>
      obtain ⟨j, T, rfl, rfl, hj, hT, hM, hB⟩ := hrel
      by_cases hj0 : 0 < j
      · have hjz : (0 : Int) < (j : Int) := by omega
        have hcv := fun wx => byte_text (48 + j % 10) (by omega) wx
        have e8 : ((48 + j % 10 : Nat) : Int) = 48 + (j : Int) % 10 := by omega
        simp only [e8] at hcv
        have hM2 : Hid (markD (j / 10) ((⟨#[UInt8.ofNat (48 + j % 10)]⟩ : ByteArray) ++ T).data.toList = markD k []) := by
          show _ = _
          rw [← hM.out, markD_pos j _ hj0]
          simp
        have hs1 : ((⟨#[UInt8.ofNat (48 + j % 10)]⟩ : ByteArray)).size = 1 := rfl
        have hs2 : ((⟨#[UInt8.ofNat (48 + j % 10)]⟩ : ByteArray) ++ T).size = 1 + T.size := by rw [ByteArray.size_append, hs1]
        have HS2 : Hid (((⟨#[UInt8.ofNat (48 + j % 10)]⟩ : ByteArray) ++ T).size = 1 + T.size) := hs2
        have HB2 : Hid (Below w.heap.size w (wr.alloc (.cells #[.int .u8 (48 + (j : Int) % 10)] 5))) := hB.out.alloc hB.out.size _
        clear e8 hM hB hs2
        generalize (⟨#[UInt8.ofNat (48 + j % 10)]⟩ : ByteArray) = Y at *
        go_wp2_with fail
        go_roundw
        case rel => exact ⟨j / 10, Y ++ T, by go_num, rfl, by omega, by rw [HS2.out]; omega, hM2, HB2⟩
        case measure => simp [intOf]; omega
      · obtain rfl : j = 0 := by omega
        go_wp2_with fail
        go_ret
        refine ⟨?_, hB.out⟩
        rw [HM.out, ← hM.out, markD]
        congr 2
end Go.Proofs.Ytjfeipgeppegcaa
