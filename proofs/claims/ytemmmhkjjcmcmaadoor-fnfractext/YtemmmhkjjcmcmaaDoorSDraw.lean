/-
  The contracts of the draws of texts.
-/
import Derived.Test.YtemmmhkjjcmcmaaDoorDrawA
import Derived.Test.YtemmmhkjjcmcmaaDoorODraw
import Derived.Test.YtemmmhkjjcmcmaaDoorDec
import Derived.Deep.QuietTactic
import Derived.BigQuiet
import Derived.Lib.Hide
namespace Go.Proofs.YtemmmhkjjcmcmaaDoor
open Go.RowKit

theorem drewN_below' (w : World) (n : Nat) : Below w.heap.size w (w.drewN n) := ⟨rfl, rfl, rfl, Nat.le_refl _, fun _ _ => rfl⟩

theorem byte_text (z : UInt8) (wx : World) :
    (convert 22 9 (.slice (some ⟨wx.heap.size, 0, none⟩) 1 1)).run Tryd.prog (wx.alloc (.cells #[.int .u8 (z.toNat : Int)] 5)) = .ok (.string ⟨#[z]⟩) (wx.alloc (.cells #[.int .u8 (z.toNat : Int)] 5)) := by
  have := run_convert_bytes_back (P := Tryd.prog) (wx.alloc (.cells #[.int .u8 (z.toNat : Int)] 5)) 22 9 5 ⟨wx.heap.size, 0, none⟩ 1 [z] Tryd.underlying22 Tryd.underlying5 Tryd.underlying9 (fun j hj => by
    obtain rfl : j = 0 := by simpa using hj
    simp only [List.getElem_cons_zero]
    simp [Addr.add])
  simpa using this

set_option maxRecDepth 100000 in
set_option maxHeartbeats 2000000 in
theorem spoil_any (sb : Nat) (t : ByteArray) (ht : t.size ≤ 8589934592) (w : World) (h : Src sb w) :
    Calls Tryd.prog 38 #[.pointer (some ⟨sb, 0, none⟩), .string t] w fun e w' => (∃ s, e = .returned (.string s)) ∧ Drew sb w w' := by
  have H : Hid (Src sb w) := h
  clear h
  go_enter Tryd.func38, Tryd.ntmps38
  go_wp2_with fail
  refine (n_any sb _ _ H.out (by omega)).mono ?_
  rintro e w1 ⟨⟨v, rfl, v0, v1, v2⟩, hD⟩
  have v3 : v ≤ t.size := by
    by_cases k : (1 : Int) < t.size + 1
    · have := v1 k; omega
    · have := v2 (by omega); omega
  have HD : Hid (Drew sb w w1) := hD
  clear hD v1 v2
  go_wp2_with fail
  refine (n_any sb _ _ HD.out.1 (by omega)).mono ?_
  rintro e w2 ⟨⟨u, rfl, u0, u1, _⟩, hD⟩
  have u3 : u < 17 := u1 (by omega)
  have HD2 : Hid (Drew sb w w2) := ⟨hD.1, HD.out.2.trans hD.2⟩
  clear hD u1 HD
  have hcv := byte_text
  obtain ⟨k, rfl⟩ : ∃ k : Nat, v = k := ⟨v.toNat, by omega⟩
  have k0 : k ≤ t.size := by omega
  clear v0 v3
  by_cases hk : k = t.size
  · have hk2 : ((k : Int) == (t.size : Int)) = true := by simp [hk]
    subst hk
    have HB : Hid (Drew sb w (w2.alloc (.cells #[.int .u8 (((⟨#[32, 10, 48, 97, 45, 110, 44, 58, 93, 255, 40, 120, 126, 49, 128, 225, 59]⟩ : ByteArray)[u.toNat]'(by show u.toNat < 17; omega)).toNat : Int)] 5))) := ⟨HD2.out.1.below ((Below.refl _ _).alloc (Nat.le_refl _) _), HD2.out.2.trans (Chg.of_below ((Below.refl _ _).alloc (Nat.le_refl _) _))⟩
    go_wp2_with fail
    go_quiet (fail)
    go_wp2_with fail
    go_ret
    exact ⟨⟨_, rfl⟩, HB.out.1.below (drewN_below' _ _), HB.out.2.drewN _⟩
  · have hk2 : ((k : Int) == (t.size : Int)) = false := by simp; omega
    have hk3 : k < t.size := by omega
    clear hk
    have HB : Hid (Drew sb w (w2.alloc (.cells #[.int .u8 (((⟨#[32, 10, 48, 97, 45, 110, 44, 58, 93, 255, 40, 120, 126, 49, 128, 225, 59]⟩ : ByteArray)[u.toNat]'(by show u.toNat < 17; omega)).toNat : Int)] 5))) := ⟨HD2.out.1.below ((Below.refl _ _).alloc (Nat.le_refl _) _), HD2.out.2.trans (Chg.of_below ((Below.refl _ _).alloc (Nat.le_refl _) _))⟩
    go_wp2_with fail
    refine (one_any sb _ _ HB.out.1 (by omega)).mono ?_
    rintro e w3 ⟨⟨b, rfl⟩, hD⟩
    have HD3 : Hid (Drew sb w w3) := ⟨hD.1, HB.out.2.trans hD.2⟩
    clear hD HB
    cases b
    · go_wp2_with fail
      refine (one_any sb _ _ HD3.out.1 (by omega)).mono ?_
      rintro e w4 ⟨⟨b, rfl⟩, hD⟩
      have HD4 : Hid (Drew sb w w4) := ⟨hD.1, HD3.out.2.trans hD.2⟩
      clear hD HD3
      cases b
      · go_wp2_with fail
        go_quiet (fail)
        go_wp2_with fail
        go_ret
        exact ⟨⟨_, rfl⟩, HD4.out.1.below (drewN_below' _ _), HD4.out.2.drewN _⟩
      · go_wp2_with fail
        go_quiet (fail)
        go_wp2_with fail
        go_ret
        exact ⟨⟨_, rfl⟩, HD4.out.1.below (drewN_below' _ _), HD4.out.2.drewN _⟩
    · go_wp2_with fail
      go_quiet (fail)
      go_wp2_with fail
      go_ret
      exact ⟨⟨_, rfl⟩, HD3.out.1.below (drewN_below' _ _), HD3.out.2.drewN _⟩

set_option maxHeartbeats 1000000 in
theorem pick_any (sb b n cap : Nat) (hn : 0 < n) (hn2 : n ≤ 1000) (w : World) (h : Src sb w) (hb : b ≠ sb) (hc : ∀ i, i < n → ∃ s, w.cell? ⟨b, i, none⟩ = some (.string s)) :
    Calls Tryd.prog 39 #[.pointer (some ⟨sb, 0, none⟩), .slice (some ⟨b, 0, none⟩) n cap] w fun e w' => (∃ s, e = .returned (.string s)) ∧ Drew sb w w' := by
  have H : Hid (Src sb w) := h
  have HC := Lib.hid hc
  clear h hc
  go_enter Tryd.func39, Tryd.ntmps39
  go_wp2_with fail
  refine (n_any sb n _ H.out (by omega)).mono ?_
  rintro e w1 ⟨⟨v, rfl, v0, v1, v2⟩, hD⟩
  have v3 : v < n := by
    by_cases k : (1 : Int) < n
    · exact v1 k
    · have := v2 (by omega); omega
  obtain ⟨s, hs⟩ := HC.out v.toNat (by omega)
  have hs1 : w1.cell? ⟨b, v.toNat, none⟩ = some (.string s) := (hD.2.cell (p := ⟨b, v.toNat, none⟩) (World.block_lt_of_cell? _ _ hs) hb).trans hs
  have HD : Hid (Drew sb w w1) := hD
  clear hD v1 v2 hs
  go_wp2_with fail
  go_ret
  exact ⟨⟨_, rfl⟩, HD.out⟩
end Go.Proofs.YtemmmhkjjcmcmaaDoor
