/-
  The draw of FnHistory.
-/
import Derived.Test.YtmejmpdljckfgaaDoorHsDr
namespace Go.Proofs.YtmejmpdljckfgaaDoor
open Go.RowKit Go.Deep

set_option maxRecDepth 100000 in
set_option maxHeartbeats 4000000 in
theorem dband_any (sb : Nat) (w : World) (h : Src sb w) :
    Calls Tryd.prog 51 #[.pointer (some ⟨sb, 0, none⟩)] w fun e w' => (∃ z : Int, e = .returned (.int .i64 z)) ∧ Drew sb w w' := by
  have H := Lib.hid h
  clear h
  go_enter Tryd.func51, Tryd.ntmps51
  go_wp2_with fail
  refine (one_any _ _ _ H.out (by omega)).mono ?_
  rintro e w2 ⟨⟨b, rfl⟩, hD⟩
  have HD := Lib.hid hD
  clear hD H
  cases b
  · go_wp2_with fail
    refine (n_any sb 9 _ HD.out.1 (by omega)).mono ?_
    rintro e w3 ⟨⟨z, rfl, z0, z1, _⟩, hD⟩
    have HD2 : Hid (Drew sb w w3) := ⟨hD.1, HD.out.2.trans hD.2⟩
    clear hD z1 HD
    go_wp2_with fail
    go_ret
    exact ⟨⟨_, rfl⟩, HD2.out⟩
  · have hba : Below w2.heap.size w2 (w2.alloc (.cells #[.int .i64 (-1), .int .i64 1000000, .int .i64 1000001] 2)) := nbel_alloc _ _
    have HS4 := Lib.hid (HD.out.1.below hba)
    go_wp2_with fail
    refine (n_any sb 3 _ HS4.out (by omega)).mono ?_
    rintro e w8 ⟨⟨r, rfl, r0, r1, _⟩, hD⟩
    have r2 : r < 3 := r1 (by omega)
    have hrow : w8.rowIs w2.heap.size 2 3 (rowN [.int .i64 (-1), .int .i64 1000000, .int .i64 1000001]) := (rowN_alloc w2 [.int .i64 (-1), .int .i64 1000000, .int .i64 1000001] 2).of_block (hD.2.2.2.2.2 w2.heap.size (by simp) (fun e2 => by have := HD.out.1.lt; omega))
    have HD2 : Hid (Drew sb w w8) := ⟨hD.1, (HD.out.2.trans (Chg.of_below hba)).trans hD.2⟩
    obtain ⟨⟨d0, d1, d2⟩, _⟩ := rowN3 hrow
    obtain ⟨t, rfl⟩ : ∃ t : Nat, r = t := ⟨r.toNat, by omega⟩
    obtain ⟨u, hu⟩ : ∃ u : Int, w8.cell? ⟨w2.heap.size, t, none⟩ = some (.int .i64 u) := by
      have : t = 0 ∨ t = 1 ∨ t = 2 := by omega
      rcases this with rfl | rfl | rfl
      · exact ⟨_, d0⟩
      · exact ⟨_, d1⟩
      · exact ⟨_, d2⟩
    have hrl := hrow.lt
    have htz : (t : Int) < 3 := by omega
    clear hD r1 hba hrow d0 d1 d2 HS4 HD
    go_wp2_with fail
    go_ret
    exact ⟨⟨_, rfl⟩, HD2.out⟩
set_option maxRecDepth 100000 in
set_option maxHeartbeats 4000000 in
theorem drawHP_any (a : Option Addr) (len cap : Nat) (w : World) (h : Bytes a len w) (hl : len ≤ 4194304) :
    Calls Tryd.prog 17 #[.slice a len cap] w fun e w' => (∃ va k n F b, e = .returned (.tuple #[.slice va n k, .int .i64 b]) ∧ CyO 2 w.heap.size n va k F w' ∧ n ≤ 302) ∧ Below w.heap.size w w' := by
  have H := Lib.hid h
  clear h
  go_enter Tryd.func17, Tryd.ntmps17
  go_wp2_with fail
  refine (source_any a len cap _ H.out hl).mono ?_
  rintro e w1 ⟨rfl, hs, hb⟩
  have HS := Lib.hid hs
  have HB := Lib.hid hb
  clear hs hb H
  go_wp2_with fail
  refine (dseries_any w.heap.size _ HS.out).mono ?_
  rintro e w2 ⟨⟨va, k, n, F, rfl, hc, hn⟩, hD⟩
  have HS2 := Lib.hid hD.1
  have HB2 : Hid (Below w.heap.size w w2) := HB.out.trans (hD.2.below (Nat.le_refl _) HB.out.size)
  have HC : Hid (CyO 2 w1.heap.size n va k F w2) := hc
  have HZ : Hid (w.heap.size < w1.heap.size) := HS.out.lt
  clear hc hD HS HB
  go_wp2_with fail
  refine (dband_any w.heap.size _ HS2.out).mono ?_
  rintro e w3 ⟨⟨b, rfl⟩, hD⟩
  have HB3 : Hid (Below w.heap.size w w3) := HB2.out.trans (hD.2.below (Nat.le_refl _) HB2.out.size)
  have HC3 : Hid (CyO 2 w.heap.size n va k F w3) := (HC.out.keep (fun q e h1 h2 => hD.2.2.2.2.2 q h2 (fun e2 => by have := HZ.out; omega))).low (Nat.le_of_lt HZ.out)
  clear hD HS2 HB2 HC
  go_wp2_with fail
  exact bodyPost_ret (v := .tuple #[.slice va n k, .int .i64 b]) (by simp only [results, Tryd.results17]; simp [go_sem]) rfl ⟨⟨va, k, n, F, b, rfl, HC3.out, hn⟩, HB3.out⟩
end Go.Proofs.YtmejmpdljckfgaaDoor
