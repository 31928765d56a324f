/-
  The law FnFrameTurned.
-/
import Derived.Test.YtgkgpdionhfkmaaDoorLwFrames
import Derived.Test.YtgkgpdionhfkmaaDoorLwAt
import Derived.Test.YtgkgpdionhfkmaaDoorTurnMath
import Derived.Test.YtgkgpdionhfkmaaDoorFrI7
import Derived.Test.YtgkgpdionhfkmaaDoorReg
import Derived.Lib.Slices
import Derived.Lib.ConvBytes
import Derived.Lib.AtoiErrMem
import Derived.Laws.BitsAllLaws
namespace Go.Proofs.YtgkgpdionhfkmaaDoor
open Go.RowKit Go.Deep

/-- The form of a value that owns frames. -/
theorem OwnF.first {B : Nat} {v : Value} {f : FrD} {fs : List FrD} {W : World} (h : OwnF B v (f :: fs) W) : ∃ g cap, v = .slice (some ⟨g, 0, none⟩) (fs.length + 1) cap ∧ B ≤ g ∧ W.cell? ⟨g, 0, none⟩ = some (.int .i64 f.u) ∧ W.cell? ⟨g, 1, none⟩ = some (.int .i64 f.k) ∧ W.cell? ⟨g, 2, none⟩ = some (.int .i64 f.q) ∧ W.cell? ⟨g, 3, none⟩ = some (.string f.b) := by
  obtain ⟨h', hn⟩ := h
  have hh := h'
  obtain ⟨h1, h2⟩ := h'
  rcases h2 with h2 | ⟨g, cap, cur, e1, e2, e3, _⟩
  · exact absurd h2.1 hn
  · have hb : v.ownBlock = some g := by rw [e1]; rfl
    have c0 := hh.cells hb 0 (.int .i64 f.u) (by simp [FrD.cells])
    have c1 := hh.cells hb 1 (.int .i64 f.k) (by simp [FrD.cells])
    have c2 := hh.cells hb 2 (.int .i64 f.q) (by simp [FrD.cells])
    have c3 := hh.cells hb 3 (.string f.b) (by simp [FrD.cells])
    simp [Addr.add] at c0 c1 c2 c3
    exact ⟨g, cap, by rw [e1]; simp, e2, c0, c1, c2, c3⟩

theorem bytesWorld_frozen (w : World) (e : TypeId) (s : ByteArray) (j : Nat) (hj : j < s.size) : (Lib.bytesWorld w e s).frozen? ⟨w.heap.size, j, none⟩ = false := by
  have h := Lib.bytesWorld_at_new w e s
  have hc := Lib.bytesWorld_cell w e s j hj
  have hlt : j < (Lib.bytesCells w e s).size := by
    unfold World.cell? at hc
    simp only [h] at hc
    rcases Nat.lt_or_ge j (Lib.bytesCells w e s).size with h1 | h1
    · exact h1
    · simp [Array.getElem?_eq_none h1] at hc
  simp [World.frozen?, h]
  omega

theorem frv_code (o : Fr.Out) : ∀ w : World, (Instr.field 34 (Fr.val o) 2).run Tryd.prog w = .ok (.int .i64 o.code) w := fun _ => by unfold Fr.val; kernel_rfl
theorem turn_byte (x : Nat) (y : Int) (hx : x < 256) (y0 : 0 ≤ y) (y1 : y < 255) : ∃ c : UInt8, bits .xor .u8 (x : Int) (1 + y) = ((c.toNat : Nat) : Int) ∧ c.toNat ≠ x := by
  obtain ⟨m, rfl⟩ : ∃ m : Nat, y = m := ⟨y.toNat, by omega⟩
  have hlt : x ^^^ (1 + m) < 256 := Nat.xor_lt_two_pow (n := 8) (by omega) (by omega)
  refine ⟨UInt8.ofNat (x ^^^ (1 + m)), ?_, ?_⟩
  · have e : (1 + (m : Int)) = ((1 + m : Nat) : Int) := by omega
    rw [e, u8_xor_nat x (1 + m) hx (by omega), UInt8.toNat_ofNat']
    congr 1
    exact (Nat.mod_eq_of_lt hlt).symm
  · rw [UInt8.toNat_ofNat', Nat.mod_eq_of_lt (show x ^^^ (1 + m) < 2 ^ 8 from hlt)]
    intro e
    have := congrArg (fun z => x ^^^ z) e
    simp [← Nat.xor_assoc] at this

set_option linter.unusedSimpArgs false in
set_option maxRecDepth 100000 in
set_option maxHeartbeats 4000000 in
theorem turned_law (a : Option Addr) (len cap : Nat) (w : World) (h : Bytes a len w) (hl : len ≤ 1048576) (hg0 : Et w) :
    Calls Tryd.prog 4 #[.slice a len cap] w fun e w' => e = .returned (.bool true) ∧ Below w.heap.size w w' := by
  have z1 : ¬ (1048576 : Int) < (len : Int) := by omega
  have H := Lib.hid h
  have HG := Lib.hid hg0
  clear h hg0
  go_enter Tryd.func4, Tryd.ntmps4
  go_wp2_with fail
  refine (lwFrames_any a len cap _ H.out hl).mono ?_
  rintro e w1 ⟨v, rfl, fs, hfl, hright, hown, hb⟩
  have HB1 : Hid (Below w.heap.size w w1) := hb
  clear hb
  cases fs with
  | nil =>
    obtain ⟨⟨h1, h2⟩, hn⟩ := hown
    rcases h2 with h2 | ⟨g, cp, cur, e1, e2, e3, _⟩
    · exact absurd h2.1 hn
    · simp only [List.length_nil] at e1
      subst e1
      clear hright h1 hn e3
      go_wp2_with fail
      go_ret
      exact ⟨rfl, HB1.out⟩
  | cons f fs =>
    obtain ⟨g, cp, rfl, hg, c0, c1, c2, c3⟩ := hown.first
    have hr : f.right := hright f (by simp)
    have hl1 : ((fs.length + 1 : Nat) : Int) ≠ 0 := by omega
    have hl2 : (((fs.length : Int) + 1) == 0) = false := by simp; omega
    have hl3 : (0 : Int) < (fs.length : Int) + 1 := by omega
    have HR := Lib.hid hr
    clear hown hright hr hfl
    obtain ⟨u, k, q, b⟩ := f
    simp only at c0 c1 c2 c3
    go_wp2_with fail
    have hrb := HR.out
    unfold FrD.right at hrb
    simp only at hrb
    have hb64 : b.size ≤ 64 := ((Fr.rightB_iff _ _ _ _).1 hrb).2.2.2.2.2.2
    have HT1 := Lib.hid (fun wx => implFrText_yes u k q b wx hrb)
    have HT2 := Lib.hid (fun wx => specFrText_yes u k q b wx hrb)
    obtain ⟨T, hT⟩ : ∃ T : ByteArray, T = ⟨(Fr.text u k q b.data.toList).toArray⟩ := ⟨_, rfl⟩
    rw [← hT] at HT1 HT2
    have hTl : Hid (T.data.toList = Fr.text u k q b.data.toList) := by show _ = _; rw [hT]
    have hTs : T.size = 8 + b.size := by
      show T.data.toList.length = _
      rw [hTl.out, Fr.text_len]; rfl
    have HRB := Lib.hid hrb
    have HTS := Lib.hid hTs
    have hT8 : T.size ≤ 72 := by omega
    have hT9 : 8 ≤ T.size := by omega
    clear hT hrb HR hTs
    refine (HT1.out _).mono ?_
    rintro e w2 ⟨rfl, hb⟩
    have HB2 : Hid (Below w.heap.size w w2) := HB1.out.trans (hb.mono HB1.out.size)
    have d0 := (hb.cell (World.block_lt_of_cell? _ _ c0)).trans c0
    have d1 := (hb.cell (World.block_lt_of_cell? _ _ c1)).trans c1
    have d2 := (hb.cell (World.block_lt_of_cell? _ _ c2)).trans c2
    have d3 := (hb.cell (World.block_lt_of_cell? _ _ c3)).trans c3
    clear hb c0 c1 c2 c3 HB1 HT1
    go_wp2_with fail
    refine (HT2.out _).mono ?_
    rintro e w3 ⟨rfl, hb⟩
    have HB3 : Hid (Below w.heap.size w w3) := HB2.out.trans (hb.mono HB2.out.size)
    clear hb HB2 HT2 d0 d1 d2 d3
    go_wp2_with fail
    refine (lwAt_any a len cap 3 _ _ (H.out.below HB3.out) (by omega) (by omega) (by omega) (by omega)).mono ?_
    rintro e w4 ⟨⟨v, rfl, v0, v1, v2⟩, rfl⟩
    have v3 : v < T.size := by have := v2 (by omega); omega
    clear v2
    obtain ⟨i, rfl⟩ : ∃ i : Nat, v = i := ⟨v.toNat, by omega⟩
    have hi : i < T.size := by omega
    clear v0 v1 v3
    have hcv := fun wx => Lib.run_convert_string_bytes (P := Tryd.prog) wx 9 22 5 T Tryd.underlying9 Tryd.underlying22 Tryd.underlying5
    have F1 := Lib.hid (fun j (hj : j < T.size) => Lib.bytesWorld_cell w4 5 T j hj)
    have F2 := Lib.hid (fun j (hj : j < T.size) => bytesWorld_frozen w4 5 T j hj)
    have HB5 : Hid (Below w.heap.size w (Lib.bytesWorld w4 5 T)) := HB3.out.trans ((Lib.bytesWorld_below _ _ _).mono HB3.out.size)
    have hBw : w.heap.size ≤ w4.heap.size := HB3.out.size
    clear HB3
    obtain ⟨y, y0, y1, y2, hY⟩ := lwAt_val a len cap 5 255 w H.out (by omega) (by omega) (by omega) (by omega) (by omega)
    have HY := Lib.hid hY
    clear hY
    go_wp2_with fail
    have hc0 := F1.out i hi
    have hf0 := F2.out i hi
    have hx0 : (((T.data.toList.getD i 0).toNat : Nat) : Int) < 256 := by have := (T.data.toList.getD i 0).toNat_lt; omega
    generalize hX : (T.data.toList.getD i 0).toNat = x at *
    generalize Lib.bytesWorld w4 5 T = W5 at *
    generalize w4.heap.size = B at *
    generalize grownCap w4 T.size 0 5 = CP at *
    have hiz : (i : Int) < (T.size : Int) := by omega
    have hw2 : IntKind.u8.wrap (1 + y) = 1 + y := by simp [IntKind.wrap, IntKind.bits, IntKind.signed]; omega
    obtain ⟨c, hc1, hc2⟩ : ∃ c : UInt8, bits .xor .u8 (x : Int) (1 + y) = ((c.toNat : Nat) : Int) ∧ c.toNat ≠ x := turn_byte x y (by omega) y0 (by omega)
    have HN : Hid (c ≠ T.data.toList.getD i 0) := fun e => hc2 (by rw [e]; exact hX)
    have HCB : Hid (∀ W6 : World, (∀ j, W6.cell? ⟨B, j, none⟩ = ((W5.setCell ⟨B, i, none⟩ (.int .u8 (c.toNat : Int))).cell? ⟨B, j, none⟩)) → (convert 22 9 (.slice (some ⟨B, 0, none⟩) T.size CP)).run Tryd.prog W6 = .ok (.string ⟨(T.data.toList.set i c).toArray⟩) W6) := fun W6 h6 => by
      have hlen : T.size = (T.data.toList.set i c).length := by rw [List.length_set]; rfl
      rw [hlen]
      refine run_convert_bytes_back (P := Tryd.prog) W6 22 9 5 ⟨B, 0, none⟩ CP (T.data.toList.set i c) Tryd.underlying22 Tryd.underlying5 Tryd.underlying9 (fun j hj => ?_)
      have ea : ((⟨B, 0, none⟩ : Addr).add j) = ⟨B, j, none⟩ := by
        by_cases h0 : j = 0
        · subst h0; simp [Addr.add]
        · simp [Addr.add, h0]
      rw [ea, h6 j, List.getElem_set]
      have hj2 : j < T.size := by rw [List.length_set] at hj; exact hj
      by_cases e : i = j
      · subst e
        rw [if_pos rfl]
        exact World.cell?_setCell_same _ _ _ hc0
      · rw [if_neg e, World.cell?_setCell_other _ _ _ _ (by simp [e]), F1.out j hj2]
        rw [List.getD_eq_getElem?_getD, List.getElem?_eq_getElem (show j < T.data.toList.length from hj2)]
        rfl
    have HB6 : Hid (Below w.heap.size w (W5.setCell ⟨B, i, none⟩ (.int .u8 (c.toNat : Int)))) := HB5.out.setCell (p := ⟨B, i, none⟩) hBw _
    have hw1 : IntKind.i64.wrap (1 + y) = 1 + y := by simp [IntKind.wrap, IntKind.bits, IntKind.signed]; omega
    have HTN : Hid (i ≠ 5 → (Fr.read (T.data.toList.set i c)).code ≠ 0) := fun h5 => by
      have hlt : i < (Fr.text u k q b.data.toList).length := by rw [← hTl.out]; exact hi
      have := Fr.turned u k q b.data.toList hb64 i hlt h5 c (by
        have e := HN.out
        rw [hTl.out, List.getD_eq_getElem?_getD, List.getElem?_eq_getElem hlt] at e
        exact e)
      rw [hTl.out]; exact this
    have HCUT : Hid ((Fr.read (T.extract 0 i).data.toList).code = if i = 0 then 4 else 6) := by
      show _ = _
      rw [Lib.extract_data, List.drop_zero, Nat.sub_zero, hTl.out]
      refine Fr.cut_off u k q b.data.toList HRB.out i ?_
      have e := HTS.out
      have e2 : b.data.toList.length = b.size := rfl
      omega
    have K1 := Lib.hid (fun wx (hx : Et wx) => implFrRead_any ⟨(T.data.toList.set i c).toArray⟩ (by show (T.data.toList.set i c).toArray.size ≤ 20000; have e : T.data.toList.length = T.size := rfl; simp only [List.size_toArray, List.length_set]; omega) wx hx)
    have K2 := Lib.hid (fun wx (hx : Et wx) => implFrRead_any (T.extract 0 i) (by
      show (T.extract 0 i).data.toList.length ≤ 20000
      rw [Lib.extract_data, List.length_take]; omega) wx hx)
    go_region_with (go_at_call 11; (first | refine (HY.out _ HB5.out.drew).mono ?_ | refine (HY.out _ HB5.out.drew.drew).mono ?_); rintro e w6 ⟨rfl, rfl⟩)
    all_goals
      have hcb1 := HCB.out (W5.setCell ⟨B, i, none⟩ (.int .u8 (c.toNat : Int))).drew (fun _ => by simp)
      have HB7 : Hid (Below w.heap.size w (W5.setCell ⟨B, i, none⟩ (.int .u8 (c.toNat : Int))).drew) := HB6.out.drew
      generalize (W5.setCell ⟨B, i, none⟩ (.int .u8 (c.toNat : Int))).drew = W7 at *
      by_cases h5 : i = 5
      · have e5 : ((i : Int) != 5) = false := by simp [h5]
        clear h5
        have HBx := HB7
        clear HB7
        go_wp2_with fail
        refine (K2.out _ (HG.out.below HBx.out)).mono ?_
        rintro e w8 ⟨rfl, hb⟩
        have HB8 : Hid (Below w.heap.size w w8) := HBx.out.trans (hb.mono HBx.out.size)
        clear hb HBx
        have hfc := frv_code (Fr.read (T.extract 0 i).data.toList)
        rw [HCUT.out] at hfc
        generalize Fr.val (Fr.read (T.extract 0 i).data.toList) = R at *
        by_cases hi0 : i = 0
        · have ei : ((i : Int) == 0) = true := by simp [hi0]
          rw [if_pos hi0] at hfc
          clear hi0
          go_wp2_with fail
          go_ret
          exact ⟨rfl, HB8.out⟩
        · have ei : ((i : Int) == 0) = false := by simp [hi0]
          rw [if_neg hi0] at hfc
          clear hi0
          go_wp2_with fail
          go_ret
          exact ⟨rfl, HB8.out⟩
      · have e5 : ((i : Int) != 5) = true := by simp; omega
        have hcd := HTN.out h5
        clear h5
        go_wp2_with fail
        refine (K1.out _ (HG.out.below HB7.out)).mono ?_
        rintro e w9 ⟨rfl, hb⟩
        have HBx : Hid (Below w.heap.size w w9) := HB7.out.trans (hb.mono HB7.out.size)
        clear hb HB7
        have hfd := frv_code (Fr.read (T.data.toList.set i c))
        generalize Fr.val (Fr.read (T.data.toList.set i c)) = R1 at *
        generalize (Fr.read (T.data.toList.set i c)).code = cd at *
        have hcz : (cd == 0) = false := by simpa using hcd
        go_wp2_with fail
        refine (K2.out _ (HG.out.below HBx.out)).mono ?_
        rintro e w8 ⟨rfl, hb⟩
        have HB8 : Hid (Below w.heap.size w w8) := HBx.out.trans (hb.mono HBx.out.size)
        clear hb HBx
        have hfc := frv_code (Fr.read (T.extract 0 i).data.toList)
        rw [HCUT.out] at hfc
        generalize Fr.val (Fr.read (T.extract 0 i).data.toList) = R at *
        by_cases hi0 : i = 0
        · have ei : ((i : Int) == 0) = true := by simp [hi0]
          rw [if_pos hi0] at hfc
          clear hi0
          go_wp2_with fail
          go_ret
          exact ⟨rfl, HB8.out⟩
        · have ei : ((i : Int) == 0) = false := by simp [hi0]
          rw [if_neg hi0] at hfc
          clear hi0
          go_wp2_with fail
          go_ret
          exact ⟨rfl, HB8.out⟩
end Go.Proofs.YtgkgpdionhfkmaaDoor
