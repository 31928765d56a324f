/-
  Joined: NtR9, NtR11, NtR13, NtR14, NtR19, NtR20, NtR23, NtR27, NtR29, NtR33, NtDr, NtDs.
-/
import Derived.Test.YtkaokfmaecdkiaaGreatDoorNtPd
import Derived.Maps.AppendAt
import Derived.Deep.RegionHeld3
import Derived.Deep.DeepCutAuto
namespace Go.Proofs.YtkaokfmaecdkiaaGreatDoor
open Go Go.RowKit Go.Deep

set_option maxRecDepth 100000 in
set_option maxHeartbeats 32000000 in
theorem nreg9 {w : World} (sb R : Nat) (nd : Int) (ln fn wn : Nat) (i : Nat) (x1 x2 x4 x6 x7 x8 x9 x10 x11 x12 x13 x14 x15 x16 x17 x18 x19 x20 x21 x22 x23 x24 x25 x26 x27 x28 x29 x30 x31 x32 x33 x34 x35 x36 x37 x38 x39 x40 x41 x42 x43 x44 x45 x46 x47 x48 x49 x50 x51 x52 x53 x54 x55 x56 x57 x58 x59 x60 x61 x62 x63 x64 x65 x66 x67 x68 x69 x70 x71 x72 x73 x74 x75 x76 x77 x78 x79 x80 x81 x82 x83 x84 x85 x86 x87 x88 x89 x90 x91 x92 x93 x94 x95 x96 x97 x98 x99 x100 x101 x102 x103 x104 x105 x106 x107 x108 x109 x110 x111 x112 x113 x114 x115 x116 x117 x118 x119 x120 x121 x122 x123 x124 x125 x126 x127 x128 x129 x130 x131 x132 x133 x134 x135 x136 x137 x138 x139 x140 x141 x142 x143 x144 x145 x146 x147 x148 x149 x150 x151 x152 x153 x154 x155 x156 x157 x158 x159 x160 x161 x162 x163 x164 x165 x166 x167 x168 x169 x170 x171 x172 x173 x174 x175 x176 x177 x178 x179 x180 x181 x182 : Value) (ds : _) (Q : Exit → Act → World → Prop) (W0 : World)
    (HY : Hid (NY w sb R nd ln fn wn W0)) (hi : i ≤ 12) (hln : ln ≤ 200) (hP : ∀ c (a : Act) o v w, Q (.panic c) (a.put o v) w → Q (.panic c) a w)
    (hQ : ∀ (y33 y34 y35 y36 y37 y38 y39 y40 y41 y42 y43 y44 y45 : Value) (WZ : World), Hid (NY w sb R nd (ln + 1) fn wn WZ) → Q .normal { tmps := #[(.pointer (some ⟨sb, 0, none⟩)), x1, x2, (.pointer (some ⟨R, 0, none⟩)), x4, (.int .i64 i), x6, x7, x8, x9, x10, x11, x12, x13, x14, x15, x16, x17, x18, x19, x20, x21, x22, x23, x24, x25, x26, x27, x28, x29, x30, x31, x32, y33, y34, y35, y36, y37, y38, y39, y40, y41, y42, y43, y44, y45, x46, x47, x48, x49, x50, x51, x52, x53, x54, x55, x56, x57, x58, x59, x60, x61, x62, x63, x64, x65, x66, x67, x68, x69, x70, x71, x72, x73, x74, x75, x76, x77, x78, x79, x80, x81, x82, x83, x84, x85, x86, x87, x88, x89, x90, x91, x92, x93, x94, x95, x96, x97, x98, x99, x100, x101, x102, x103, x104, x105, x106, x107, x108, x109, x110, x111, x112, x113, x114, x115, x116, x117, x118, x119, x120, x121, x122, x123, x124, x125, x126, x127, x128, x129, x130, x131, x132, x133, x134, x135, x136, x137, x138, x139, x140, x141, x142, x143, x144, x145, x146, x147, x148, x149, x150, x151, x152, x153, x154, x155, x156, x157, x158, x159, x160, x161, x162, x163, x164, x165, x166, x167, x168, x169, x170, x171, x172, x173, x174, x175, x176, x177, x178, x179, x180, x181, x182], defers := ds } WZ) :
    (Code.region 9 #[{ dst := some 33, op := Op.fieldAddr 27 (Operand.tmp 3) 1, type := 0, pos := "l07_linear.go:209", after := #[], guard := none }, { dst := some 34, op := Op.load 23 (Operand.tmp 33), type := 23, pos := "l07_linear.go:209", after := #[{ on := 0, ground := Ground.data }], guard := none }, { dst := some 35, op := Op.move (Operand.tmp 5), type := 2, pos := "l07_linear.go:209", after := #[], guard := none }, { dst := some 36, op := Op.move (Operand.tmp 0), type := 52, pos := "l07_linear.go:209", after := #[], guard := none }, { dst := some 37, op := Op.move (Operand.tmp 5), type := 2, pos := "l07_linear.go:209", after := #[], guard := none }, { dst := some 38, op := Op.call { callee := Callee.value (Operand.func 52), args := #[Operand.tmp 36, Operand.tmp 37], argTypes := #[52, 2] }, type := 2, pos := "l07_linear.go:209", after := #[{ on := 3, ground := Ground.data }, { on := 4, ground := Ground.data }], guard := none }, { dst := some 39, op := Op.move (Operand.tmp 0), type := 52, pos := "l07_linear.go:209", after := #[], guard := none }, { dst := some 40, op := Op.call { callee := Callee.value (Operand.func 52), args := #[Operand.tmp 39, Operand.const (Value.int IntKind.i64 4)], argTypes := #[52, 2] }, type := 2, pos := "l07_linear.go:209", after := #[{ on := 6, ground := Ground.data }, { on := 5, ground := Ground.chain }], guard := none }, { dst := some 41, op := Op.binOp BinOp.add 2 (Operand.const (Value.int IntKind.i64 1)) (Operand.tmp 40) 2, type := 2, pos := "l07_linear.go:209", after := #[{ on := 7, ground := Ground.data }], guard := none }, { dst := some 42, op := Op.build 68 #[(0, Operand.tmp 35), (1, Operand.tmp 38), (2, Operand.tmp 41)], type := 68, pos := "l07_linear.go:209", after := #[{ on := 2, ground := Ground.data }, { on := 5, ground := Ground.data }, { on := 8, ground := Ground.data }], guard := none }, { dst := some 43, op := Op.buildSlice 23 1 #[(0, Operand.tmp 42)], type := 23, pos := "l07_linear.go:209", after := #[{ on := 9, ground := Ground.data }], guard := none }, { dst := some 44, op := Op.call { callee := Callee.builtin Builtin.append, args := #[Operand.tmp 34, Operand.tmp 43], argTypes := #[23, 23] }, type := 23, pos := "l07_linear.go:209", after := #[{ on := 1, ground := Ground.data }, { on := 10, ground := Ground.data }, { on := 7, ground := Ground.chain }], guard := none }, { dst := some 45, op := Op.fieldAddr 27 (Operand.tmp 3) 1, type := 0, pos := "l07_linear.go:209", after := #[{ on := 0, ground := Ground.phase }, { on := 1, ground := Ground.phase }, { on := 2, ground := Ground.phase }, { on := 3, ground := Ground.phase }, { on := 4, ground := Ground.phase }, { on := 5, ground := Ground.phase }, { on := 6, ground := Ground.phase }, { on := 7, ground := Ground.phase }, { on := 8, ground := Ground.phase }, { on := 9, ground := Ground.phase }, { on := 10, ground := Ground.phase }, { on := 11, ground := Ground.phase }], guard := none }, { dst := none, op := Op.store 23 (Operand.tmp 45) (Operand.tmp 44), type := 0, pos := "l07_linear.go:209", after := #[{ on := 12, ground := Ground.data }, { on := 11, ground := Ground.data }, { on := 11, ground := Ground.chain }, { on := 0, ground := Ground.phase }, { on := 1, ground := Ground.phase }, { on := 2, ground := Ground.phase }, { on := 3, ground := Ground.phase }, { on := 4, ground := Ground.phase }, { on := 5, ground := Ground.phase }, { on := 6, ground := Ground.phase }, { on := 7, ground := Ground.phase }, { on := 8, ground := Ground.phase }, { on := 9, ground := Ground.phase }, { on := 10, ground := Ground.phase }, { on := 11, ground := Ground.phase }], guard := none }] true).wp Tryz.prog Q { tmps := #[(.pointer (some ⟨sb, 0, none⟩)), x1, x2, (.pointer (some ⟨R, 0, none⟩)), x4, (.int .i64 i), x6, x7, x8, x9, x10, x11, x12, x13, x14, x15, x16, x17, x18, x19, x20, x21, x22, x23, x24, x25, x26, x27, x28, x29, x30, x31, x32, x33, x34, x35, x36, x37, x38, x39, x40, x41, x42, x43, x44, x45, x46, x47, x48, x49, x50, x51, x52, x53, x54, x55, x56, x57, x58, x59, x60, x61, x62, x63, x64, x65, x66, x67, x68, x69, x70, x71, x72, x73, x74, x75, x76, x77, x78, x79, x80, x81, x82, x83, x84, x85, x86, x87, x88, x89, x90, x91, x92, x93, x94, x95, x96, x97, x98, x99, x100, x101, x102, x103, x104, x105, x106, x107, x108, x109, x110, x111, x112, x113, x114, x115, x116, x117, x118, x119, x120, x121, x122, x123, x124, x125, x126, x127, x128, x129, x130, x131, x132, x133, x134, x135, x136, x137, x138, x139, x140, x141, x142, x143, x144, x145, x146, x147, x148, x149, x150, x151, x152, x153, x154, x155, x156, x157, x158, x159, x160, x161, x162, x163, x164, x165, x166, x167, x168, x169, x170, x171, x172, x173, x174, x175, x176, x177, x178, x179, x180, x181, x182], defers := ds } W0 := by
  obtain ⟨li0, hli0, hli1, hli2, hli3⟩ := info_parts linfo
  obtain ⟨fi0, hfi0, hfi1, hfi2, hfi3⟩ := info_parts finfo
  obtain ⟨wi0, hwi0, hwi1, hwi2, hwi3⟩ := info_parts winfo
  obtain ⟨la, lk, fa, fk, wa, wk, ls, fs, ws, hN, hR⟩ := HY.out
  have HN := Lib.hid hN
  have HR := Lib.hid hR
  clear hN hR HY
  refine region_L (fun V => V.rowIs R 27 4 (rowN (ndR nd (.slice la ln lk) (.slice fa fn fk) (.slice wa wn wk)))) 13 (by kernel_rfl) (HR.out.of_block rfl) (fun hHeld => ?_)
  obtain ⟨Z1, hZ1⟩ : ∃ Z, Z = W0.drew := ⟨_, rfl⟩
  replace HN := Lib.hid (HN.out.below (Below.refl _ _).drew)
  replace HR := Lib.hid (nrow_below HR.out (Below.refl _ _).drew)
  rw [← hZ1] at hHeld HN HR ⊢
  clear hZ1
  refine takeL_do (i := 0) (v := (.pointer (some ⟨R, 1, none⟩))) rfl (by kernel_rfl) (by kernel_rfl) (by kernel_rfl) (by kernel_rfl) (fun _ _ _ h => hP _ _ _ _ _ h) (by rfl) ?_ (by assumption) ?_
  · intro w hSw
    skip
    go_simp
  simp only [Act.put, List.setIfInBounds_toArray, List.set_cons_zero, List.set_cons_succ]
  refine takeL_do (i := 1) (v := (.slice la ln lk)) rfl (by kernel_rfl) (by kernel_rfl) (by kernel_rfl) (by kernel_rfl) (fun _ _ _ h => hP _ _ _ _ _ h) (by rfl) ?_ (by assumption) ?_
  · intro w hSw
    obtain ⟨⟨x0, x1, x2, x3⟩, _⟩ := rowN4 hSw
    go_simp
  simp only [Act.put, List.setIfInBounds_toArray, List.set_cons_zero, List.set_cons_succ]
  refine takeL_do (i := 2) (v := (.int .i64 i)) rfl (by kernel_rfl) (by kernel_rfl) (by kernel_rfl) (by kernel_rfl) (fun _ _ _ h => hP _ _ _ _ _ h) (by rfl) ?_ (by assumption) ?_
  · intro w hSw
    skip
    go_simp
  simp only [Act.put, List.setIfInBounds_toArray, List.set_cons_zero, List.set_cons_succ]
  refine takeL_do (i := 3) (v := (.pointer (some ⟨sb, 0, none⟩))) rfl (by kernel_rfl) (by kernel_rfl) (by kernel_rfl) (by kernel_rfl) (fun _ _ _ h => hP _ _ _ _ _ h) (by rfl) ?_ (by assumption) ?_
  · intro w hSw
    skip
    go_simp
  simp only [Act.put, List.setIfInBounds_toArray, List.set_cons_zero, List.set_cons_succ]
  refine takeL_do (i := 4) (v := (.int .i64 i)) rfl (by kernel_rfl) (by kernel_rfl) (by kernel_rfl) (by kernel_rfl) (fun _ _ _ h => hP _ _ _ _ _ h) (by rfl) ?_ (by assumption) ?_
  · intro w hSw
    skip
    go_simp
  simp only [Act.put, List.setIfInBounds_toArray, List.set_cons_zero, List.set_cons_succ]
  refine takeL_do (i := 6) (v := (.pointer (some ⟨sb, 0, none⟩))) rfl (by kernel_rfl) (by kernel_rfl) (by kernel_rfl) (by kernel_rfl) (fun _ _ _ h => hP _ _ _ _ _ h) (by rfl) ?_ (by assumption) ?_
  · intro w hSw
    skip
    go_simp
  simp only [Act.put, List.setIfInBounds_toArray, List.set_cons_zero, List.set_cons_succ]
  refine takeL_call (i := 5) rfl (by kernel_rfl) (fun K2 hK => ?_)
  go_simp
  refine (n_any sb (i : Int) _ HN.out.src.1 (by omega)).mono ?_
  rintro e Z2 ⟨⟨f, rfl, f0, f1, f2⟩, hD⟩
  replace HR := Lib.hid (md_chg HR.out (by have := HN.out.rl; have := HN.out.sbl; omega) hD.2)
  replace HN := Lib.hid (HN.out.draw hD)
  clear hD f1 f2
  go_wp2_with fail
  refine hK.out _ _ HR.out (fun hHeld2 => ?_)
  clear hK hHeld
  have hHeld := hHeld2
  clear hHeld2
  refine takeL_call (i := 7) rfl (by kernel_rfl) (fun K2 hK => ?_)
  go_simp
  refine (n_any sb 4 _ HN.out.src.1 (by omega)).mono ?_
  rintro e Z3 ⟨⟨g, rfl, g0, g1, g2⟩, hD⟩
  replace HR := Lib.hid (md_chg HR.out (by have := HN.out.rl; have := HN.out.sbl; omega) hD.2)
  replace HN := Lib.hid (HN.out.draw hD)
  have hg4 : g < 4 := g1 (by omega)
  clear hD g1 g2
  go_wp2_with fail
  refine hK.out _ _ HR.out (fun hHeld2 => ?_)
  clear hK hHeld
  have hHeld := hHeld2
  clear hHeld2
  refine takeL_do (i := 8) (v := (.int .i64 (1 + g))) rfl (by kernel_rfl) (by kernel_rfl) (by kernel_rfl) (by kernel_rfl) (fun _ _ _ h => hP _ _ _ _ _ h) (by rfl) ?_ (by assumption) ?_
  · intro w hSw
    have hwr : IntKind.i64.wrap (1 + g) = 1 + g := md_wrap (by omega) (by omega)
    go_simp
  simp only [Act.put, List.setIfInBounds_toArray, List.set_cons_zero, List.set_cons_succ]
  refine takeL_do (i := 9) (v := (.agg #[.int .i64 i, .int .i64 f, .int .i64 (1 + g)])) rfl (by kernel_rfl) (by kernel_rfl) (by kernel_rfl) (by kernel_rfl) (fun _ _ _ h => hP _ _ _ _ _ h) (by rfl) ?_ (by assumption) ?_
  · intro w hSw
    skip
    go_simp
  simp only [Act.put, List.setIfInBounds_toArray, List.set_cons_zero, List.set_cons_succ]
  refine takeL_call (i := 10) rfl (by kernel_rfl) (fun K2 hK => ?_)
  obtain ⟨Z4, hZ4⟩ : ∃ Z, Z = Z3.alloc (.cells #[.int .i64 i, .int .i64 f, .int .i64 (1 + g)] 68) := ⟨_, rfl⟩
  have hb : Below Z3.heap.size Z3 Z4 := by rw [hZ4]; exact nbel_alloc _ _
  obtain ⟨gs, hgs⟩ : ∃ gs, gs = Z3.heap.size := ⟨_, rfl⟩
  have HL : Hid (∀ j u, [Value.int .i64 i, .int .i64 f, .int .i64 (1 + g)][j]? = some u → Z4.cell? ((⟨gs, 0, none⟩ : Addr).add j) = some u) := by
    rw [hZ4, hgs]; exact ncells3 _ _ _ _ _
  replace HN := Lib.hid (HN.out.below hb)
  replace HR := Lib.hid (nrow_below HR.out hb)
  go_simp
  rw [← hZ4, ← hgs]
  refine hK.out _ _ HR.out (fun hHeld2 => ?_)
  clear hK hHeld
  have hHeld := hHeld2
  clear hHeld2
  clear hb hZ4 hgs
  refine takeL_call (i := 11) rfl (by kernel_rfl) (fun K2 hK => ?_)
  refine mdap rfl (.tmp 34) (.tmp 43) 23 rfl w.heap.size 68 li0 (.agg #[.int .i64 0, .int .i64 0, .int .i64 0]) 3 24 Tryz.underlying23 hli0 hli1 hli2 hli3 rfl (by decide) _ ln _ rfl HN.out.lo ⟨gs, 0, none⟩ 1 1 [.int .i64 i, .int .i64 f, .int .i64 (1 + g)] rfl rfl HL.out ?_ (by unfold maxLen; omega) (by omega) HN.out.src.2.size ?_
  · intro u hu; simp at hu; rcases hu with rfl | rfl | rfl <;> rfl
  intro v' Z5 hown hgrow
  obtain ⟨a8, c8, rfl⟩ := lpown_shape hown
  replace HR := Lib.hid (md_row HR.out HN.out.lo (by decide) hgrow)
  replace HN := Lib.hid (HN.out.app_l (zs := [(i : Int), (f : Int), (1 + g : Int)]) hgrow hown)
  refine hK.out _ _ HR.out (fun hHeld2 => ?_)
  clear hK hHeld hown hgrow HL
  have hHeld := hHeld2
  clear hHeld2
  simp only [Act.put, List.setIfInBounds_toArray, List.set_cons_zero, List.set_cons_succ]
  refine takeL_do (i := 12) (v := (.pointer (some ⟨R, 1, none⟩))) rfl (by kernel_rfl) (by kernel_rfl) (by kernel_rfl) (by kernel_rfl) (fun _ _ _ h => hP _ _ _ _ _ h) (by rfl) ?_ (by assumption) ?_
  · intro w hSw
    skip
    go_simp
  simp only [Act.put, List.setIfInBounds_toArray, List.set_cons_zero, List.set_cons_succ]
  obtain ⟨⟨o0, o1, o2, o3⟩, z0, z1, z2, z3⟩ := rowN4 HR.out
  have l0 := HR.out.lt
  obtain ⟨Z6, hZ6⟩ : ∃ WZ, WZ = Z5.setCell ⟨R, 1, none⟩ (.slice a8 (ln + 1) c8) := ⟨_, rfl⟩
  have HN2 := Lib.hid (HN.out.set HR.out (i := 1) (.slice a8 (ln + 1) c8))
  have HR2 := Lib.hid (rowN_put HR.out 1 (.slice a8 (ln + 1) c8) (by simp))
  rw [← hZ6] at HN2 HR2
  have HWZ := Lib.hid hZ6
  clear hZ6
  refine takeL_last rfl (by kernel_rfl) (by kernel_rfl) (fun K2 hK => ?_)
  go_simp
  rw [← HWZ.out]
  refine hK.out _ _ ?_
  clear hK hHeld HWZ o0 o1 o2 o3 z0 z1 z2 z3 l0 HN HR
  have HN := HN2
  have HR : Hid (Z6.rowIs R 27 4 (rowN (ndR nd (.slice a8 (ln + 1) c8) (.slice fa fn fk) (.slice wa wn wk)))) := HR2
  clear HN2 HR2
  exact hQ _ _ _ _ _ _ _ _ _ _ _ _ _ _ (Lib.hid ⟨_, _, _, _, _, _, _, _, _, HN.out, HR.out⟩)
end Go.Proofs.YtkaokfmaecdkiaaGreatDoor
namespace Go.Proofs.YtkaokfmaecdkiaaGreatDoor
open Go Go.RowKit Go.Deep

set_option maxRecDepth 100000 in
set_option maxHeartbeats 32000000 in
theorem nreg11 {w : World} (sb R : Nat) (nd : Int) (ln fn wn : Nat) (i : Nat) (x1 x2 x4 x6 x7 x8 x9 x10 x11 x12 x13 x14 x15 x16 x17 x18 x19 x20 x21 x22 x23 x24 x25 x26 x27 x28 x29 x30 x31 x32 x33 x34 x35 x36 x37 x38 x39 x40 x41 x42 x43 x44 x45 x46 x47 x48 x49 x50 x51 x52 x53 x54 x55 x56 x57 x58 x59 x60 x61 x62 x63 x64 x65 x66 x67 x68 x69 x70 x71 x72 x73 x74 x75 x76 x77 x78 x79 x80 x81 x82 x83 x84 x85 x86 x87 x88 x89 x90 x91 x92 x93 x94 x95 x96 x97 x98 x99 x100 x101 x102 x103 x104 x105 x106 x107 x108 x109 x110 x111 x112 x113 x114 x115 x116 x117 x118 x119 x120 x121 x122 x123 x124 x125 x126 x127 x128 x129 x130 x131 x132 x133 x134 x135 x136 x137 x138 x139 x140 x141 x142 x143 x144 x145 x146 x147 x148 x149 x150 x151 x152 x153 x154 x155 x156 x157 x158 x159 x160 x161 x162 x163 x164 x165 x166 x167 x168 x169 x170 x171 x172 x173 x174 x175 x176 x177 x178 x179 x180 x181 x182 : Value) (ds : _) (Q : Exit → Act → World → Prop) (W0 : World)
    (HY : Hid (NY w sb R nd ln fn wn W0)) (hi : i ≤ 12) (hln : ln ≤ 200) (hP : ∀ c (a : Act) o v w, Q (.panic c) (a.put o v) w → Q (.panic c) a w)
    (hQ : ∀ (y48 y49 y50 y51 y52 y53 y54 y55 y56 y57 y58 y59 y60 : Value) (WZ : World), Hid (NY w sb R nd (ln + 1) fn wn WZ) → Q .normal { tmps := #[(.pointer (some ⟨sb, 0, none⟩)), x1, x2, (.pointer (some ⟨R, 0, none⟩)), x4, (.int .i64 i), x6, x7, x8, x9, x10, x11, x12, x13, x14, x15, x16, x17, x18, x19, x20, x21, x22, x23, x24, x25, x26, x27, x28, x29, x30, x31, x32, x33, x34, x35, x36, x37, x38, x39, x40, x41, x42, x43, x44, x45, x46, x47, y48, y49, y50, y51, y52, y53, y54, y55, y56, y57, y58, y59, y60, x61, x62, x63, x64, x65, x66, x67, x68, x69, x70, x71, x72, x73, x74, x75, x76, x77, x78, x79, x80, x81, x82, x83, x84, x85, x86, x87, x88, x89, x90, x91, x92, x93, x94, x95, x96, x97, x98, x99, x100, x101, x102, x103, x104, x105, x106, x107, x108, x109, x110, x111, x112, x113, x114, x115, x116, x117, x118, x119, x120, x121, x122, x123, x124, x125, x126, x127, x128, x129, x130, x131, x132, x133, x134, x135, x136, x137, x138, x139, x140, x141, x142, x143, x144, x145, x146, x147, x148, x149, x150, x151, x152, x153, x154, x155, x156, x157, x158, x159, x160, x161, x162, x163, x164, x165, x166, x167, x168, x169, x170, x171, x172, x173, x174, x175, x176, x177, x178, x179, x180, x181, x182], defers := ds } WZ) :
    (Code.region 11 #[{ dst := some 48, op := Op.fieldAddr 27 (Operand.tmp 3) 1, type := 0, pos := "l07_linear.go:211", after := #[], guard := none }, { dst := some 49, op := Op.load 23 (Operand.tmp 48), type := 23, pos := "l07_linear.go:211", after := #[{ on := 0, ground := Ground.data }], guard := none }, { dst := some 50, op := Op.move (Operand.tmp 0), type := 52, pos := "l07_linear.go:211", after := #[], guard := none }, { dst := some 51, op := Op.move (Operand.tmp 5), type := 2, pos := "l07_linear.go:211", after := #[], guard := none }, { dst := some 52, op := Op.call { callee := Callee.value (Operand.func 52), args := #[Operand.tmp 50, Operand.tmp 51], argTypes := #[52, 2] }, type := 2, pos := "l07_linear.go:211", after := #[{ on := 2, ground := Ground.data }, { on := 3, ground := Ground.data }], guard := none }, { dst := some 53, op := Op.move (Operand.tmp 5), type := 2, pos := "l07_linear.go:211", after := #[], guard := none }, { dst := some 54, op := Op.move (Operand.tmp 0), type := 52, pos := "l07_linear.go:211", after := #[], guard := none }, { dst := some 55, op := Op.call { callee := Callee.value (Operand.func 52), args := #[Operand.tmp 54, Operand.const (Value.int IntKind.i64 4)], argTypes := #[52, 2] }, type := 2, pos := "l07_linear.go:211", after := #[{ on := 6, ground := Ground.data }, { on := 4, ground := Ground.chain }], guard := none }, { dst := some 56, op := Op.binOp BinOp.add 2 (Operand.const (Value.int IntKind.i64 1)) (Operand.tmp 55) 2, type := 2, pos := "l07_linear.go:211", after := #[{ on := 7, ground := Ground.data }], guard := none }, { dst := some 57, op := Op.build 68 #[(0, Operand.tmp 52), (1, Operand.tmp 53), (2, Operand.tmp 56)], type := 68, pos := "l07_linear.go:211", after := #[{ on := 4, ground := Ground.data }, { on := 5, ground := Ground.data }, { on := 8, ground := Ground.data }], guard := none }, { dst := some 58, op := Op.buildSlice 23 1 #[(0, Operand.tmp 57)], type := 23, pos := "l07_linear.go:211", after := #[{ on := 9, ground := Ground.data }], guard := none }, { dst := some 59, op := Op.call { callee := Callee.builtin Builtin.append, args := #[Operand.tmp 49, Operand.tmp 58], argTypes := #[23, 23] }, type := 23, pos := "l07_linear.go:211", after := #[{ on := 1, ground := Ground.data }, { on := 10, ground := Ground.data }, { on := 7, ground := Ground.chain }], guard := none }, { dst := some 60, op := Op.fieldAddr 27 (Operand.tmp 3) 1, type := 0, pos := "l07_linear.go:211", after := #[{ on := 0, ground := Ground.phase }, { on := 1, ground := Ground.phase }, { on := 2, ground := Ground.phase }, { on := 3, ground := Ground.phase }, { on := 4, ground := Ground.phase }, { on := 5, ground := Ground.phase }, { on := 6, ground := Ground.phase }, { on := 7, ground := Ground.phase }, { on := 8, ground := Ground.phase }, { on := 9, ground := Ground.phase }, { on := 10, ground := Ground.phase }, { on := 11, ground := Ground.phase }], guard := none }, { dst := none, op := Op.store 23 (Operand.tmp 60) (Operand.tmp 59), type := 0, pos := "l07_linear.go:211", after := #[{ on := 12, ground := Ground.data }, { on := 11, ground := Ground.data }, { on := 11, ground := Ground.chain }, { on := 0, ground := Ground.phase }, { on := 1, ground := Ground.phase }, { on := 2, ground := Ground.phase }, { on := 3, ground := Ground.phase }, { on := 4, ground := Ground.phase }, { on := 5, ground := Ground.phase }, { on := 6, ground := Ground.phase }, { on := 7, ground := Ground.phase }, { on := 8, ground := Ground.phase }, { on := 9, ground := Ground.phase }, { on := 10, ground := Ground.phase }, { on := 11, ground := Ground.phase }], guard := none }] true).wp Tryz.prog Q { tmps := #[(.pointer (some ⟨sb, 0, none⟩)), x1, x2, (.pointer (some ⟨R, 0, none⟩)), x4, (.int .i64 i), x6, x7, x8, x9, x10, x11, x12, x13, x14, x15, x16, x17, x18, x19, x20, x21, x22, x23, x24, x25, x26, x27, x28, x29, x30, x31, x32, x33, x34, x35, x36, x37, x38, x39, x40, x41, x42, x43, x44, x45, x46, x47, x48, x49, x50, x51, x52, x53, x54, x55, x56, x57, x58, x59, x60, x61, x62, x63, x64, x65, x66, x67, x68, x69, x70, x71, x72, x73, x74, x75, x76, x77, x78, x79, x80, x81, x82, x83, x84, x85, x86, x87, x88, x89, x90, x91, x92, x93, x94, x95, x96, x97, x98, x99, x100, x101, x102, x103, x104, x105, x106, x107, x108, x109, x110, x111, x112, x113, x114, x115, x116, x117, x118, x119, x120, x121, x122, x123, x124, x125, x126, x127, x128, x129, x130, x131, x132, x133, x134, x135, x136, x137, x138, x139, x140, x141, x142, x143, x144, x145, x146, x147, x148, x149, x150, x151, x152, x153, x154, x155, x156, x157, x158, x159, x160, x161, x162, x163, x164, x165, x166, x167, x168, x169, x170, x171, x172, x173, x174, x175, x176, x177, x178, x179, x180, x181, x182], defers := ds } W0 := by
  obtain ⟨li0, hli0, hli1, hli2, hli3⟩ := info_parts linfo
  obtain ⟨fi0, hfi0, hfi1, hfi2, hfi3⟩ := info_parts finfo
  obtain ⟨wi0, hwi0, hwi1, hwi2, hwi3⟩ := info_parts winfo
  obtain ⟨la, lk, fa, fk, wa, wk, ls, fs, ws, hN, hR⟩ := HY.out
  have HN := Lib.hid hN
  have HR := Lib.hid hR
  clear hN hR HY
  refine region_L (fun V => V.rowIs R 27 4 (rowN (ndR nd (.slice la ln lk) (.slice fa fn fk) (.slice wa wn wk)))) 13 (by kernel_rfl) (HR.out.of_block rfl) (fun hHeld => ?_)
  obtain ⟨Z7, hZ7⟩ : ∃ Z, Z = W0.drew := ⟨_, rfl⟩
  replace HN := Lib.hid (HN.out.below (Below.refl _ _).drew)
  replace HR := Lib.hid (nrow_below HR.out (Below.refl _ _).drew)
  rw [← hZ7] at hHeld HN HR ⊢
  clear hZ7
  refine takeL_do (i := 0) (v := (.pointer (some ⟨R, 1, none⟩))) rfl (by kernel_rfl) (by kernel_rfl) (by kernel_rfl) (by kernel_rfl) (fun _ _ _ h => hP _ _ _ _ _ h) (by rfl) ?_ (by assumption) ?_
  · intro w hSw
    skip
    go_simp
  simp only [Act.put, List.setIfInBounds_toArray, List.set_cons_zero, List.set_cons_succ]
  refine takeL_do (i := 1) (v := (.slice la ln lk)) rfl (by kernel_rfl) (by kernel_rfl) (by kernel_rfl) (by kernel_rfl) (fun _ _ _ h => hP _ _ _ _ _ h) (by rfl) ?_ (by assumption) ?_
  · intro w hSw
    obtain ⟨⟨x0, x1, x2, x3⟩, _⟩ := rowN4 hSw
    go_simp
  simp only [Act.put, List.setIfInBounds_toArray, List.set_cons_zero, List.set_cons_succ]
  refine takeL_do (i := 2) (v := (.pointer (some ⟨sb, 0, none⟩))) rfl (by kernel_rfl) (by kernel_rfl) (by kernel_rfl) (by kernel_rfl) (fun _ _ _ h => hP _ _ _ _ _ h) (by rfl) ?_ (by assumption) ?_
  · intro w hSw
    skip
    go_simp
  simp only [Act.put, List.setIfInBounds_toArray, List.set_cons_zero, List.set_cons_succ]
  refine takeL_do (i := 3) (v := (.int .i64 i)) rfl (by kernel_rfl) (by kernel_rfl) (by kernel_rfl) (by kernel_rfl) (fun _ _ _ h => hP _ _ _ _ _ h) (by rfl) ?_ (by assumption) ?_
  · intro w hSw
    skip
    go_simp
  simp only [Act.put, List.setIfInBounds_toArray, List.set_cons_zero, List.set_cons_succ]
  refine takeL_do (i := 5) (v := (.int .i64 i)) rfl (by kernel_rfl) (by kernel_rfl) (by kernel_rfl) (by kernel_rfl) (fun _ _ _ h => hP _ _ _ _ _ h) (by rfl) ?_ (by assumption) ?_
  · intro w hSw
    skip
    go_simp
  simp only [Act.put, List.setIfInBounds_toArray, List.set_cons_zero, List.set_cons_succ]
  refine takeL_do (i := 6) (v := (.pointer (some ⟨sb, 0, none⟩))) rfl (by kernel_rfl) (by kernel_rfl) (by kernel_rfl) (by kernel_rfl) (fun _ _ _ h => hP _ _ _ _ _ h) (by rfl) ?_ (by assumption) ?_
  · intro w hSw
    skip
    go_simp
  simp only [Act.put, List.setIfInBounds_toArray, List.set_cons_zero, List.set_cons_succ]
  refine takeL_call (i := 4) rfl (by kernel_rfl) (fun K2 hK => ?_)
  go_simp
  refine (n_any sb (i : Int) _ HN.out.src.1 (by omega)).mono ?_
  rintro e Z8 ⟨⟨f, rfl, f0, f1, f2⟩, hD⟩
  replace HR := Lib.hid (md_chg HR.out (by have := HN.out.rl; have := HN.out.sbl; omega) hD.2)
  replace HN := Lib.hid (HN.out.draw hD)
  clear hD f1 f2
  go_wp2_with fail
  refine hK.out _ _ HR.out (fun hHeld2 => ?_)
  clear hK hHeld
  have hHeld := hHeld2
  clear hHeld2
  refine takeL_call (i := 7) rfl (by kernel_rfl) (fun K2 hK => ?_)
  go_simp
  refine (n_any sb 4 _ HN.out.src.1 (by omega)).mono ?_
  rintro e Z9 ⟨⟨g, rfl, g0, g1, g2⟩, hD⟩
  replace HR := Lib.hid (md_chg HR.out (by have := HN.out.rl; have := HN.out.sbl; omega) hD.2)
  replace HN := Lib.hid (HN.out.draw hD)
  have hg4 : g < 4 := g1 (by omega)
  clear hD g1 g2
  go_wp2_with fail
  refine hK.out _ _ HR.out (fun hHeld2 => ?_)
  clear hK hHeld
  have hHeld := hHeld2
  clear hHeld2
  refine takeL_do (i := 8) (v := (.int .i64 (1 + g))) rfl (by kernel_rfl) (by kernel_rfl) (by kernel_rfl) (by kernel_rfl) (fun _ _ _ h => hP _ _ _ _ _ h) (by rfl) ?_ (by assumption) ?_
  · intro w hSw
    have hwr : IntKind.i64.wrap (1 + g) = 1 + g := md_wrap (by omega) (by omega)
    go_simp
  simp only [Act.put, List.setIfInBounds_toArray, List.set_cons_zero, List.set_cons_succ]
  refine takeL_do (i := 9) (v := (.agg #[.int .i64 f, .int .i64 i, .int .i64 (1 + g)])) rfl (by kernel_rfl) (by kernel_rfl) (by kernel_rfl) (by kernel_rfl) (fun _ _ _ h => hP _ _ _ _ _ h) (by rfl) ?_ (by assumption) ?_
  · intro w hSw
    skip
    go_simp
  simp only [Act.put, List.setIfInBounds_toArray, List.set_cons_zero, List.set_cons_succ]
  refine takeL_call (i := 10) rfl (by kernel_rfl) (fun K2 hK => ?_)
  obtain ⟨Z10, hZ10⟩ : ∃ Z, Z = Z9.alloc (.cells #[.int .i64 f, .int .i64 i, .int .i64 (1 + g)] 68) := ⟨_, rfl⟩
  have hb : Below Z9.heap.size Z9 Z10 := by rw [hZ10]; exact nbel_alloc _ _
  obtain ⟨gs, hgs⟩ : ∃ gs, gs = Z9.heap.size := ⟨_, rfl⟩
  have HL : Hid (∀ j u, [Value.int .i64 f, .int .i64 i, .int .i64 (1 + g)][j]? = some u → Z10.cell? ((⟨gs, 0, none⟩ : Addr).add j) = some u) := by
    rw [hZ10, hgs]; exact ncells3 _ _ _ _ _
  replace HN := Lib.hid (HN.out.below hb)
  replace HR := Lib.hid (nrow_below HR.out hb)
  go_simp
  rw [← hZ10, ← hgs]
  refine hK.out _ _ HR.out (fun hHeld2 => ?_)
  clear hK hHeld
  have hHeld := hHeld2
  clear hHeld2
  clear hb hZ10 hgs
  refine takeL_call (i := 11) rfl (by kernel_rfl) (fun K2 hK => ?_)
  refine mdap rfl (.tmp 49) (.tmp 58) 23 rfl w.heap.size 68 li0 (.agg #[.int .i64 0, .int .i64 0, .int .i64 0]) 3 24 Tryz.underlying23 hli0 hli1 hli2 hli3 rfl (by decide) _ ln _ rfl HN.out.lo ⟨gs, 0, none⟩ 1 1 [.int .i64 f, .int .i64 i, .int .i64 (1 + g)] rfl rfl HL.out ?_ (by unfold maxLen; omega) (by omega) HN.out.src.2.size ?_
  · intro u hu; simp at hu; rcases hu with rfl | rfl | rfl <;> rfl
  intro v' Z11 hown hgrow
  obtain ⟨a8, c8, rfl⟩ := lpown_shape hown
  replace HR := Lib.hid (md_row HR.out HN.out.lo (by decide) hgrow)
  replace HN := Lib.hid (HN.out.app_l (zs := [(f : Int), (i : Int), (1 + g : Int)]) hgrow hown)
  refine hK.out _ _ HR.out (fun hHeld2 => ?_)
  clear hK hHeld hown hgrow HL
  have hHeld := hHeld2
  clear hHeld2
  simp only [Act.put, List.setIfInBounds_toArray, List.set_cons_zero, List.set_cons_succ]
  refine takeL_do (i := 12) (v := (.pointer (some ⟨R, 1, none⟩))) rfl (by kernel_rfl) (by kernel_rfl) (by kernel_rfl) (by kernel_rfl) (fun _ _ _ h => hP _ _ _ _ _ h) (by rfl) ?_ (by assumption) ?_
  · intro w hSw
    skip
    go_simp
  simp only [Act.put, List.setIfInBounds_toArray, List.set_cons_zero, List.set_cons_succ]
  obtain ⟨⟨o0, o1, o2, o3⟩, z0, z1, z2, z3⟩ := rowN4 HR.out
  have l0 := HR.out.lt
  obtain ⟨Z12, hZ12⟩ : ∃ WZ, WZ = Z11.setCell ⟨R, 1, none⟩ (.slice a8 (ln + 1) c8) := ⟨_, rfl⟩
  have HN2 := Lib.hid (HN.out.set HR.out (i := 1) (.slice a8 (ln + 1) c8))
  have HR2 := Lib.hid (rowN_put HR.out 1 (.slice a8 (ln + 1) c8) (by simp))
  rw [← hZ12] at HN2 HR2
  have HWZ := Lib.hid hZ12
  clear hZ12
  refine takeL_last rfl (by kernel_rfl) (by kernel_rfl) (fun K2 hK => ?_)
  go_simp
  rw [← HWZ.out]
  refine hK.out _ _ ?_
  clear hK hHeld HWZ o0 o1 o2 o3 z0 z1 z2 z3 l0 HN HR
  have HN := HN2
  have HR : Hid (Z12.rowIs R 27 4 (rowN (ndR nd (.slice a8 (ln + 1) c8) (.slice fa fn fk) (.slice wa wn wk)))) := HR2
  clear HN2 HR2
  exact hQ _ _ _ _ _ _ _ _ _ _ _ _ _ _ (Lib.hid ⟨_, _, _, _, _, _, _, _, _, HN.out, HR.out⟩)
end Go.Proofs.YtkaokfmaecdkiaaGreatDoor
namespace Go.Proofs.YtkaokfmaecdkiaaGreatDoor
open Go Go.RowKit Go.Deep

set_option maxRecDepth 100000 in
set_option maxHeartbeats 32000000 in
theorem nreg13 {w : World} (sb R : Nat) (nd : Int) (ln fn wn : Nat) (x1 x2 x4 x5 x6 x7 x8 x9 x10 x11 x12 x13 x14 x15 x16 x17 x18 x19 x20 x21 x22 x23 x24 x25 x26 x27 x28 x29 x30 x31 x32 x33 x34 x35 x36 x37 x38 x39 x40 x41 x42 x43 x44 x45 x46 x47 x48 x49 x50 x51 x52 x53 x54 x55 x56 x57 x58 x59 x60 x61 x62 x63 x64 x65 x66 x67 x68 x69 x70 x71 x72 x73 x74 x75 x76 x77 x78 x79 x80 x81 x82 x83 x84 x85 x86 x87 x88 x89 x90 x91 x92 x93 x94 x95 x96 x97 x98 x99 x100 x101 x102 x103 x104 x105 x106 x107 x108 x109 x110 x111 x112 x113 x114 x115 x116 x117 x118 x119 x120 x121 x122 x123 x124 x125 x126 x127 x128 x129 x130 x131 x132 x133 x134 x135 x136 x137 x138 x139 x140 x141 x142 x143 x144 x145 x146 x147 x148 x149 x150 x151 x152 x153 x154 x155 x156 x157 x158 x159 x160 x161 x162 x163 x164 x165 x166 x167 x168 x169 x170 x171 x172 x173 x174 x175 x176 x177 x178 x179 x180 x181 x182 : Value) (ds : _) (Q : Exit → Act → World → Prop) (W0 : World)
    (HY : Hid (NY w sb R nd ln fn wn W0)) (hln : ln ≤ 200) (hP : ∀ c (a : Act) o v w, Q (.panic c) (a.put o v) w → Q (.panic c) a w)
    (hQ : ∀ (b : Bool) (y63 y64 y65 y66 y67 y68 : Value) (WZ : World), (b = true → ln < 42) ∧ (b = false → 39 ≤ ln) ∧ Hid (NY w sb R nd ln fn wn WZ) → Q .normal { tmps := #[(.pointer (some ⟨sb, 0, none⟩)), x1, x2, (.pointer (some ⟨R, 0, none⟩)), x4, x5, x6, x7, x8, x9, x10, x11, x12, x13, x14, x15, x16, x17, x18, x19, x20, x21, x22, x23, x24, x25, x26, x27, x28, x29, x30, x31, x32, x33, x34, x35, x36, x37, x38, x39, x40, x41, x42, x43, x44, x45, x46, x47, x48, x49, x50, x51, x52, x53, x54, x55, x56, x57, x58, x59, x60, x61, x62, y63, y64, y65, y66, y67, y68, (.bool b), x70, x71, x72, x73, x74, x75, x76, x77, x78, x79, x80, x81, x82, x83, x84, x85, x86, x87, x88, x89, x90, x91, x92, x93, x94, x95, x96, x97, x98, x99, x100, x101, x102, x103, x104, x105, x106, x107, x108, x109, x110, x111, x112, x113, x114, x115, x116, x117, x118, x119, x120, x121, x122, x123, x124, x125, x126, x127, x128, x129, x130, x131, x132, x133, x134, x135, x136, x137, x138, x139, x140, x141, x142, x143, x144, x145, x146, x147, x148, x149, x150, x151, x152, x153, x154, x155, x156, x157, x158, x159, x160, x161, x162, x163, x164, x165, x166, x167, x168, x169, x170, x171, x172, x173, x174, x175, x176, x177, x178, x179, x180, x181, x182], defers := ds } WZ) :
    (Code.region 13 #[{ dst := some 63, op := Op.fieldAddr 27 (Operand.tmp 3) 1, type := 0, pos := "l07_linear.go:215", after := #[], guard := none }, { dst := some 64, op := Op.load 23 (Operand.tmp 63), type := 23, pos := "l07_linear.go:215", after := #[{ on := 0, ground := Ground.data }], guard := none }, { dst := some 65, op := Op.call { callee := Callee.builtin Builtin.len, args := #[Operand.tmp 64], argTypes := #[23] }, type := 3, pos := "l07_linear.go:215", after := #[{ on := 1, ground := Ground.data }], guard := none }, { dst := some 66, op := Op.move (Operand.tmp 0), type := 52, pos := "l07_linear.go:215", after := #[], guard := none }, { dst := some 67, op := Op.call { callee := Callee.value (Operand.func 52), args := #[Operand.tmp 66, Operand.const (Value.int IntKind.i64 3)], argTypes := #[52, 2] }, type := 2, pos := "l07_linear.go:215", after := #[{ on := 3, ground := Ground.data }], guard := none }, { dst := some 68, op := Op.binOp BinOp.add 3 (Operand.const (Value.int IntKind.i64 39)) (Operand.tmp 67) 3, type := 3, pos := "l07_linear.go:215", after := #[{ on := 4, ground := Ground.data }], guard := none }, { dst := some 69, op := Op.binOp BinOp.lss 3 (Operand.tmp 65) (Operand.tmp 68) 3, type := 4, pos := "l07_linear.go:215", after := #[{ on := 2, ground := Ground.data }, { on := 5, ground := Ground.data }], guard := none }] true).wp Tryz.prog Q { tmps := #[(.pointer (some ⟨sb, 0, none⟩)), x1, x2, (.pointer (some ⟨R, 0, none⟩)), x4, x5, x6, x7, x8, x9, x10, x11, x12, x13, x14, x15, x16, x17, x18, x19, x20, x21, x22, x23, x24, x25, x26, x27, x28, x29, x30, x31, x32, x33, x34, x35, x36, x37, x38, x39, x40, x41, x42, x43, x44, x45, x46, x47, x48, x49, x50, x51, x52, x53, x54, x55, x56, x57, x58, x59, x60, x61, x62, x63, x64, x65, x66, x67, x68, x69, x70, x71, x72, x73, x74, x75, x76, x77, x78, x79, x80, x81, x82, x83, x84, x85, x86, x87, x88, x89, x90, x91, x92, x93, x94, x95, x96, x97, x98, x99, x100, x101, x102, x103, x104, x105, x106, x107, x108, x109, x110, x111, x112, x113, x114, x115, x116, x117, x118, x119, x120, x121, x122, x123, x124, x125, x126, x127, x128, x129, x130, x131, x132, x133, x134, x135, x136, x137, x138, x139, x140, x141, x142, x143, x144, x145, x146, x147, x148, x149, x150, x151, x152, x153, x154, x155, x156, x157, x158, x159, x160, x161, x162, x163, x164, x165, x166, x167, x168, x169, x170, x171, x172, x173, x174, x175, x176, x177, x178, x179, x180, x181, x182], defers := ds } W0 := by
  obtain ⟨li0, hli0, hli1, hli2, hli3⟩ := info_parts linfo
  obtain ⟨fi0, hfi0, hfi1, hfi2, hfi3⟩ := info_parts finfo
  obtain ⟨wi0, hwi0, hwi1, hwi2, hwi3⟩ := info_parts winfo
  obtain ⟨la, lk, fa, fk, wa, wk, ls, fs, ws, hN, hR⟩ := HY.out
  have HN := Lib.hid hN
  have HR := Lib.hid hR
  clear hN hR HY
  refine wp_region_held_drew (S := fun V => V.rowIs R 27 4 (rowN (ndR nd (.slice la ln lk) (.slice fa fn fk) (.slice wa wn wk)))) (by kernel_rfl) (nrow_below HR.out (Below.refl _ _).drew) (fun hHeld => ?_)
  obtain ⟨Z, hZ⟩ : ∃ Z, Z = W0.drew := ⟨_, rfl⟩
  replace HN := Lib.hid (HN.out.below (Below.refl _ _).drew)
  replace HR := Lib.hid (nrow_below HR.out (Below.refl _ _).drew)
  rw [← hZ] at hHeld HN HR ⊢
  clear hZ
  refine take_do (i := 0) (v := (.pointer (some ⟨R, 1, none⟩))) rfl (by kernel_rfl) (by kernel_rfl) (by kernel_rfl) (fun _ _ _ h => hP _ _ _ _ _ h) (by rfl) ?_ (by assumption) ?_
  · intro w hSw
    skip
    go_simp
  simp only [Act.put, List.setIfInBounds_toArray, List.set_cons_zero, List.set_cons_succ]
  refine take_do (i := 1) (v := (.slice la ln lk)) rfl (by kernel_rfl) (by kernel_rfl) (by kernel_rfl) (fun _ _ _ h => hP _ _ _ _ _ h) (by rfl) ?_ (by assumption) ?_
  · intro w hSw
    obtain ⟨⟨x0, x1, x2, x3⟩, _⟩ := rowN4 hSw
    go_simp
  simp only [Act.put, List.setIfInBounds_toArray, List.set_cons_zero, List.set_cons_succ]
  refine take_do (i := 2) (v := (.int .i64 ln)) rfl (by kernel_rfl) (by kernel_rfl) (by kernel_rfl) (fun _ _ _ h => hP _ _ _ _ _ h) (by rfl) ?_ (by assumption) ?_
  · intro w hSw
    skip
    go_simp
  simp only [Act.put, List.setIfInBounds_toArray, List.set_cons_zero, List.set_cons_succ]
  refine take_do (i := 3) (v := (.pointer (some ⟨sb, 0, none⟩))) rfl (by kernel_rfl) (by kernel_rfl) (by kernel_rfl) (fun _ _ _ h => hP _ _ _ _ _ h) (by rfl) ?_ (by assumption) ?_
  · intro w hSw
    skip
    go_simp
  simp only [Act.put, List.setIfInBounds_toArray, List.set_cons_zero, List.set_cons_succ]
  refine wpAnyH_ready (rs := [4]) (by kernel_rfl) (by simp) (AllReadyH.cons (at_drop (i := 4) rfl) (fun K2 hK => ?_) (AllReadyH.nil))
  go_simp
  refine (n_any sb 3 _ HN.out.src.1 (by omega)).mono ?_
  rintro e Z1 ⟨⟨g, rfl, g0, g1, g2⟩, hD⟩
  have hg3 : g < 3 := g1 (by omega)
  replace HR := Lib.hid (md_chg HR.out (by have := HN.out.rl; have := HN.out.sbl; omega) hD.2)
  replace HN := Lib.hid (HN.out.draw hD)
  clear hD g1 g2
  go_wp2_with fail
  refine hK.out _ _ HR.out (fun hHeld2 => ?_)
  clear hK hHeld
  have hHeld := hHeld2
  clear hHeld2
  refine take_do (i := 5) (v := (.int .i64 (39 + g))) rfl (by kernel_rfl) (by kernel_rfl) (by kernel_rfl) (fun _ _ _ h => hP _ _ _ _ _ h) (by rfl) ?_ (by assumption) ?_
  · intro w hSw
    have hwr : IntKind.i64.wrap (39 + g) = 39 + g := md_wrap (by omega) (by omega)
    go_simp
  simp only [Act.put, List.setIfInBounds_toArray, List.set_cons_zero, List.set_cons_succ]
  refine take_do (i := 6) (v := (.bool (decide ((ln : Int) < 39 + g)))) rfl (by kernel_rfl) (by kernel_rfl) (by kernel_rfl) (fun _ _ _ h => hP _ _ _ _ _ h) (by rfl) ?_ (by assumption) ?_
  · intro w hSw
    skip
    go_simp
  simp only [Act.put, List.setIfInBounds_toArray, List.set_cons_zero, List.set_cons_succ]
  refine wpAnyH_done (by kernel_rfl) ?_ _
  exact hQ _ _ _ _ _ _ _ _ ⟨fun e => (by have := of_decide_eq_true e; omega), fun e => (by have := of_decide_eq_false e; omega), Lib.hid ⟨_, _, _, _, _, _, _, _, _, HN.out, HR.out⟩⟩
end Go.Proofs.YtkaokfmaecdkiaaGreatDoor
namespace Go.Proofs.YtkaokfmaecdkiaaGreatDoor
open Go Go.RowKit Go.Deep

set_option maxRecDepth 100000 in
set_option maxHeartbeats 32000000 in
theorem nreg14 {w : World} (sb R : Nat) (nd : Int) (ln fn wn : Nat) (x1 x2 x4 x5 x6 x7 x8 x9 x10 x11 x12 x13 x14 x15 x16 x17 x18 x19 x20 x21 x22 x23 x24 x25 x26 x27 x28 x29 x30 x31 x32 x33 x34 x35 x36 x37 x38 x39 x40 x41 x42 x43 x44 x45 x46 x47 x48 x49 x50 x51 x52 x53 x54 x55 x56 x57 x58 x59 x60 x61 x62 x63 x64 x65 x66 x67 x68 x69 x70 x71 x72 x73 x74 x75 x76 x77 x78 x79 x80 x81 x82 x83 x84 x85 x86 x87 x88 x89 x90 x91 x92 x93 x94 x95 x96 x97 x98 x99 x100 x101 x102 x103 x104 x105 x106 x107 x108 x109 x110 x111 x112 x113 x114 x115 x116 x117 x118 x119 x120 x121 x122 x123 x124 x125 x126 x127 x128 x129 x130 x131 x132 x133 x134 x135 x136 x137 x138 x139 x140 x141 x142 x143 x144 x145 x146 x147 x148 x149 x150 x151 x152 x153 x154 x155 x156 x157 x158 x159 x160 x161 x162 x163 x164 x165 x166 x167 x168 x169 x170 x171 x172 x173 x174 x175 x176 x177 x178 x179 x180 x181 x182 : Value) (ds : _) (Q : Exit → Act → World → Prop) (W0 : World)
    (HY : Hid (NY w sb R nd ln fn wn W0)) (hln : ln ≤ 200) (hP : ∀ c (a : Act) o v w, Q (.panic c) (a.put o v) w → Q (.panic c) a w)
    (hQ : ∀ (y70 y71 y72 y73 y74 y75 y76 y77 y78 : Value) (WZ : World), Hid (NY w sb R nd (ln + 1) fn wn WZ) → Q .normal { tmps := #[(.pointer (some ⟨sb, 0, none⟩)), x1, x2, (.pointer (some ⟨R, 0, none⟩)), x4, x5, x6, x7, x8, x9, x10, x11, x12, x13, x14, x15, x16, x17, x18, x19, x20, x21, x22, x23, x24, x25, x26, x27, x28, x29, x30, x31, x32, x33, x34, x35, x36, x37, x38, x39, x40, x41, x42, x43, x44, x45, x46, x47, x48, x49, x50, x51, x52, x53, x54, x55, x56, x57, x58, x59, x60, x61, x62, x63, x64, x65, x66, x67, x68, x69, y70, y71, y72, y73, y74, y75, y76, y77, y78, x79, x80, x81, x82, x83, x84, x85, x86, x87, x88, x89, x90, x91, x92, x93, x94, x95, x96, x97, x98, x99, x100, x101, x102, x103, x104, x105, x106, x107, x108, x109, x110, x111, x112, x113, x114, x115, x116, x117, x118, x119, x120, x121, x122, x123, x124, x125, x126, x127, x128, x129, x130, x131, x132, x133, x134, x135, x136, x137, x138, x139, x140, x141, x142, x143, x144, x145, x146, x147, x148, x149, x150, x151, x152, x153, x154, x155, x156, x157, x158, x159, x160, x161, x162, x163, x164, x165, x166, x167, x168, x169, x170, x171, x172, x173, x174, x175, x176, x177, x178, x179, x180, x181, x182], defers := ds } WZ) :
    (Code.region 14 #[{ dst := some 70, op := Op.fieldAddr 27 (Operand.tmp 3) 1, type := 0, pos := "l07_linear.go:216", after := #[], guard := none }, { dst := some 71, op := Op.load 23 (Operand.tmp 70), type := 23, pos := "l07_linear.go:216", after := #[{ on := 0, ground := Ground.data }], guard := none }, { dst := some 72, op := Op.move (Operand.tmp 0), type := 52, pos := "l07_linear.go:216", after := #[], guard := none }, { dst := some 73, op := Op.call { callee := Callee.value (Operand.func 52), args := #[Operand.tmp 72, Operand.const (Value.int IntKind.i64 2)], argTypes := #[52, 2] }, type := 2, pos := "l07_linear.go:216", after := #[{ on := 2, ground := Ground.data }], guard := none }, { dst := some 74, op := Op.binOp BinOp.add 2 (Operand.const (Value.int IntKind.i64 1)) (Operand.tmp 73) 2, type := 2, pos := "l07_linear.go:216", after := #[{ on := 3, ground := Ground.data }], guard := none }, { dst := some 75, op := Op.build 68 #[(0, Operand.const (Value.int IntKind.i64 0)), (1, Operand.tmp 74), (2, Operand.const (Value.int IntKind.i64 1))], type := 68, pos := "l07_linear.go:216", after := #[{ on := 4, ground := Ground.data }], guard := none }, { dst := some 76, op := Op.buildSlice 23 1 #[(0, Operand.tmp 75)], type := 23, pos := "l07_linear.go:216", after := #[{ on := 5, ground := Ground.data }], guard := none }, { dst := some 77, op := Op.call { callee := Callee.builtin Builtin.append, args := #[Operand.tmp 71, Operand.tmp 76], argTypes := #[23, 23] }, type := 23, pos := "l07_linear.go:216", after := #[{ on := 1, ground := Ground.data }, { on := 6, ground := Ground.data }, { on := 3, ground := Ground.chain }], guard := none }, { dst := some 78, op := Op.fieldAddr 27 (Operand.tmp 3) 1, type := 0, pos := "l07_linear.go:216", after := #[{ on := 0, ground := Ground.phase }, { on := 1, ground := Ground.phase }, { on := 2, ground := Ground.phase }, { on := 3, ground := Ground.phase }, { on := 4, ground := Ground.phase }, { on := 5, ground := Ground.phase }, { on := 6, ground := Ground.phase }, { on := 7, ground := Ground.phase }], guard := none }, { dst := none, op := Op.store 23 (Operand.tmp 78) (Operand.tmp 77), type := 0, pos := "l07_linear.go:216", after := #[{ on := 8, ground := Ground.data }, { on := 7, ground := Ground.data }, { on := 7, ground := Ground.chain }, { on := 0, ground := Ground.phase }, { on := 1, ground := Ground.phase }, { on := 2, ground := Ground.phase }, { on := 3, ground := Ground.phase }, { on := 4, ground := Ground.phase }, { on := 5, ground := Ground.phase }, { on := 6, ground := Ground.phase }, { on := 7, ground := Ground.phase }], guard := none }] true).wp Tryz.prog Q { tmps := #[(.pointer (some ⟨sb, 0, none⟩)), x1, x2, (.pointer (some ⟨R, 0, none⟩)), x4, x5, x6, x7, x8, x9, x10, x11, x12, x13, x14, x15, x16, x17, x18, x19, x20, x21, x22, x23, x24, x25, x26, x27, x28, x29, x30, x31, x32, x33, x34, x35, x36, x37, x38, x39, x40, x41, x42, x43, x44, x45, x46, x47, x48, x49, x50, x51, x52, x53, x54, x55, x56, x57, x58, x59, x60, x61, x62, x63, x64, x65, x66, x67, x68, x69, x70, x71, x72, x73, x74, x75, x76, x77, x78, x79, x80, x81, x82, x83, x84, x85, x86, x87, x88, x89, x90, x91, x92, x93, x94, x95, x96, x97, x98, x99, x100, x101, x102, x103, x104, x105, x106, x107, x108, x109, x110, x111, x112, x113, x114, x115, x116, x117, x118, x119, x120, x121, x122, x123, x124, x125, x126, x127, x128, x129, x130, x131, x132, x133, x134, x135, x136, x137, x138, x139, x140, x141, x142, x143, x144, x145, x146, x147, x148, x149, x150, x151, x152, x153, x154, x155, x156, x157, x158, x159, x160, x161, x162, x163, x164, x165, x166, x167, x168, x169, x170, x171, x172, x173, x174, x175, x176, x177, x178, x179, x180, x181, x182], defers := ds } W0 := by
  obtain ⟨li0, hli0, hli1, hli2, hli3⟩ := info_parts linfo
  obtain ⟨fi0, hfi0, hfi1, hfi2, hfi3⟩ := info_parts finfo
  obtain ⟨wi0, hwi0, hwi1, hwi2, hwi3⟩ := info_parts winfo
  obtain ⟨la, lk, fa, fk, wa, wk, ls, fs, ws, hN, hR⟩ := HY.out
  have HN := Lib.hid hN
  have HR := Lib.hid hR
  clear hN hR HY
  refine region_L (fun V => V.rowIs R 27 4 (rowN (ndR nd (.slice la ln lk) (.slice fa fn fk) (.slice wa wn wk)))) 9 (by kernel_rfl) (HR.out.of_block rfl) (fun hHeld => ?_)
  obtain ⟨Z13, hZ13⟩ : ∃ Z, Z = W0.drew := ⟨_, rfl⟩
  replace HN := Lib.hid (HN.out.below (Below.refl _ _).drew)
  replace HR := Lib.hid (nrow_below HR.out (Below.refl _ _).drew)
  rw [← hZ13] at hHeld HN HR ⊢
  clear hZ13
  refine takeL_do (i := 0) (v := (.pointer (some ⟨R, 1, none⟩))) rfl (by kernel_rfl) (by kernel_rfl) (by kernel_rfl) (by kernel_rfl) (fun _ _ _ h => hP _ _ _ _ _ h) (by rfl) ?_ (by assumption) ?_
  · intro w hSw
    skip
    go_simp
  simp only [Act.put, List.setIfInBounds_toArray, List.set_cons_zero, List.set_cons_succ]
  refine takeL_do (i := 1) (v := (.slice la ln lk)) rfl (by kernel_rfl) (by kernel_rfl) (by kernel_rfl) (by kernel_rfl) (fun _ _ _ h => hP _ _ _ _ _ h) (by rfl) ?_ (by assumption) ?_
  · intro w hSw
    obtain ⟨⟨x0, x1, x2, x3⟩, _⟩ := rowN4 hSw
    go_simp
  simp only [Act.put, List.setIfInBounds_toArray, List.set_cons_zero, List.set_cons_succ]
  refine takeL_do (i := 2) (v := (.pointer (some ⟨sb, 0, none⟩))) rfl (by kernel_rfl) (by kernel_rfl) (by kernel_rfl) (by kernel_rfl) (fun _ _ _ h => hP _ _ _ _ _ h) (by rfl) ?_ (by assumption) ?_
  · intro w hSw
    skip
    go_simp
  simp only [Act.put, List.setIfInBounds_toArray, List.set_cons_zero, List.set_cons_succ]
  refine takeL_call (i := 3) rfl (by kernel_rfl) (fun K2 hK => ?_)
  go_simp
  refine (n_any sb 2 _ HN.out.src.1 (by omega)).mono ?_
  rintro e Z14 ⟨⟨g, rfl, g0, g1, g2⟩, hD⟩
  replace HR := Lib.hid (md_chg HR.out (by have := HN.out.rl; have := HN.out.sbl; omega) hD.2)
  replace HN := Lib.hid (HN.out.draw hD)
  have hg4 : g < 2 := g1 (by omega)
  clear hD g1 g2
  go_wp2_with fail
  refine hK.out _ _ HR.out (fun hHeld2 => ?_)
  clear hK hHeld
  have hHeld := hHeld2
  clear hHeld2
  refine takeL_do (i := 4) (v := (.int .i64 (1 + g))) rfl (by kernel_rfl) (by kernel_rfl) (by kernel_rfl) (by kernel_rfl) (fun _ _ _ h => hP _ _ _ _ _ h) (by rfl) ?_ (by assumption) ?_
  · intro w hSw
    have hwr : IntKind.i64.wrap (1 + g) = 1 + g := md_wrap (by omega) (by omega)
    go_simp
  simp only [Act.put, List.setIfInBounds_toArray, List.set_cons_zero, List.set_cons_succ]
  refine takeL_do (i := 5) (v := (.agg #[.int .i64 0, .int .i64 (1 + g), .int .i64 1])) rfl (by kernel_rfl) (by kernel_rfl) (by kernel_rfl) (by kernel_rfl) (fun _ _ _ h => hP _ _ _ _ _ h) (by rfl) ?_ (by assumption) ?_
  · intro w hSw
    skip
    go_simp
  simp only [Act.put, List.setIfInBounds_toArray, List.set_cons_zero, List.set_cons_succ]
  refine takeL_call (i := 6) rfl (by kernel_rfl) (fun K2 hK => ?_)
  obtain ⟨Z15, hZ15⟩ : ∃ Z, Z = Z14.alloc (.cells #[.int .i64 0, .int .i64 (1 + g), .int .i64 1] 68) := ⟨_, rfl⟩
  have hb : Below Z14.heap.size Z14 Z15 := by rw [hZ15]; exact nbel_alloc _ _
  obtain ⟨gs, hgs⟩ : ∃ gs, gs = Z14.heap.size := ⟨_, rfl⟩
  have HL : Hid (∀ j u, [Value.int .i64 0, .int .i64 (1 + g), .int .i64 1][j]? = some u → Z15.cell? ((⟨gs, 0, none⟩ : Addr).add j) = some u) := by
    rw [hZ15, hgs]; exact ncells3 _ _ _ _ _
  replace HN := Lib.hid (HN.out.below hb)
  replace HR := Lib.hid (nrow_below HR.out hb)
  go_simp
  rw [← hZ15, ← hgs]
  refine hK.out _ _ HR.out (fun hHeld2 => ?_)
  clear hK hHeld
  have hHeld := hHeld2
  clear hHeld2
  clear hb hZ15 hgs
  refine takeL_call (i := 7) rfl (by kernel_rfl) (fun K2 hK => ?_)
  refine mdap rfl (.tmp 71) (.tmp 76) 23 rfl w.heap.size 68 li0 (.agg #[.int .i64 0, .int .i64 0, .int .i64 0]) 3 24 Tryz.underlying23 hli0 hli1 hli2 hli3 rfl (by decide) _ ln _ rfl HN.out.lo ⟨gs, 0, none⟩ 1 1 [.int .i64 0, .int .i64 (1 + g), .int .i64 1] rfl rfl HL.out ?_ (by unfold maxLen; omega) (by omega) HN.out.src.2.size ?_
  · intro u hu; simp at hu; rcases hu with rfl | rfl | rfl <;> rfl
  intro v' Z16 hown hgrow
  obtain ⟨a8, c8, rfl⟩ := lpown_shape hown
  replace HR := Lib.hid (md_row HR.out HN.out.lo (by decide) hgrow)
  replace HN := Lib.hid (HN.out.app_l (zs := [(0 : Int), (1 + g : Int), (1 : Int)]) hgrow hown)
  refine hK.out _ _ HR.out (fun hHeld2 => ?_)
  clear hK hHeld hown hgrow HL
  have hHeld := hHeld2
  clear hHeld2
  simp only [Act.put, List.setIfInBounds_toArray, List.set_cons_zero, List.set_cons_succ]
  refine takeL_do (i := 8) (v := (.pointer (some ⟨R, 1, none⟩))) rfl (by kernel_rfl) (by kernel_rfl) (by kernel_rfl) (by kernel_rfl) (fun _ _ _ h => hP _ _ _ _ _ h) (by rfl) ?_ (by assumption) ?_
  · intro w hSw
    skip
    go_simp
  simp only [Act.put, List.setIfInBounds_toArray, List.set_cons_zero, List.set_cons_succ]
  obtain ⟨⟨o0, o1, o2, o3⟩, z0, z1, z2, z3⟩ := rowN4 HR.out
  have l0 := HR.out.lt
  obtain ⟨Z17, hZ17⟩ : ∃ WZ, WZ = Z16.setCell ⟨R, 1, none⟩ (.slice a8 (ln + 1) c8) := ⟨_, rfl⟩
  have HN2 := Lib.hid (HN.out.set HR.out (i := 1) (.slice a8 (ln + 1) c8))
  have HR2 := Lib.hid (rowN_put HR.out 1 (.slice a8 (ln + 1) c8) (by simp))
  rw [← hZ17] at HN2 HR2
  have HWZ := Lib.hid hZ17
  clear hZ17
  refine takeL_last rfl (by kernel_rfl) (by kernel_rfl) (fun K2 hK => ?_)
  go_simp
  rw [← HWZ.out]
  refine hK.out _ _ ?_
  clear hK hHeld HWZ o0 o1 o2 o3 z0 z1 z2 z3 l0 HN HR
  have HN := HN2
  have HR : Hid (Z17.rowIs R 27 4 (rowN (ndR nd (.slice a8 (ln + 1) c8) (.slice fa fn fk) (.slice wa wn wk)))) := HR2
  clear HN2 HR2
  exact hQ _ _ _ _ _ _ _ _ _ _ (Lib.hid ⟨_, _, _, _, _, _, _, _, _, HN.out, HR.out⟩)
end Go.Proofs.YtkaokfmaecdkiaaGreatDoor
namespace Go.Proofs.YtkaokfmaecdkiaaGreatDoor
open Go Go.RowKit Go.Deep

set_option maxRecDepth 100000 in
set_option maxHeartbeats 32000000 in
theorem nreg19 {w : World} (sb R : Nat) (nd : Int) (ln fn wn : Nat) (i : Nat) (x1 x2 x4 x5 x7 x8 x9 x10 x11 x12 x13 x14 x15 x16 x17 x18 x19 x20 x21 x22 x23 x24 x25 x26 x27 x28 x29 x30 x31 x32 x33 x34 x35 x36 x37 x38 x39 x40 x41 x42 x43 x44 x45 x46 x47 x48 x49 x50 x51 x52 x53 x54 x55 x56 x57 x58 x59 x60 x61 x62 x63 x64 x65 x66 x67 x68 x69 x70 x71 x72 x73 x74 x75 x76 x77 x78 x79 x80 x81 x82 x83 x84 x85 x86 x87 x88 x89 x90 x91 x92 x93 x94 x95 x96 x97 x98 x99 x100 x101 x102 x103 x104 x105 x106 x107 x108 x109 x110 x111 x112 x113 x114 x115 x116 x117 x118 x119 x120 x121 x122 x123 x124 x125 x126 x127 x128 x129 x130 x131 x132 x133 x134 x135 x136 x137 x138 x139 x140 x141 x142 x143 x144 x145 x146 x147 x148 x149 x150 x151 x152 x153 x154 x155 x156 x157 x158 x159 x160 x161 x162 x163 x164 x165 x166 x167 x168 x169 x170 x171 x172 x173 x174 x175 x176 x177 x178 x179 x180 x181 x182 : Value) (ds : _) (Q : Exit → Act → World → Prop) (W0 : World)
    (HY : Hid (NY w sb R nd ln fn wn W0)) (hfn : fn ≤ 200) (hP : ∀ c (a : Act) o v w, Q (.panic c) (a.put o v) w → Q (.panic c) a w)
    (hQ : ∀ (y95 y96 y97 y98 y99 y100 y101 y102 y103 y104 : Value) (WZ : World), Hid (NY w sb R nd ln (fn + 1) wn WZ) → Q .normal { tmps := #[(.pointer (some ⟨sb, 0, none⟩)), x1, x2, (.pointer (some ⟨R, 0, none⟩)), x4, x5, (.int .i64 i), x7, x8, x9, x10, x11, x12, x13, x14, x15, x16, x17, x18, x19, x20, x21, x22, x23, x24, x25, x26, x27, x28, x29, x30, x31, x32, x33, x34, x35, x36, x37, x38, x39, x40, x41, x42, x43, x44, x45, x46, x47, x48, x49, x50, x51, x52, x53, x54, x55, x56, x57, x58, x59, x60, x61, x62, x63, x64, x65, x66, x67, x68, x69, x70, x71, x72, x73, x74, x75, x76, x77, x78, x79, x80, x81, x82, x83, x84, x85, x86, x87, x88, x89, x90, x91, x92, x93, x94, y95, y96, y97, y98, y99, y100, y101, y102, y103, y104, x105, x106, x107, x108, x109, x110, x111, x112, x113, x114, x115, x116, x117, x118, x119, x120, x121, x122, x123, x124, x125, x126, x127, x128, x129, x130, x131, x132, x133, x134, x135, x136, x137, x138, x139, x140, x141, x142, x143, x144, x145, x146, x147, x148, x149, x150, x151, x152, x153, x154, x155, x156, x157, x158, x159, x160, x161, x162, x163, x164, x165, x166, x167, x168, x169, x170, x171, x172, x173, x174, x175, x176, x177, x178, x179, x180, x181, x182], defers := ds } WZ) :
    (Code.region 19 #[{ dst := some 95, op := Op.fieldAddr 27 (Operand.tmp 3) 2, type := 0, pos := "l07_linear.go:221", after := #[], guard := none }, { dst := some 96, op := Op.load 24 (Operand.tmp 95), type := 24, pos := "l07_linear.go:221", after := #[{ on := 0, ground := Ground.data }], guard := none }, { dst := some 97, op := Op.move (Operand.tmp 6), type := 2, pos := "l07_linear.go:221", after := #[], guard := none }, { dst := some 98, op := Op.move (Operand.tmp 0), type := 52, pos := "l07_linear.go:221", after := #[], guard := none }, { dst := some 99, op := Op.call { callee := Callee.value (Operand.func 52), args := #[Operand.tmp 98, Operand.const (Value.int IntKind.i64 100)], argTypes := #[52, 2] }, type := 2, pos := "l07_linear.go:221", after := #[{ on := 3, ground := Ground.data }], guard := none }, { dst := some 100, op := Op.binOp BinOp.sub 2 (Operand.tmp 99) (Operand.const (Value.int IntKind.i64 10)) 2, type := 2, pos := "l07_linear.go:221", after := #[{ on := 4, ground := Ground.data }], guard := none }, { dst := some 101, op := Op.build 39 #[(0, Operand.tmp 97), (1, Operand.tmp 100)], type := 39, pos := "l07_linear.go:221", after := #[{ on := 2, ground := Ground.data }, { on := 5, ground := Ground.data }], guard := none }, { dst := some 102, op := Op.buildSlice 24 1 #[(0, Operand.tmp 101)], type := 24, pos := "l07_linear.go:221", after := #[{ on := 6, ground := Ground.data }], guard := none }, { dst := some 103, op := Op.call { callee := Callee.builtin Builtin.append, args := #[Operand.tmp 96, Operand.tmp 102], argTypes := #[24, 24] }, type := 24, pos := "l07_linear.go:221", after := #[{ on := 1, ground := Ground.data }, { on := 7, ground := Ground.data }, { on := 4, ground := Ground.chain }], guard := none }, { dst := some 104, op := Op.fieldAddr 27 (Operand.tmp 3) 2, type := 0, pos := "l07_linear.go:221", after := #[{ on := 0, ground := Ground.phase }, { on := 1, ground := Ground.phase }, { on := 2, ground := Ground.phase }, { on := 3, ground := Ground.phase }, { on := 4, ground := Ground.phase }, { on := 5, ground := Ground.phase }, { on := 6, ground := Ground.phase }, { on := 7, ground := Ground.phase }, { on := 8, ground := Ground.phase }], guard := none }, { dst := none, op := Op.store 24 (Operand.tmp 104) (Operand.tmp 103), type := 0, pos := "l07_linear.go:221", after := #[{ on := 9, ground := Ground.data }, { on := 8, ground := Ground.data }, { on := 8, ground := Ground.chain }, { on := 0, ground := Ground.phase }, { on := 1, ground := Ground.phase }, { on := 2, ground := Ground.phase }, { on := 3, ground := Ground.phase }, { on := 4, ground := Ground.phase }, { on := 5, ground := Ground.phase }, { on := 6, ground := Ground.phase }, { on := 7, ground := Ground.phase }, { on := 8, ground := Ground.phase }], guard := none }] true).wp Tryz.prog Q { tmps := #[(.pointer (some ⟨sb, 0, none⟩)), x1, x2, (.pointer (some ⟨R, 0, none⟩)), x4, x5, (.int .i64 i), x7, x8, x9, x10, x11, x12, x13, x14, x15, x16, x17, x18, x19, x20, x21, x22, x23, x24, x25, x26, x27, x28, x29, x30, x31, x32, x33, x34, x35, x36, x37, x38, x39, x40, x41, x42, x43, x44, x45, x46, x47, x48, x49, x50, x51, x52, x53, x54, x55, x56, x57, x58, x59, x60, x61, x62, x63, x64, x65, x66, x67, x68, x69, x70, x71, x72, x73, x74, x75, x76, x77, x78, x79, x80, x81, x82, x83, x84, x85, x86, x87, x88, x89, x90, x91, x92, x93, x94, x95, x96, x97, x98, x99, x100, x101, x102, x103, x104, x105, x106, x107, x108, x109, x110, x111, x112, x113, x114, x115, x116, x117, x118, x119, x120, x121, x122, x123, x124, x125, x126, x127, x128, x129, x130, x131, x132, x133, x134, x135, x136, x137, x138, x139, x140, x141, x142, x143, x144, x145, x146, x147, x148, x149, x150, x151, x152, x153, x154, x155, x156, x157, x158, x159, x160, x161, x162, x163, x164, x165, x166, x167, x168, x169, x170, x171, x172, x173, x174, x175, x176, x177, x178, x179, x180, x181, x182], defers := ds } W0 := by
  obtain ⟨li0, hli0, hli1, hli2, hli3⟩ := info_parts linfo
  obtain ⟨fi0, hfi0, hfi1, hfi2, hfi3⟩ := info_parts finfo
  obtain ⟨wi0, hwi0, hwi1, hwi2, hwi3⟩ := info_parts winfo
  obtain ⟨la, lk, fa, fk, wa, wk, ls, fs, ws, hN, hR⟩ := HY.out
  have HN := Lib.hid hN
  have HR := Lib.hid hR
  clear hN hR HY
  refine region_L (fun V => V.rowIs R 27 4 (rowN (ndR nd (.slice la ln lk) (.slice fa fn fk) (.slice wa wn wk)))) 10 (by kernel_rfl) (HR.out.of_block rfl) (fun hHeld => ?_)
  obtain ⟨Z18, hZ18⟩ : ∃ Z, Z = W0.drew := ⟨_, rfl⟩
  replace HN := Lib.hid (HN.out.below (Below.refl _ _).drew)
  replace HR := Lib.hid (nrow_below HR.out (Below.refl _ _).drew)
  rw [← hZ18] at hHeld HN HR ⊢
  clear hZ18
  refine takeL_do (i := 0) (v := (.pointer (some ⟨R, 2, none⟩))) rfl (by kernel_rfl) (by kernel_rfl) (by kernel_rfl) (by kernel_rfl) (fun _ _ _ h => hP _ _ _ _ _ h) (by rfl) ?_ (by assumption) ?_
  · intro w hSw
    skip
    go_simp
  simp only [Act.put, List.setIfInBounds_toArray, List.set_cons_zero, List.set_cons_succ]
  refine takeL_do (i := 1) (v := (.slice fa fn fk)) rfl (by kernel_rfl) (by kernel_rfl) (by kernel_rfl) (by kernel_rfl) (fun _ _ _ h => hP _ _ _ _ _ h) (by rfl) ?_ (by assumption) ?_
  · intro w hSw
    obtain ⟨⟨x0, x1, x2, x3⟩, _⟩ := rowN4 hSw
    go_simp
  simp only [Act.put, List.setIfInBounds_toArray, List.set_cons_zero, List.set_cons_succ]
  refine takeL_do (i := 2) (v := (.int .i64 i)) rfl (by kernel_rfl) (by kernel_rfl) (by kernel_rfl) (by kernel_rfl) (fun _ _ _ h => hP _ _ _ _ _ h) (by rfl) ?_ (by assumption) ?_
  · intro w hSw
    skip
    go_simp
  simp only [Act.put, List.setIfInBounds_toArray, List.set_cons_zero, List.set_cons_succ]
  refine takeL_do (i := 3) (v := (.pointer (some ⟨sb, 0, none⟩))) rfl (by kernel_rfl) (by kernel_rfl) (by kernel_rfl) (by kernel_rfl) (fun _ _ _ h => hP _ _ _ _ _ h) (by rfl) ?_ (by assumption) ?_
  · intro w hSw
    skip
    go_simp
  simp only [Act.put, List.setIfInBounds_toArray, List.set_cons_zero, List.set_cons_succ]
  refine takeL_call (i := 4) rfl (by kernel_rfl) (fun K2 hK => ?_)
  go_simp
  refine (n_any sb 100 _ HN.out.src.1 (by omega)).mono ?_
  rintro e Z19 ⟨⟨g, rfl, g0, g1, g2⟩, hD⟩
  replace HR := Lib.hid (md_chg HR.out (by have := HN.out.rl; have := HN.out.sbl; omega) hD.2)
  replace HN := Lib.hid (HN.out.draw hD)
  have hg4 : g < 100 := g1 (by omega)
  clear hD g1 g2
  go_wp2_with fail
  refine hK.out _ _ HR.out (fun hHeld2 => ?_)
  clear hK hHeld
  have hHeld := hHeld2
  clear hHeld2
  refine takeL_do (i := 5) (v := (.int .i64 (g - 10))) rfl (by kernel_rfl) (by kernel_rfl) (by kernel_rfl) (by kernel_rfl) (fun _ _ _ h => hP _ _ _ _ _ h) (by rfl) ?_ (by assumption) ?_
  · intro w hSw
    have hwr : IntKind.i64.wrap (g - 10) = g - 10 := md_wrap (by omega) (by omega)
    go_simp
  simp only [Act.put, List.setIfInBounds_toArray, List.set_cons_zero, List.set_cons_succ]
  refine takeL_do (i := 6) (v := (.agg #[.int .i64 i, .int .i64 (g - 10)])) rfl (by kernel_rfl) (by kernel_rfl) (by kernel_rfl) (by kernel_rfl) (fun _ _ _ h => hP _ _ _ _ _ h) (by rfl) ?_ (by assumption) ?_
  · intro w hSw
    skip
    go_simp
  simp only [Act.put, List.setIfInBounds_toArray, List.set_cons_zero, List.set_cons_succ]
  refine takeL_call (i := 7) rfl (by kernel_rfl) (fun K2 hK => ?_)
  obtain ⟨Z20, hZ20⟩ : ∃ Z, Z = Z19.alloc (.cells #[.int .i64 i, .int .i64 (g - 10)] 39) := ⟨_, rfl⟩
  have hb : Below Z19.heap.size Z19 Z20 := by rw [hZ20]; exact nbel_alloc _ _
  obtain ⟨gs, hgs⟩ : ∃ gs, gs = Z19.heap.size := ⟨_, rfl⟩
  have HL : Hid (∀ j u, [Value.int .i64 i, .int .i64 (g - 10)][j]? = some u → Z20.cell? ((⟨gs, 0, none⟩ : Addr).add j) = some u) := by
    rw [hZ20, hgs]; exact ncells2 _ _ _ _
  replace HN := Lib.hid (HN.out.below hb)
  replace HR := Lib.hid (nrow_below HR.out hb)
  go_simp
  rw [← hZ20, ← hgs]
  refine hK.out _ _ HR.out (fun hHeld2 => ?_)
  clear hK hHeld
  have hHeld := hHeld2
  clear hHeld2
  clear hb hZ20 hgs
  refine takeL_call (i := 8) rfl (by kernel_rfl) (fun K2 hK => ?_)
  refine mdap rfl (.tmp 96) (.tmp 102) 24 rfl w.heap.size 39 fi0 (.agg #[.int .i64 0, .int .i64 0]) 2 16 Tryz.underlying24 hfi0 hfi1 hfi2 hfi3 rfl (by decide) _ fn _ rfl HN.out.fo ⟨gs, 0, none⟩ 1 1 [.int .i64 i, .int .i64 (g - 10)] rfl rfl HL.out ?_ (by unfold maxLen; omega) (by omega) HN.out.src.2.size ?_
  · intro u hu; simp at hu; rcases hu with rfl | rfl <;> rfl
  intro v' Z21 hown hgrow
  obtain ⟨a8, c8, rfl⟩ := lpown_shape hown
  replace HR := Lib.hid (md_row HR.out HN.out.fo (by decide) hgrow)
  replace HN := Lib.hid (HN.out.app_f (zs := [(i : Int), (g - 10 : Int)]) hgrow hown)
  refine hK.out _ _ HR.out (fun hHeld2 => ?_)
  clear hK hHeld hown hgrow HL
  have hHeld := hHeld2
  clear hHeld2
  simp only [Act.put, List.setIfInBounds_toArray, List.set_cons_zero, List.set_cons_succ]
  refine takeL_do (i := 9) (v := (.pointer (some ⟨R, 2, none⟩))) rfl (by kernel_rfl) (by kernel_rfl) (by kernel_rfl) (by kernel_rfl) (fun _ _ _ h => hP _ _ _ _ _ h) (by rfl) ?_ (by assumption) ?_
  · intro w hSw
    skip
    go_simp
  simp only [Act.put, List.setIfInBounds_toArray, List.set_cons_zero, List.set_cons_succ]
  obtain ⟨⟨o0, o1, o2, o3⟩, z0, z1, z2, z3⟩ := rowN4 HR.out
  have l0 := HR.out.lt
  obtain ⟨Z22, hZ22⟩ : ∃ WZ, WZ = Z21.setCell ⟨R, 2, none⟩ (.slice a8 (fn + 1) c8) := ⟨_, rfl⟩
  have HN2 := Lib.hid (HN.out.set HR.out (i := 2) (.slice a8 (fn + 1) c8))
  have HR2 := Lib.hid (rowN_put HR.out 2 (.slice a8 (fn + 1) c8) (by simp))
  rw [← hZ22] at HN2 HR2
  have HWZ := Lib.hid hZ22
  clear hZ22
  refine takeL_last rfl (by kernel_rfl) (by kernel_rfl) (fun K2 hK => ?_)
  go_simp
  rw [← HWZ.out]
  refine hK.out _ _ ?_
  clear hK hHeld HWZ o0 o1 o2 o3 z0 z1 z2 z3 l0 HN HR
  have HN := HN2
  have HR : Hid (Z22.rowIs R 27 4 (rowN (ndR nd (.slice la ln lk) (.slice a8 (fn + 1) c8) (.slice wa wn wk)))) := HR2
  clear HN2 HR2
  exact hQ _ _ _ _ _ _ _ _ _ _ _ (Lib.hid ⟨_, _, _, _, _, _, _, _, _, HN.out, HR.out⟩)
end Go.Proofs.YtkaokfmaecdkiaaGreatDoor
namespace Go.Proofs.YtkaokfmaecdkiaaGreatDoor
open Go Go.RowKit Go.Deep

set_option maxRecDepth 100000 in
set_option maxHeartbeats 32000000 in
theorem nreg20 {w : World} (sb R : Nat) (nd : Int) (ln fn wn : Nat) (x1 x2 x4 x5 x6 x7 x8 x9 x10 x11 x12 x13 x14 x15 x16 x17 x18 x19 x20 x21 x22 x23 x24 x25 x26 x27 x28 x29 x30 x31 x32 x33 x34 x35 x36 x37 x38 x39 x40 x41 x42 x43 x44 x45 x46 x47 x48 x49 x50 x51 x52 x53 x54 x55 x56 x57 x58 x59 x60 x61 x62 x63 x64 x65 x66 x67 x68 x69 x70 x71 x72 x73 x74 x75 x76 x77 x78 x79 x80 x81 x82 x83 x84 x85 x86 x87 x88 x89 x90 x91 x92 x93 x94 x95 x96 x97 x98 x99 x100 x101 x102 x103 x104 x105 x106 x107 x108 x109 x110 x111 x112 x113 x114 x115 x116 x117 x118 x119 x120 x121 x122 x123 x124 x125 x126 x127 x128 x129 x130 x131 x132 x133 x134 x135 x136 x137 x138 x139 x140 x141 x142 x143 x144 x145 x146 x147 x148 x149 x150 x151 x152 x153 x154 x155 x156 x157 x158 x159 x160 x161 x162 x163 x164 x165 x166 x167 x168 x169 x170 x171 x172 x173 x174 x175 x176 x177 x178 x179 x180 x181 x182 : Value) (ds : _) (Q : Exit → Act → World → Prop) (W0 : World)
    (HY : Hid (NY w sb R nd ln fn wn W0)) (hwn : wn ≤ 200) (hP : ∀ c (a : Act) o v w, Q (.panic c) (a.put o v) w → Q (.panic c) a w)
    (hQ : ∀ (y105 y106 y107 y108 y109 y110 y111 y112 : Value) (WZ : World), Hid (NY w sb R nd ln fn (wn + 1) WZ) → Q .normal { tmps := #[(.pointer (some ⟨sb, 0, none⟩)), x1, x2, (.pointer (some ⟨R, 0, none⟩)), x4, x5, x6, x7, x8, x9, x10, x11, x12, x13, x14, x15, x16, x17, x18, x19, x20, x21, x22, x23, x24, x25, x26, x27, x28, x29, x30, x31, x32, x33, x34, x35, x36, x37, x38, x39, x40, x41, x42, x43, x44, x45, x46, x47, x48, x49, x50, x51, x52, x53, x54, x55, x56, x57, x58, x59, x60, x61, x62, x63, x64, x65, x66, x67, x68, x69, x70, x71, x72, x73, x74, x75, x76, x77, x78, x79, x80, x81, x82, x83, x84, x85, x86, x87, x88, x89, x90, x91, x92, x93, x94, x95, x96, x97, x98, x99, x100, x101, x102, x103, x104, y105, y106, y107, y108, y109, y110, y111, y112, x113, x114, x115, x116, x117, x118, x119, x120, x121, x122, x123, x124, x125, x126, x127, x128, x129, x130, x131, x132, x133, x134, x135, x136, x137, x138, x139, x140, x141, x142, x143, x144, x145, x146, x147, x148, x149, x150, x151, x152, x153, x154, x155, x156, x157, x158, x159, x160, x161, x162, x163, x164, x165, x166, x167, x168, x169, x170, x171, x172, x173, x174, x175, x176, x177, x178, x179, x180, x181, x182], defers := ds } WZ) :
    (Code.region 20 #[{ dst := some 105, op := Op.fieldAddr 27 (Operand.tmp 3) 3, type := 0, pos := "l07_linear.go:223", after := #[], guard := none }, { dst := some 106, op := Op.load 25 (Operand.tmp 105), type := 25, pos := "l07_linear.go:223", after := #[{ on := 0, ground := Ground.data }], guard := none }, { dst := some 107, op := Op.move (Operand.tmp 0), type := 52, pos := "l07_linear.go:223", after := #[], guard := none }, { dst := some 108, op := Op.call { callee := Callee.value (Operand.func 52), args := #[Operand.tmp 107, Operand.const (Value.int IntKind.i64 21)], argTypes := #[52, 2] }, type := 2, pos := "l07_linear.go:223", after := #[{ on := 2, ground := Ground.data }], guard := none }, { dst := some 109, op := Op.binOp BinOp.sub 2 (Operand.tmp 108) (Operand.const (Value.int IntKind.i64 6)) 2, type := 2, pos := "l07_linear.go:223", after := #[{ on := 3, ground := Ground.data }], guard := none }, { dst := some 110, op := Op.buildSlice 25 1 #[(0, Operand.tmp 109)], type := 25, pos := "l07_linear.go:223", after := #[{ on := 4, ground := Ground.data }], guard := none }, { dst := some 111, op := Op.call { callee := Callee.builtin Builtin.append, args := #[Operand.tmp 106, Operand.tmp 110], argTypes := #[25, 25] }, type := 25, pos := "l07_linear.go:223", after := #[{ on := 1, ground := Ground.data }, { on := 5, ground := Ground.data }, { on := 3, ground := Ground.chain }], guard := none }, { dst := some 112, op := Op.fieldAddr 27 (Operand.tmp 3) 3, type := 0, pos := "l07_linear.go:223", after := #[{ on := 0, ground := Ground.phase }, { on := 1, ground := Ground.phase }, { on := 2, ground := Ground.phase }, { on := 3, ground := Ground.phase }, { on := 4, ground := Ground.phase }, { on := 5, ground := Ground.phase }, { on := 6, ground := Ground.phase }], guard := none }, { dst := none, op := Op.store 25 (Operand.tmp 112) (Operand.tmp 111), type := 0, pos := "l07_linear.go:223", after := #[{ on := 7, ground := Ground.data }, { on := 6, ground := Ground.data }, { on := 6, ground := Ground.chain }, { on := 0, ground := Ground.phase }, { on := 1, ground := Ground.phase }, { on := 2, ground := Ground.phase }, { on := 3, ground := Ground.phase }, { on := 4, ground := Ground.phase }, { on := 5, ground := Ground.phase }, { on := 6, ground := Ground.phase }], guard := none }] true).wp Tryz.prog Q { tmps := #[(.pointer (some ⟨sb, 0, none⟩)), x1, x2, (.pointer (some ⟨R, 0, none⟩)), x4, x5, x6, x7, x8, x9, x10, x11, x12, x13, x14, x15, x16, x17, x18, x19, x20, x21, x22, x23, x24, x25, x26, x27, x28, x29, x30, x31, x32, x33, x34, x35, x36, x37, x38, x39, x40, x41, x42, x43, x44, x45, x46, x47, x48, x49, x50, x51, x52, x53, x54, x55, x56, x57, x58, x59, x60, x61, x62, x63, x64, x65, x66, x67, x68, x69, x70, x71, x72, x73, x74, x75, x76, x77, x78, x79, x80, x81, x82, x83, x84, x85, x86, x87, x88, x89, x90, x91, x92, x93, x94, x95, x96, x97, x98, x99, x100, x101, x102, x103, x104, x105, x106, x107, x108, x109, x110, x111, x112, x113, x114, x115, x116, x117, x118, x119, x120, x121, x122, x123, x124, x125, x126, x127, x128, x129, x130, x131, x132, x133, x134, x135, x136, x137, x138, x139, x140, x141, x142, x143, x144, x145, x146, x147, x148, x149, x150, x151, x152, x153, x154, x155, x156, x157, x158, x159, x160, x161, x162, x163, x164, x165, x166, x167, x168, x169, x170, x171, x172, x173, x174, x175, x176, x177, x178, x179, x180, x181, x182], defers := ds } W0 := by
  obtain ⟨li0, hli0, hli1, hli2, hli3⟩ := info_parts linfo
  obtain ⟨fi0, hfi0, hfi1, hfi2, hfi3⟩ := info_parts finfo
  obtain ⟨wi0, hwi0, hwi1, hwi2, hwi3⟩ := info_parts winfo
  obtain ⟨la, lk, fa, fk, wa, wk, ls, fs, ws, hN, hR⟩ := HY.out
  have HN := Lib.hid hN
  have HR := Lib.hid hR
  clear hN hR HY
  refine region_L (fun V => V.rowIs R 27 4 (rowN (ndR nd (.slice la ln lk) (.slice fa fn fk) (.slice wa wn wk)))) 8 (by kernel_rfl) (HR.out.of_block rfl) (fun hHeld => ?_)
  obtain ⟨Z23, hZ23⟩ : ∃ Z, Z = W0.drew := ⟨_, rfl⟩
  replace HN := Lib.hid (HN.out.below (Below.refl _ _).drew)
  replace HR := Lib.hid (nrow_below HR.out (Below.refl _ _).drew)
  rw [← hZ23] at hHeld HN HR ⊢
  clear hZ23
  refine takeL_do (i := 0) (v := (.pointer (some ⟨R, 3, none⟩))) rfl (by kernel_rfl) (by kernel_rfl) (by kernel_rfl) (by kernel_rfl) (fun _ _ _ h => hP _ _ _ _ _ h) (by rfl) ?_ (by assumption) ?_
  · intro w hSw
    skip
    go_simp
  simp only [Act.put, List.setIfInBounds_toArray, List.set_cons_zero, List.set_cons_succ]
  refine takeL_do (i := 1) (v := (.slice wa wn wk)) rfl (by kernel_rfl) (by kernel_rfl) (by kernel_rfl) (by kernel_rfl) (fun _ _ _ h => hP _ _ _ _ _ h) (by rfl) ?_ (by assumption) ?_
  · intro w hSw
    obtain ⟨⟨x0, x1, x2, x3⟩, _⟩ := rowN4 hSw
    go_simp
  simp only [Act.put, List.setIfInBounds_toArray, List.set_cons_zero, List.set_cons_succ]
  refine takeL_do (i := 2) (v := (.pointer (some ⟨sb, 0, none⟩))) rfl (by kernel_rfl) (by kernel_rfl) (by kernel_rfl) (by kernel_rfl) (fun _ _ _ h => hP _ _ _ _ _ h) (by rfl) ?_ (by assumption) ?_
  · intro w hSw
    skip
    go_simp
  simp only [Act.put, List.setIfInBounds_toArray, List.set_cons_zero, List.set_cons_succ]
  refine takeL_call (i := 3) rfl (by kernel_rfl) (fun K2 hK => ?_)
  go_simp
  refine (n_any sb 21 _ HN.out.src.1 (by omega)).mono ?_
  rintro e Z24 ⟨⟨g, rfl, g0, g1, g2⟩, hD⟩
  replace HR := Lib.hid (md_chg HR.out (by have := HN.out.rl; have := HN.out.sbl; omega) hD.2)
  replace HN := Lib.hid (HN.out.draw hD)
  have hg4 : g < 21 := g1 (by omega)
  clear hD g1 g2
  go_wp2_with fail
  refine hK.out _ _ HR.out (fun hHeld2 => ?_)
  clear hK hHeld
  have hHeld := hHeld2
  clear hHeld2
  refine takeL_do (i := 4) (v := (.int .i64 (g - 6))) rfl (by kernel_rfl) (by kernel_rfl) (by kernel_rfl) (by kernel_rfl) (fun _ _ _ h => hP _ _ _ _ _ h) (by rfl) ?_ (by assumption) ?_
  · intro w hSw
    have hwr : IntKind.i64.wrap (g - 6) = g - 6 := md_wrap (by omega) (by omega)
    go_simp
  simp only [Act.put, List.setIfInBounds_toArray, List.set_cons_zero, List.set_cons_succ]
  refine takeL_call (i := 5) rfl (by kernel_rfl) (fun K2 hK => ?_)
  obtain ⟨Z25, hZ25⟩ : ∃ Z, Z = Z24.alloc (.cells #[.int .i64 (g - 6)] 2) := ⟨_, rfl⟩
  have hb : Below Z24.heap.size Z24 Z25 := by rw [hZ25]; exact nbel_alloc _ _
  obtain ⟨gs, hgs⟩ : ∃ gs, gs = Z24.heap.size := ⟨_, rfl⟩
  have HL : Hid (∀ j u, [Value.int .i64 (g - 6)][j]? = some u → Z25.cell? ((⟨gs, 0, none⟩ : Addr).add j) = some u) := by
    rw [hZ25, hgs]; exact ncells1 _ _ _
  replace HN := Lib.hid (HN.out.below hb)
  replace HR := Lib.hid (nrow_below HR.out hb)
  go_simp
  rw [← hZ25, ← hgs]
  refine hK.out _ _ HR.out (fun hHeld2 => ?_)
  clear hK hHeld
  have hHeld := hHeld2
  clear hHeld2
  clear hb hZ25 hgs
  refine takeL_call (i := 6) rfl (by kernel_rfl) (fun K2 hK => ?_)
  refine mdap rfl (.tmp 106) (.tmp 110) 25 rfl w.heap.size 2 wi0 (.int .i64 0) 1 8 Tryz.underlying25 hwi0 hwi1 hwi2 hwi3 rfl (by decide) _ wn _ rfl HN.out.wo ⟨gs, 0, none⟩ 1 1 [.int .i64 (g - 6)] rfl rfl HL.out ?_ (by unfold maxLen; omega) (by omega) HN.out.src.2.size ?_
  · intro u hu; simp at hu; subst hu; rfl
  intro v' Z26 hown hgrow
  obtain ⟨a8, c8, rfl⟩ := lpown_shape hown
  replace HR := Lib.hid (md_row HR.out HN.out.wo (by decide) hgrow)
  replace HN := Lib.hid (HN.out.app_w (zs := [(g - 6 : Int)]) hgrow hown)
  refine hK.out _ _ HR.out (fun hHeld2 => ?_)
  clear hK hHeld hown hgrow HL
  have hHeld := hHeld2
  clear hHeld2
  simp only [Act.put, List.setIfInBounds_toArray, List.set_cons_zero, List.set_cons_succ]
  refine takeL_do (i := 7) (v := (.pointer (some ⟨R, 3, none⟩))) rfl (by kernel_rfl) (by kernel_rfl) (by kernel_rfl) (by kernel_rfl) (fun _ _ _ h => hP _ _ _ _ _ h) (by rfl) ?_ (by assumption) ?_
  · intro w hSw
    skip
    go_simp
  simp only [Act.put, List.setIfInBounds_toArray, List.set_cons_zero, List.set_cons_succ]
  obtain ⟨⟨o0, o1, o2, o3⟩, z0, z1, z2, z3⟩ := rowN4 HR.out
  have l0 := HR.out.lt
  obtain ⟨Z27, hZ27⟩ : ∃ WZ, WZ = Z26.setCell ⟨R, 3, none⟩ (.slice a8 (wn + 1) c8) := ⟨_, rfl⟩
  have HN2 := Lib.hid (HN.out.set HR.out (i := 3) (.slice a8 (wn + 1) c8))
  have HR2 := Lib.hid (rowN_put HR.out 3 (.slice a8 (wn + 1) c8) (by simp))
  rw [← hZ27] at HN2 HR2
  have HWZ := Lib.hid hZ27
  clear hZ27
  refine takeL_last rfl (by kernel_rfl) (by kernel_rfl) (fun K2 hK => ?_)
  go_simp
  rw [← HWZ.out]
  refine hK.out _ _ ?_
  clear hK hHeld HWZ o0 o1 o2 o3 z0 z1 z2 z3 l0 HN HR
  have HN := HN2
  have HR : Hid (Z27.rowIs R 27 4 (rowN (ndR nd (.slice la ln lk) (.slice fa fn fk) (.slice a8 (wn + 1) c8)))) := HR2
  clear HN2 HR2
  exact hQ _ _ _ _ _ _ _ _ _ (Lib.hid ⟨_, _, _, _, _, _, _, _, _, HN.out, HR.out⟩)
end Go.Proofs.YtkaokfmaecdkiaaGreatDoor
namespace Go.Proofs.YtkaokfmaecdkiaaGreatDoor
open Go Go.RowKit Go.Deep

set_option maxRecDepth 100000 in
set_option maxHeartbeats 32000000 in
theorem nreg23 {w : World} (sb R : Nat) (nd : Int) (ln fn wn : Nat) (x1 x2 x4 x5 x6 x7 x8 x9 x10 x11 x12 x13 x14 x15 x16 x17 x18 x19 x20 x21 x22 x23 x24 x25 x26 x27 x28 x29 x30 x31 x32 x33 x34 x35 x36 x37 x38 x39 x40 x41 x42 x43 x44 x45 x46 x47 x48 x49 x50 x51 x52 x53 x54 x55 x56 x57 x58 x59 x60 x61 x62 x63 x64 x65 x66 x67 x68 x69 x70 x71 x72 x73 x74 x75 x76 x77 x78 x79 x80 x81 x82 x83 x84 x85 x86 x87 x88 x89 x90 x91 x92 x93 x94 x95 x96 x97 x98 x99 x100 x101 x102 x103 x104 x105 x106 x107 x108 x109 x110 x111 x112 x113 x114 x115 x116 x117 x118 x119 x120 x121 x122 x123 x124 x125 x126 x127 x128 x129 x130 x131 x132 x133 x134 x135 x136 x137 x138 x139 x140 x141 x142 x143 x144 x145 x146 x147 x148 x149 x150 x151 x152 x153 x154 x155 x156 x157 x158 x159 x160 x161 x162 x163 x164 x165 x166 x167 x168 x169 x170 x171 x172 x173 x174 x175 x176 x177 x178 x179 x180 x181 x182 : Value) (ds : _) (Q : Exit → Act → World → Prop) (W0 : World)
    (HY : Hid (NY w sb R nd ln fn wn W0)) (hln : ln ≤ 200) (hP : ∀ c (a : Act) o v w, Q (.panic c) (a.put o v) w → Q (.panic c) a w)
    (hQ : ∀ (y117 y118 y119 y120 y121 y122 y123 y124 y125 y126 y127 : Value) (WZ : World), Hid (NY w sb R nd (ln + 1) fn wn WZ) → Q .normal { tmps := #[(.pointer (some ⟨sb, 0, none⟩)), x1, x2, (.pointer (some ⟨R, 0, none⟩)), x4, x5, x6, x7, x8, x9, x10, x11, x12, x13, x14, x15, x16, x17, x18, x19, x20, x21, x22, x23, x24, x25, x26, x27, x28, x29, x30, x31, x32, x33, x34, x35, x36, x37, x38, x39, x40, x41, x42, x43, x44, x45, x46, x47, x48, x49, x50, x51, x52, x53, x54, x55, x56, x57, x58, x59, x60, x61, x62, x63, x64, x65, x66, x67, x68, x69, x70, x71, x72, x73, x74, x75, x76, x77, x78, x79, x80, x81, x82, x83, x84, x85, x86, x87, x88, x89, x90, x91, x92, x93, x94, x95, x96, x97, x98, x99, x100, x101, x102, x103, x104, x105, x106, x107, x108, x109, x110, x111, x112, x113, x114, x115, x116, y117, y118, y119, y120, y121, y122, y123, y124, y125, y126, y127, x128, x129, x130, x131, x132, x133, x134, x135, x136, x137, x138, x139, x140, x141, x142, x143, x144, x145, x146, x147, x148, x149, x150, x151, x152, x153, x154, x155, x156, x157, x158, x159, x160, x161, x162, x163, x164, x165, x166, x167, x168, x169, x170, x171, x172, x173, x174, x175, x176, x177, x178, x179, x180, x181, x182], defers := ds } WZ) :
    (Code.region 23 #[{ dst := some 117, op := Op.fieldAddr 27 (Operand.tmp 3) 1, type := 0, pos := "l07_linear.go:238", after := #[], guard := none }, { dst := some 118, op := Op.load 23 (Operand.tmp 117), type := 23, pos := "l07_linear.go:238", after := #[{ on := 0, ground := Ground.data }], guard := none }, { dst := some 119, op := Op.buildSlice 25 3 #[(0, Operand.const (Value.int IntKind.i64 999)), (1, Operand.const (Value.int IntKind.i64 1000)), (2, Operand.const (Value.int IntKind.i64 1001))], type := 25, pos := "l07_linear.go:238", after := #[], guard := none }, { dst := some 120, op := Op.move (Operand.tmp 0), type := 52, pos := "l07_linear.go:238", after := #[], guard := none }, { dst := some 121, op := Op.call { callee := Callee.value (Operand.func 52), args := #[Operand.tmp 120, Operand.const (Value.int IntKind.i64 3)], argTypes := #[52, 2] }, type := 2, pos := "l07_linear.go:238", after := #[{ on := 3, ground := Ground.data }], guard := none }, { dst := some 122, op := Op.indexAddr 25 (Operand.tmp 119) (Operand.tmp 121), type := 0, pos := "l07_linear.go:238", after := #[{ on := 2, ground := Ground.data }, { on := 4, ground := Ground.data }], guard := none }, { dst := some 123, op := Op.load 2 (Operand.tmp 122), type := 2, pos := "l07_linear.go:238", after := #[{ on := 5, ground := Ground.data }], guard := none }, { dst := some 124, op := Op.build 68 #[(0, Operand.const (Value.int IntKind.i64 0)), (1, Operand.const (Value.int IntKind.i64 1)), (2, Operand.tmp 123)], type := 68, pos := "l07_linear.go:238", after := #[{ on := 6, ground := Ground.data }], guard := none }, { dst := some 125, op := Op.buildSlice 23 1 #[(0, Operand.tmp 124)], type := 23, pos := "l07_linear.go:238", after := #[{ on := 7, ground := Ground.data }], guard := none }, { dst := some 126, op := Op.call { callee := Callee.builtin Builtin.append, args := #[Operand.tmp 118, Operand.tmp 125], argTypes := #[23, 23] }, type := 23, pos := "l07_linear.go:238", after := #[{ on := 1, ground := Ground.data }, { on := 8, ground := Ground.data }, { on := 4, ground := Ground.chain }], guard := none }, { dst := some 127, op := Op.fieldAddr 27 (Operand.tmp 3) 1, type := 0, pos := "l07_linear.go:238", after := #[{ on := 0, ground := Ground.phase }, { on := 1, ground := Ground.phase }, { on := 2, ground := Ground.phase }, { on := 3, ground := Ground.phase }, { on := 4, ground := Ground.phase }, { on := 5, ground := Ground.phase }, { on := 6, ground := Ground.phase }, { on := 7, ground := Ground.phase }, { on := 8, ground := Ground.phase }, { on := 9, ground := Ground.phase }], guard := none }, { dst := none, op := Op.store 23 (Operand.tmp 127) (Operand.tmp 126), type := 0, pos := "l07_linear.go:238", after := #[{ on := 10, ground := Ground.data }, { on := 9, ground := Ground.data }, { on := 9, ground := Ground.chain }, { on := 0, ground := Ground.phase }, { on := 1, ground := Ground.phase }, { on := 2, ground := Ground.phase }, { on := 3, ground := Ground.phase }, { on := 4, ground := Ground.phase }, { on := 5, ground := Ground.phase }, { on := 6, ground := Ground.phase }, { on := 7, ground := Ground.phase }, { on := 8, ground := Ground.phase }, { on := 9, ground := Ground.phase }], guard := none }] true).wp Tryz.prog Q { tmps := #[(.pointer (some ⟨sb, 0, none⟩)), x1, x2, (.pointer (some ⟨R, 0, none⟩)), x4, x5, x6, x7, x8, x9, x10, x11, x12, x13, x14, x15, x16, x17, x18, x19, x20, x21, x22, x23, x24, x25, x26, x27, x28, x29, x30, x31, x32, x33, x34, x35, x36, x37, x38, x39, x40, x41, x42, x43, x44, x45, x46, x47, x48, x49, x50, x51, x52, x53, x54, x55, x56, x57, x58, x59, x60, x61, x62, x63, x64, x65, x66, x67, x68, x69, x70, x71, x72, x73, x74, x75, x76, x77, x78, x79, x80, x81, x82, x83, x84, x85, x86, x87, x88, x89, x90, x91, x92, x93, x94, x95, x96, x97, x98, x99, x100, x101, x102, x103, x104, x105, x106, x107, x108, x109, x110, x111, x112, x113, x114, x115, x116, x117, x118, x119, x120, x121, x122, x123, x124, x125, x126, x127, x128, x129, x130, x131, x132, x133, x134, x135, x136, x137, x138, x139, x140, x141, x142, x143, x144, x145, x146, x147, x148, x149, x150, x151, x152, x153, x154, x155, x156, x157, x158, x159, x160, x161, x162, x163, x164, x165, x166, x167, x168, x169, x170, x171, x172, x173, x174, x175, x176, x177, x178, x179, x180, x181, x182], defers := ds } W0 := by
  obtain ⟨li0, hli0, hli1, hli2, hli3⟩ := info_parts linfo
  obtain ⟨fi0, hfi0, hfi1, hfi2, hfi3⟩ := info_parts finfo
  obtain ⟨wi0, hwi0, hwi1, hwi2, hwi3⟩ := info_parts winfo
  obtain ⟨la, lk, fa, fk, wa, wk, ls, fs, ws, hN, hR⟩ := HY.out
  have HN := Lib.hid hN
  have HR := Lib.hid hR
  clear hN hR HY
  refine region_L (fun V => V.rowIs R 27 4 (rowN (ndR nd (.slice la ln lk) (.slice fa fn fk) (.slice wa wn wk)))) 11 (by kernel_rfl) (HR.out.of_block rfl) (fun hHeld => ?_)
  obtain ⟨Z40, hZ40⟩ : ∃ Z, Z = W0.drew := ⟨_, rfl⟩
  replace HN := Lib.hid (HN.out.below (Below.refl _ _).drew)
  replace HR := Lib.hid (nrow_below HR.out (Below.refl _ _).drew)
  rw [← hZ40] at hHeld HN HR ⊢
  clear hZ40
  refine takeL_do (i := 0) (v := (.pointer (some ⟨R, 1, none⟩))) rfl (by kernel_rfl) (by kernel_rfl) (by kernel_rfl) (by kernel_rfl) (fun _ _ _ h => hP _ _ _ _ _ h) (by rfl) ?_ (by assumption) ?_
  · intro w hSw
    skip
    go_simp
  simp only [Act.put, List.setIfInBounds_toArray, List.set_cons_zero, List.set_cons_succ]
  refine takeL_do (i := 1) (v := (.slice la ln lk)) rfl (by kernel_rfl) (by kernel_rfl) (by kernel_rfl) (by kernel_rfl) (fun _ _ _ h => hP _ _ _ _ _ h) (by rfl) ?_ (by assumption) ?_
  · intro w hSw
    obtain ⟨⟨x0, x1, x2, x3⟩, _⟩ := rowN4 hSw
    go_simp
  simp only [Act.put, List.setIfInBounds_toArray, List.set_cons_zero, List.set_cons_succ]
  refine takeL_do (i := 3) (v := (.pointer (some ⟨sb, 0, none⟩))) rfl (by kernel_rfl) (by kernel_rfl) (by kernel_rfl) (by kernel_rfl) (fun _ _ _ h => hP _ _ _ _ _ h) (by rfl) ?_ (by assumption) ?_
  · intro w hSw
    skip
    go_simp
  simp only [Act.put, List.setIfInBounds_toArray, List.set_cons_zero, List.set_cons_succ]
  refine L_ready (rs := [2, 4]) (by kernel_rfl) (by simp) (AllL.cons rfl (fun K2 hK => ?_) (AllL.cons rfl (fun K2 hK => ?_) AllL.nil))
  · obtain ⟨Z41, hZ41⟩ : ∃ Z, Z = Z40.alloc (.cells #[.int .i64 999, .int .i64 1000, .int .i64 1001] 2) := ⟨_, rfl⟩
    have hb : Below Z40.heap.size Z40 Z41 := by rw [hZ41]; exact nbel_alloc _ _
    obtain ⟨gl, hgl⟩ : ∃ gl, gl = Z40.heap.size := ⟨_, rfl⟩
    have HLT : Hid (Z41.rowIs gl 2 3 (rowN [.int .i64 999, .int .i64 1000, .int .i64 1001])) := by show World.rowIs _ _ _ _ _; rw [hZ41, hgl]; exact rowN_alloc _ _ _
    have HGL : Hid (w.heap.size ≤ gl) := by show _ ≤ _; rw [hgl]; exact HN.out.src.2.2.2.2.1
    replace HN := Lib.hid (HN.out.below hb)
    replace HR := Lib.hid (nrow_below HR.out hb)
    go_simp
    rw [← hZ41, ← hgl]
    refine hK.out _ _ HR.out (fun hHeld2 => ?_)
    clear hK hHeld
    have hHeld := hHeld2
    clear hHeld2
    clear hb hZ41 hgl
    refine takeL_call (i := 4) rfl (by kernel_rfl) (fun K2 hK => ?_)
    go_simp
    refine (n_any sb 3 _ HN.out.src.1 (by omega)).mono ?_
    rintro e Z42 ⟨⟨u, rfl, u0, u1, u2⟩, hD⟩
    have hu3 : u < 3 := u1 (by omega)
    replace HR := Lib.hid (md_chg HR.out (by have := HN.out.rl; have := HN.out.sbl; omega) hD.2)
    replace HLT := Lib.hid (md_chg HLT.out (by have := HGL.out; have := HN.out.sbl; omega) hD.2)
    replace HN := Lib.hid (HN.out.draw hD)
    clear hD u1 u2
    go_wp2_with fail
    refine hK.out _ _ HR.out (fun hHeld2 => ?_)
    clear hK hHeld
    have hHeld := hHeld2
    clear hHeld2
    obtain ⟨U, hU, hU3⟩ : ∃ U : Nat, u = (U : Int) ∧ U < 3 := ⟨u.toNat, by omega, by omega⟩
    subst hU
    have hUz : (U : Int) < 3 := by omega
    obtain ⟨yv, hyv⟩ : ∃ yv : Int, Z42.cell? ⟨gl, U, none⟩ = some (.int .i64 yv) := by
      have q := HLT.out.cell (i := U) (by omega)
      rcases (show U = 0 ∨ U = 1 ∨ U = 2 by omega) with rfl | rfl | rfl <;> exact ⟨_, q⟩
    refine takeL_do (i := 5) (v := (.pointer (some ⟨gl, U, none⟩))) rfl (by kernel_rfl) (by kernel_rfl) (by kernel_rfl) (by kernel_rfl) (fun _ _ _ h => hP _ _ _ _ _ h) (by rfl) ?_ (by assumption) ?_
    · intro w hSw
      skip
      go_simp
    simp only [Act.put, List.setIfInBounds_toArray, List.set_cons_zero, List.set_cons_succ]
    refine takeL_call (i := 6) rfl (by kernel_rfl) (fun K2 hK => ?_)
    go_simp
    refine hK.out _ _ HR.out (fun hHeld2 => ?_)
    clear hK hHeld
    have hHeld := hHeld2
    clear hHeld2
    clear hyv HLT
    refine takeL_do (i := 7) (v := (.agg #[.int .i64 0, .int .i64 1, .int .i64 yv])) rfl (by kernel_rfl) (by kernel_rfl) (by kernel_rfl) (by kernel_rfl) (fun _ _ _ h => hP _ _ _ _ _ h) (by rfl) ?_ (by assumption) ?_
    · intro w hSw
      skip
      go_simp
    simp only [Act.put, List.setIfInBounds_toArray, List.set_cons_zero, List.set_cons_succ]
    refine takeL_call (i := 8) rfl (by kernel_rfl) (fun K2 hK => ?_)
    obtain ⟨Z43, hZ43⟩ : ∃ Z, Z = Z42.alloc (.cells #[.int .i64 0, .int .i64 1, .int .i64 yv] 68) := ⟨_, rfl⟩
    have hb : Below Z42.heap.size Z42 Z43 := by rw [hZ43]; exact nbel_alloc _ _
    obtain ⟨gs, hgs⟩ : ∃ gs, gs = Z42.heap.size := ⟨_, rfl⟩
    have HL : Hid (∀ j u, [Value.int .i64 0, .int .i64 1, .int .i64 yv][j]? = some u → Z43.cell? ((⟨gs, 0, none⟩ : Addr).add j) = some u) := by
      rw [hZ43, hgs]; exact ncells3 _ _ _ _ _
    replace HN := Lib.hid (HN.out.below hb)
    replace HR := Lib.hid (nrow_below HR.out hb)
    go_simp
    rw [← hZ43, ← hgs]
    refine hK.out _ _ HR.out (fun hHeld2 => ?_)
    clear hK hHeld
    have hHeld := hHeld2
    clear hHeld2
    clear hb hZ43 hgs
    refine takeL_call (i := 9) rfl (by kernel_rfl) (fun K2 hK => ?_)
    refine mdap rfl (.tmp 118) (.tmp 125) 23 rfl w.heap.size 68 li0 (.agg #[.int .i64 0, .int .i64 0, .int .i64 0]) 3 24 Tryz.underlying23 hli0 hli1 hli2 hli3 rfl (by decide) _ ln _ rfl HN.out.lo ⟨gs, 0, none⟩ 1 1 [.int .i64 0, .int .i64 1, .int .i64 yv] rfl rfl HL.out ?_ (by unfold maxLen; omega) (by omega) HN.out.src.2.size ?_
    · intro u hu; simp at hu; rcases hu with rfl | rfl | rfl <;> rfl
    intro v' Z44 hown hgrow
    obtain ⟨a8, c8, rfl⟩ := lpown_shape hown
    replace HR := Lib.hid (md_row HR.out HN.out.lo (by decide) hgrow)
    replace HN := Lib.hid (HN.out.app_l (zs := [(0 : Int), (1 : Int), (yv : Int)]) hgrow hown)
    refine hK.out _ _ HR.out (fun hHeld2 => ?_)
    clear hK hHeld hown hgrow HL
    have hHeld := hHeld2
    clear hHeld2
    simp only [Act.put, List.setIfInBounds_toArray, List.set_cons_zero, List.set_cons_succ]
    refine takeL_do (i := 10) (v := (.pointer (some ⟨R, 1, none⟩))) rfl (by kernel_rfl) (by kernel_rfl) (by kernel_rfl) (by kernel_rfl) (fun _ _ _ h => hP _ _ _ _ _ h) (by rfl) ?_ (by assumption) ?_
    · intro w hSw
      skip
      go_simp
    simp only [Act.put, List.setIfInBounds_toArray, List.set_cons_zero, List.set_cons_succ]
    obtain ⟨⟨o0, o1, o2, o3⟩, z0, z1, z2, z3⟩ := rowN4 HR.out
    have l0 := HR.out.lt
    obtain ⟨Z45, hZ45⟩ : ∃ WZ, WZ = Z44.setCell ⟨R, 1, none⟩ (.slice a8 (ln + 1) c8) := ⟨_, rfl⟩
    have HN2 := Lib.hid (HN.out.set HR.out (i := 1) (.slice a8 (ln + 1) c8))
    have HR2 := Lib.hid (rowN_put HR.out 1 (.slice a8 (ln + 1) c8) (by simp))
    rw [← hZ45] at HN2 HR2
    have HWZ := Lib.hid hZ45
    clear hZ45
    refine takeL_last rfl (by kernel_rfl) (by kernel_rfl) (fun K2 hK => ?_)
    go_simp
    rw [← HWZ.out]
    refine hK.out _ _ ?_
    clear hK hHeld HWZ o0 o1 o2 o3 z0 z1 z2 z3 l0 HN HR
    have HN := HN2
    have HR : Hid (Z45.rowIs R 27 4 (rowN (ndR nd (.slice a8 (ln + 1) c8) (.slice fa fn fk) (.slice wa wn wk)))) := HR2
    clear HN2 HR2
    exact hQ _ _ _ _ _ _ _ _ _ _ _ _ (Lib.hid ⟨_, _, _, _, _, _, _, _, _, HN.out, HR.out⟩)
  · go_simp
    refine (n_any sb 3 _ HN.out.src.1 (by omega)).mono ?_
    rintro e Z46 ⟨⟨u, rfl, u0, u1, u2⟩, hD⟩
    have hu3 : u < 3 := u1 (by omega)
    replace HR := Lib.hid (md_chg HR.out (by have := HN.out.rl; have := HN.out.sbl; omega) hD.2)
    replace HN := Lib.hid (HN.out.draw hD)
    clear hD u1 u2
    go_wp2_with fail
    refine hK.out _ _ HR.out (fun hHeld2 => ?_)
    clear hK hHeld
    have hHeld := hHeld2
    clear hHeld2
    refine takeL_call (i := 2) rfl (by kernel_rfl) (fun K2 hK => ?_)
    obtain ⟨Z47, hZ47⟩ : ∃ Z, Z = Z46.alloc (.cells #[.int .i64 999, .int .i64 1000, .int .i64 1001] 2) := ⟨_, rfl⟩
    have hb : Below Z46.heap.size Z46 Z47 := by rw [hZ47]; exact nbel_alloc _ _
    obtain ⟨gl, hgl⟩ : ∃ gl, gl = Z46.heap.size := ⟨_, rfl⟩
    have HLT : Hid (Z47.rowIs gl 2 3 (rowN [.int .i64 999, .int .i64 1000, .int .i64 1001])) := by show World.rowIs _ _ _ _ _; rw [hZ47, hgl]; exact rowN_alloc _ _ _
    have HGL : Hid (w.heap.size ≤ gl) := by show _ ≤ _; rw [hgl]; exact HN.out.src.2.2.2.2.1
    replace HN := Lib.hid (HN.out.below hb)
    replace HR := Lib.hid (nrow_below HR.out hb)
    go_simp
    rw [← hZ47, ← hgl]
    refine hK.out _ _ HR.out (fun hHeld2 => ?_)
    clear hK hHeld
    have hHeld := hHeld2
    clear hHeld2
    clear hb hZ47 hgl
    obtain ⟨U, hU, hU3⟩ : ∃ U : Nat, u = (U : Int) ∧ U < 3 := ⟨u.toNat, by omega, by omega⟩
    subst hU
    have hUz : (U : Int) < 3 := by omega
    obtain ⟨yv, hyv⟩ : ∃ yv : Int, Z47.cell? ⟨gl, U, none⟩ = some (.int .i64 yv) := by
      have q := HLT.out.cell (i := U) (by omega)
      rcases (show U = 0 ∨ U = 1 ∨ U = 2 by omega) with rfl | rfl | rfl <;> exact ⟨_, q⟩
    refine takeL_do (i := 5) (v := (.pointer (some ⟨gl, U, none⟩))) rfl (by kernel_rfl) (by kernel_rfl) (by kernel_rfl) (by kernel_rfl) (fun _ _ _ h => hP _ _ _ _ _ h) (by rfl) ?_ (by assumption) ?_
    · intro w hSw
      skip
      go_simp
    simp only [Act.put, List.setIfInBounds_toArray, List.set_cons_zero, List.set_cons_succ]
    refine takeL_call (i := 6) rfl (by kernel_rfl) (fun K2 hK => ?_)
    go_simp
    refine hK.out _ _ HR.out (fun hHeld2 => ?_)
    clear hK hHeld
    have hHeld := hHeld2
    clear hHeld2
    clear hyv HLT
    refine takeL_do (i := 7) (v := (.agg #[.int .i64 0, .int .i64 1, .int .i64 yv])) rfl (by kernel_rfl) (by kernel_rfl) (by kernel_rfl) (by kernel_rfl) (fun _ _ _ h => hP _ _ _ _ _ h) (by rfl) ?_ (by assumption) ?_
    · intro w hSw
      skip
      go_simp
    simp only [Act.put, List.setIfInBounds_toArray, List.set_cons_zero, List.set_cons_succ]
    refine takeL_call (i := 8) rfl (by kernel_rfl) (fun K2 hK => ?_)
    obtain ⟨Z48, hZ48⟩ : ∃ Z, Z = Z47.alloc (.cells #[.int .i64 0, .int .i64 1, .int .i64 yv] 68) := ⟨_, rfl⟩
    have hb : Below Z47.heap.size Z47 Z48 := by rw [hZ48]; exact nbel_alloc _ _
    obtain ⟨gs, hgs⟩ : ∃ gs, gs = Z47.heap.size := ⟨_, rfl⟩
    have HL : Hid (∀ j u, [Value.int .i64 0, .int .i64 1, .int .i64 yv][j]? = some u → Z48.cell? ((⟨gs, 0, none⟩ : Addr).add j) = some u) := by
      rw [hZ48, hgs]; exact ncells3 _ _ _ _ _
    replace HN := Lib.hid (HN.out.below hb)
    replace HR := Lib.hid (nrow_below HR.out hb)
    go_simp
    rw [← hZ48, ← hgs]
    refine hK.out _ _ HR.out (fun hHeld2 => ?_)
    clear hK hHeld
    have hHeld := hHeld2
    clear hHeld2
    clear hb hZ48 hgs
    refine takeL_call (i := 9) rfl (by kernel_rfl) (fun K2 hK => ?_)
    refine mdap rfl (.tmp 118) (.tmp 125) 23 rfl w.heap.size 68 li0 (.agg #[.int .i64 0, .int .i64 0, .int .i64 0]) 3 24 Tryz.underlying23 hli0 hli1 hli2 hli3 rfl (by decide) _ ln _ rfl HN.out.lo ⟨gs, 0, none⟩ 1 1 [.int .i64 0, .int .i64 1, .int .i64 yv] rfl rfl HL.out ?_ (by unfold maxLen; omega) (by omega) HN.out.src.2.size ?_
    · intro u hu; simp at hu; rcases hu with rfl | rfl | rfl <;> rfl
    intro v' Z49 hown hgrow
    obtain ⟨a8, c8, rfl⟩ := lpown_shape hown
    replace HR := Lib.hid (md_row HR.out HN.out.lo (by decide) hgrow)
    replace HN := Lib.hid (HN.out.app_l (zs := [(0 : Int), (1 : Int), (yv : Int)]) hgrow hown)
    refine hK.out _ _ HR.out (fun hHeld2 => ?_)
    clear hK hHeld hown hgrow HL
    have hHeld := hHeld2
    clear hHeld2
    simp only [Act.put, List.setIfInBounds_toArray, List.set_cons_zero, List.set_cons_succ]
    refine takeL_do (i := 10) (v := (.pointer (some ⟨R, 1, none⟩))) rfl (by kernel_rfl) (by kernel_rfl) (by kernel_rfl) (by kernel_rfl) (fun _ _ _ h => hP _ _ _ _ _ h) (by rfl) ?_ (by assumption) ?_
    · intro w hSw
      skip
      go_simp
    simp only [Act.put, List.setIfInBounds_toArray, List.set_cons_zero, List.set_cons_succ]
    obtain ⟨⟨o0, o1, o2, o3⟩, z0, z1, z2, z3⟩ := rowN4 HR.out
    have l0 := HR.out.lt
    obtain ⟨Z50, hZ50⟩ : ∃ WZ, WZ = Z49.setCell ⟨R, 1, none⟩ (.slice a8 (ln + 1) c8) := ⟨_, rfl⟩
    have HN2 := Lib.hid (HN.out.set HR.out (i := 1) (.slice a8 (ln + 1) c8))
    have HR2 := Lib.hid (rowN_put HR.out 1 (.slice a8 (ln + 1) c8) (by simp))
    rw [← hZ50] at HN2 HR2
    have HWZ := Lib.hid hZ50
    clear hZ50
    refine takeL_last rfl (by kernel_rfl) (by kernel_rfl) (fun K2 hK => ?_)
    go_simp
    rw [← HWZ.out]
    refine hK.out _ _ ?_
    clear hK hHeld HWZ o0 o1 o2 o3 z0 z1 z2 z3 l0 HN HR
    have HN := HN2
    have HR : Hid (Z50.rowIs R 27 4 (rowN (ndR nd (.slice a8 (ln + 1) c8) (.slice fa fn fk) (.slice wa wn wk)))) := HR2
    clear HN2 HR2
    exact hQ _ _ _ _ _ _ _ _ _ _ _ _ (Lib.hid ⟨_, _, _, _, _, _, _, _, _, HN.out, HR.out⟩)
end Go.Proofs.YtkaokfmaecdkiaaGreatDoor
namespace Go.Proofs.YtkaokfmaecdkiaaGreatDoor
open Go Go.RowKit Go.Deep

set_option maxRecDepth 100000 in
set_option maxHeartbeats 32000000 in
theorem nreg27 {w : World} (sb R : Nat) (nd : Int) (ln fn wn : Nat) (x1 x2 x4 x5 x6 x7 x8 x9 x10 x11 x12 x13 x14 x15 x16 x17 x18 x19 x20 x21 x22 x23 x24 x25 x26 x27 x28 x29 x30 x31 x32 x33 x34 x35 x36 x37 x38 x39 x40 x41 x42 x43 x44 x45 x46 x47 x48 x49 x50 x51 x52 x53 x54 x55 x56 x57 x58 x59 x60 x61 x62 x63 x64 x65 x66 x67 x68 x69 x70 x71 x72 x73 x74 x75 x76 x77 x78 x79 x80 x81 x82 x83 x84 x85 x86 x87 x88 x89 x90 x91 x92 x93 x94 x95 x96 x97 x98 x99 x100 x101 x102 x103 x104 x105 x106 x107 x108 x109 x110 x111 x112 x113 x114 x115 x116 x117 x118 x119 x120 x121 x122 x123 x124 x125 x126 x127 x128 x129 x130 x131 x132 x133 x134 x135 x136 x137 x138 x139 x140 x141 x142 x143 x144 x145 x146 x147 x148 x149 x150 x151 x152 x153 x154 x155 x156 x157 x158 x159 x160 x161 x162 x163 x164 x165 x166 x167 x168 x169 x170 x171 x172 x173 x174 x175 x176 x177 x178 x179 x180 x181 x182 : Value) (ds : _) (Q : Exit → Act → World → Prop) (W0 : World)
    (HY : Hid (NY w sb R nd ln fn wn W0)) (hnd : 0 ≤ nd ∧ nd ≤ 20) (hfn : fn ≤ 200) (hP : ∀ c (a : Act) o v w, Q (.panic c) (a.put o v) w → Q (.panic c) a w)
    (hQ : ∀ (y137 y138 y139 y140 y141 y142 y143 y144 y145 y146 y147 : Value) (WZ : World), Hid (NY w sb R nd ln (fn + 1) wn WZ) → Q .normal { tmps := #[(.pointer (some ⟨sb, 0, none⟩)), x1, x2, (.pointer (some ⟨R, 0, none⟩)), x4, x5, x6, x7, x8, x9, x10, x11, x12, x13, x14, x15, x16, x17, x18, x19, x20, x21, x22, x23, x24, x25, x26, x27, x28, x29, x30, x31, x32, x33, x34, x35, x36, x37, x38, x39, x40, x41, x42, x43, x44, x45, x46, x47, x48, x49, x50, x51, x52, x53, x54, x55, x56, x57, x58, x59, x60, x61, x62, x63, x64, x65, x66, x67, x68, x69, x70, x71, x72, x73, x74, x75, x76, x77, x78, x79, x80, x81, x82, x83, x84, x85, x86, x87, x88, x89, x90, x91, x92, x93, x94, x95, x96, x97, x98, x99, x100, x101, x102, x103, x104, x105, x106, x107, x108, x109, x110, x111, x112, x113, x114, x115, x116, x117, x118, x119, x120, x121, x122, x123, x124, x125, x126, x127, x128, x129, x130, x131, x132, x133, x134, x135, x136, y137, y138, y139, y140, y141, y142, y143, y144, y145, y146, y147, x148, x149, x150, x151, x152, x153, x154, x155, x156, x157, x158, x159, x160, x161, x162, x163, x164, x165, x166, x167, x168, x169, x170, x171, x172, x173, x174, x175, x176, x177, x178, x179, x180, x181, x182], defers := ds } WZ) :
    (Code.region 27 #[{ dst := some 137, op := Op.fieldAddr 27 (Operand.tmp 3) 2, type := 0, pos := "l07_linear.go:230", after := #[], guard := none }, { dst := some 138, op := Op.load 24 (Operand.tmp 137), type := 24, pos := "l07_linear.go:230", after := #[{ on := 0, ground := Ground.data }], guard := none }, { dst := some 139, op := Op.move (Operand.tmp 0), type := 52, pos := "l07_linear.go:230", after := #[], guard := none }, { dst := some 140, op := Op.fieldAddr 27 (Operand.tmp 3) 0, type := 0, pos := "l07_linear.go:230", after := #[], guard := none }, { dst := some 141, op := Op.load 2 (Operand.tmp 140), type := 2, pos := "l07_linear.go:230", after := #[{ on := 3, ground := Ground.data }], guard := none }, { dst := some 142, op := Op.binOp BinOp.add 2 (Operand.tmp 141) (Operand.const (Value.int IntKind.i64 1)) 2, type := 2, pos := "l07_linear.go:230", after := #[{ on := 4, ground := Ground.data }], guard := none }, { dst := some 143, op := Op.call { callee := Callee.value (Operand.func 52), args := #[Operand.tmp 139, Operand.tmp 142], argTypes := #[52, 2] }, type := 2, pos := "l07_linear.go:230", after := #[{ on := 2, ground := Ground.data }, { on := 5, ground := Ground.data }], guard := none }, { dst := some 144, op := Op.build 39 #[(0, Operand.tmp 143)], type := 39, pos := "l07_linear.go:230", after := #[{ on := 6, ground := Ground.data }], guard := none }, { dst := some 145, op := Op.buildSlice 24 1 #[(0, Operand.tmp 144)], type := 24, pos := "l07_linear.go:230", after := #[{ on := 7, ground := Ground.data }], guard := none }, { dst := some 146, op := Op.call { callee := Callee.builtin Builtin.append, args := #[Operand.tmp 138, Operand.tmp 145], argTypes := #[24, 24] }, type := 24, pos := "l07_linear.go:230", after := #[{ on := 1, ground := Ground.data }, { on := 8, ground := Ground.data }, { on := 6, ground := Ground.chain }], guard := none }, { dst := some 147, op := Op.fieldAddr 27 (Operand.tmp 3) 2, type := 0, pos := "l07_linear.go:230", after := #[{ on := 0, ground := Ground.phase }, { on := 1, ground := Ground.phase }, { on := 2, ground := Ground.phase }, { on := 3, ground := Ground.phase }, { on := 4, ground := Ground.phase }, { on := 5, ground := Ground.phase }, { on := 6, ground := Ground.phase }, { on := 7, ground := Ground.phase }, { on := 8, ground := Ground.phase }, { on := 9, ground := Ground.phase }], guard := none }, { dst := none, op := Op.store 24 (Operand.tmp 147) (Operand.tmp 146), type := 0, pos := "l07_linear.go:230", after := #[{ on := 10, ground := Ground.data }, { on := 9, ground := Ground.data }, { on := 9, ground := Ground.chain }, { on := 0, ground := Ground.phase }, { on := 1, ground := Ground.phase }, { on := 2, ground := Ground.phase }, { on := 3, ground := Ground.phase }, { on := 4, ground := Ground.phase }, { on := 5, ground := Ground.phase }, { on := 6, ground := Ground.phase }, { on := 7, ground := Ground.phase }, { on := 8, ground := Ground.phase }, { on := 9, ground := Ground.phase }], guard := none }] true).wp Tryz.prog Q { tmps := #[(.pointer (some ⟨sb, 0, none⟩)), x1, x2, (.pointer (some ⟨R, 0, none⟩)), x4, x5, x6, x7, x8, x9, x10, x11, x12, x13, x14, x15, x16, x17, x18, x19, x20, x21, x22, x23, x24, x25, x26, x27, x28, x29, x30, x31, x32, x33, x34, x35, x36, x37, x38, x39, x40, x41, x42, x43, x44, x45, x46, x47, x48, x49, x50, x51, x52, x53, x54, x55, x56, x57, x58, x59, x60, x61, x62, x63, x64, x65, x66, x67, x68, x69, x70, x71, x72, x73, x74, x75, x76, x77, x78, x79, x80, x81, x82, x83, x84, x85, x86, x87, x88, x89, x90, x91, x92, x93, x94, x95, x96, x97, x98, x99, x100, x101, x102, x103, x104, x105, x106, x107, x108, x109, x110, x111, x112, x113, x114, x115, x116, x117, x118, x119, x120, x121, x122, x123, x124, x125, x126, x127, x128, x129, x130, x131, x132, x133, x134, x135, x136, x137, x138, x139, x140, x141, x142, x143, x144, x145, x146, x147, x148, x149, x150, x151, x152, x153, x154, x155, x156, x157, x158, x159, x160, x161, x162, x163, x164, x165, x166, x167, x168, x169, x170, x171, x172, x173, x174, x175, x176, x177, x178, x179, x180, x181, x182], defers := ds } W0 := by
  obtain ⟨li0, hli0, hli1, hli2, hli3⟩ := info_parts linfo
  obtain ⟨fi0, hfi0, hfi1, hfi2, hfi3⟩ := info_parts finfo
  obtain ⟨wi0, hwi0, hwi1, hwi2, hwi3⟩ := info_parts winfo
  obtain ⟨la, lk, fa, fk, wa, wk, ls, fs, ws, hN, hR⟩ := HY.out
  have HN := Lib.hid hN
  have HR := Lib.hid hR
  clear hN hR HY
  refine region_L (fun V => V.rowIs R 27 4 (rowN (ndR nd (.slice la ln lk) (.slice fa fn fk) (.slice wa wn wk)))) 11 (by kernel_rfl) (HR.out.of_block rfl) (fun hHeld => ?_)
  obtain ⟨Z28, hZ28⟩ : ∃ Z, Z = W0.drew := ⟨_, rfl⟩
  replace HN := Lib.hid (HN.out.below (Below.refl _ _).drew)
  replace HR := Lib.hid (nrow_below HR.out (Below.refl _ _).drew)
  rw [← hZ28] at hHeld HN HR ⊢
  clear hZ28
  refine takeL_do (i := 0) (v := (.pointer (some ⟨R, 2, none⟩))) rfl (by kernel_rfl) (by kernel_rfl) (by kernel_rfl) (by kernel_rfl) (fun _ _ _ h => hP _ _ _ _ _ h) (by rfl) ?_ (by assumption) ?_
  · intro w hSw
    skip
    go_simp
  simp only [Act.put, List.setIfInBounds_toArray, List.set_cons_zero, List.set_cons_succ]
  refine takeL_do (i := 1) (v := (.slice fa fn fk)) rfl (by kernel_rfl) (by kernel_rfl) (by kernel_rfl) (by kernel_rfl) (fun _ _ _ h => hP _ _ _ _ _ h) (by rfl) ?_ (by assumption) ?_
  · intro w hSw
    obtain ⟨⟨x0, x1, x2, x3⟩, _⟩ := rowN4 hSw
    go_simp
  simp only [Act.put, List.setIfInBounds_toArray, List.set_cons_zero, List.set_cons_succ]
  refine takeL_do (i := 2) (v := (.pointer (some ⟨sb, 0, none⟩))) rfl (by kernel_rfl) (by kernel_rfl) (by kernel_rfl) (by kernel_rfl) (fun _ _ _ h => hP _ _ _ _ _ h) (by rfl) ?_ (by assumption) ?_
  · intro w hSw
    skip
    go_simp
  simp only [Act.put, List.setIfInBounds_toArray, List.set_cons_zero, List.set_cons_succ]
  refine takeL_do (i := 3) (v := (.pointer (some ⟨R, 0, none⟩))) rfl (by kernel_rfl) (by kernel_rfl) (by kernel_rfl) (by kernel_rfl) (fun _ _ _ h => hP _ _ _ _ _ h) (by rfl) ?_ (by assumption) ?_
  · intro w hSw
    skip
    go_simp
  simp only [Act.put, List.setIfInBounds_toArray, List.set_cons_zero, List.set_cons_succ]
  refine takeL_do (i := 4) (v := (.int .i64 nd)) rfl (by kernel_rfl) (by kernel_rfl) (by kernel_rfl) (by kernel_rfl) (fun _ _ _ h => hP _ _ _ _ _ h) (by rfl) ?_ (by assumption) ?_
  · intro w hSw
    obtain ⟨⟨x0, x1, x2, x3⟩, _⟩ := rowN4 hSw
    go_simp
  simp only [Act.put, List.setIfInBounds_toArray, List.set_cons_zero, List.set_cons_succ]
  refine takeL_do (i := 5) (v := (.int .i64 (nd + 1))) rfl (by kernel_rfl) (by kernel_rfl) (by kernel_rfl) (by kernel_rfl) (fun _ _ _ h => hP _ _ _ _ _ h) (by rfl) ?_ (by assumption) ?_
  · intro w hSw
    have hwr : IntKind.i64.wrap (nd + 1) = nd + 1 := md_wrap (by omega) (by omega)
    go_simp
  simp only [Act.put, List.setIfInBounds_toArray, List.set_cons_zero, List.set_cons_succ]
  refine takeL_call (i := 6) rfl (by kernel_rfl) (fun K2 hK => ?_)
  go_simp
  refine (n_any sb (nd + 1) _ HN.out.src.1 (by omega)).mono ?_
  rintro e Z29 ⟨⟨g, rfl, g0, g1, g2⟩, hD⟩
  replace HR := Lib.hid (md_chg HR.out (by have := HN.out.rl; have := HN.out.sbl; omega) hD.2)
  replace HN := Lib.hid (HN.out.draw hD)
  clear hD g1 g2
  go_wp2_with fail
  refine hK.out _ _ HR.out (fun hHeld2 => ?_)
  clear hK hHeld
  have hHeld := hHeld2
  clear hHeld2
  refine takeL_do (i := 7) (v := (.agg #[.int .i64 g, .int .i64 0])) rfl (by kernel_rfl) (by kernel_rfl) (by kernel_rfl) (by kernel_rfl) (fun _ _ _ h => hP _ _ _ _ _ h) (by rfl) ?_ (by assumption) ?_
  · intro w hSw
    skip
    go_simp
  simp only [Act.put, List.setIfInBounds_toArray, List.set_cons_zero, List.set_cons_succ]
  refine takeL_call (i := 8) rfl (by kernel_rfl) (fun K2 hK => ?_)
  obtain ⟨Z30, hZ30⟩ : ∃ Z, Z = Z29.alloc (.cells #[.int .i64 g, .int .i64 0] 39) := ⟨_, rfl⟩
  have hb : Below Z29.heap.size Z29 Z30 := by rw [hZ30]; exact nbel_alloc _ _
  obtain ⟨gs, hgs⟩ : ∃ gs, gs = Z29.heap.size := ⟨_, rfl⟩
  have HL : Hid (∀ j u, [Value.int .i64 g, .int .i64 0][j]? = some u → Z30.cell? ((⟨gs, 0, none⟩ : Addr).add j) = some u) := by
    rw [hZ30, hgs]; exact ncells2 _ _ _ _
  replace HN := Lib.hid (HN.out.below hb)
  replace HR := Lib.hid (nrow_below HR.out hb)
  go_simp
  rw [← hZ30, ← hgs]
  refine hK.out _ _ HR.out (fun hHeld2 => ?_)
  clear hK hHeld
  have hHeld := hHeld2
  clear hHeld2
  clear hb hZ30 hgs
  refine takeL_call (i := 9) rfl (by kernel_rfl) (fun K2 hK => ?_)
  refine mdap rfl (.tmp 138) (.tmp 145) 24 rfl w.heap.size 39 fi0 (.agg #[.int .i64 0, .int .i64 0]) 2 16 Tryz.underlying24 hfi0 hfi1 hfi2 hfi3 rfl (by decide) _ fn _ rfl HN.out.fo ⟨gs, 0, none⟩ 1 1 [.int .i64 g, .int .i64 0] rfl rfl HL.out ?_ (by unfold maxLen; omega) (by omega) HN.out.src.2.size ?_
  · intro u hu; simp at hu; rcases hu with rfl | rfl <;> rfl
  intro v' Z31 hown hgrow
  obtain ⟨a8, c8, rfl⟩ := lpown_shape hown
  replace HR := Lib.hid (md_row HR.out HN.out.fo (by decide) hgrow)
  replace HN := Lib.hid (HN.out.app_f (zs := [(g : Int), (0 : Int)]) hgrow hown)
  refine hK.out _ _ HR.out (fun hHeld2 => ?_)
  clear hK hHeld hown hgrow HL
  have hHeld := hHeld2
  clear hHeld2
  simp only [Act.put, List.setIfInBounds_toArray, List.set_cons_zero, List.set_cons_succ]
  refine takeL_do (i := 10) (v := (.pointer (some ⟨R, 2, none⟩))) rfl (by kernel_rfl) (by kernel_rfl) (by kernel_rfl) (by kernel_rfl) (fun _ _ _ h => hP _ _ _ _ _ h) (by rfl) ?_ (by assumption) ?_
  · intro w hSw
    skip
    go_simp
  simp only [Act.put, List.setIfInBounds_toArray, List.set_cons_zero, List.set_cons_succ]
  obtain ⟨⟨o0, o1, o2, o3⟩, z0, z1, z2, z3⟩ := rowN4 HR.out
  have l0 := HR.out.lt
  obtain ⟨Z32, hZ32⟩ : ∃ WZ, WZ = Z31.setCell ⟨R, 2, none⟩ (.slice a8 (fn + 1) c8) := ⟨_, rfl⟩
  have HN2 := Lib.hid (HN.out.set HR.out (i := 2) (.slice a8 (fn + 1) c8))
  have HR2 := Lib.hid (rowN_put HR.out 2 (.slice a8 (fn + 1) c8) (by simp))
  rw [← hZ32] at HN2 HR2
  have HWZ := Lib.hid hZ32
  clear hZ32
  refine takeL_last rfl (by kernel_rfl) (by kernel_rfl) (fun K2 hK => ?_)
  go_simp
  rw [← HWZ.out]
  refine hK.out _ _ ?_
  clear hK hHeld HWZ o0 o1 o2 o3 z0 z1 z2 z3 l0 HN HR
  have HN := HN2
  have HR : Hid (Z32.rowIs R 27 4 (rowN (ndR nd (.slice la ln lk) (.slice a8 (fn + 1) c8) (.slice wa wn wk)))) := HR2
  clear HN2 HR2
  exact hQ _ _ _ _ _ _ _ _ _ _ _ _ (Lib.hid ⟨_, _, _, _, _, _, _, _, _, HN.out, HR.out⟩)
end Go.Proofs.YtkaokfmaecdkiaaGreatDoor
namespace Go.Proofs.YtkaokfmaecdkiaaGreatDoor
open Go Go.RowKit Go.Deep

set_option maxRecDepth 100000 in
set_option maxHeartbeats 32000000 in
theorem nreg29 {w : World} (sb R : Nat) (nd : Int) (ln fn wn : Nat) (x1 x2 x4 x5 x6 x7 x8 x9 x10 x11 x12 x13 x14 x15 x16 x17 x18 x19 x20 x21 x22 x23 x24 x25 x26 x27 x28 x29 x30 x31 x32 x33 x34 x35 x36 x37 x38 x39 x40 x41 x42 x43 x44 x45 x46 x47 x48 x49 x50 x51 x52 x53 x54 x55 x56 x57 x58 x59 x60 x61 x62 x63 x64 x65 x66 x67 x68 x69 x70 x71 x72 x73 x74 x75 x76 x77 x78 x79 x80 x81 x82 x83 x84 x85 x86 x87 x88 x89 x90 x91 x92 x93 x94 x95 x96 x97 x98 x99 x100 x101 x102 x103 x104 x105 x106 x107 x108 x109 x110 x111 x112 x113 x114 x115 x116 x117 x118 x119 x120 x121 x122 x123 x124 x125 x126 x127 x128 x129 x130 x131 x132 x133 x134 x135 x136 x137 x138 x139 x140 x141 x142 x143 x144 x145 x146 x147 x148 x149 x150 x151 x152 x153 x154 x155 x156 x157 x158 x159 x160 x161 x162 x163 x164 x165 x166 x167 x168 x169 x170 x171 x172 x173 x174 x175 x176 x177 x178 x179 x180 x181 x182 : Value) (ds : _) (Q : Exit → Act → World → Prop) (W0 : World)
    (HY : Hid (NY w sb R nd ln fn wn W0)) (hnd : 0 ≤ nd ∧ nd ≤ 20) (hln : ln ≤ 200) (hP : ∀ c (a : Act) o v w, Q (.panic c) (a.put o v) w → Q (.panic c) a w)
    (hQ : ∀ (y150 y151 y152 y153 y154 y155 y156 y157 y158 y159 y160 y161 y162 y163 y164 y165 y166 : Value) (WZ : World), Hid (NY w sb R nd (ln + 1) fn wn WZ) → Q .normal { tmps := #[(.pointer (some ⟨sb, 0, none⟩)), x1, x2, (.pointer (some ⟨R, 0, none⟩)), x4, x5, x6, x7, x8, x9, x10, x11, x12, x13, x14, x15, x16, x17, x18, x19, x20, x21, x22, x23, x24, x25, x26, x27, x28, x29, x30, x31, x32, x33, x34, x35, x36, x37, x38, x39, x40, x41, x42, x43, x44, x45, x46, x47, x48, x49, x50, x51, x52, x53, x54, x55, x56, x57, x58, x59, x60, x61, x62, x63, x64, x65, x66, x67, x68, x69, x70, x71, x72, x73, x74, x75, x76, x77, x78, x79, x80, x81, x82, x83, x84, x85, x86, x87, x88, x89, x90, x91, x92, x93, x94, x95, x96, x97, x98, x99, x100, x101, x102, x103, x104, x105, x106, x107, x108, x109, x110, x111, x112, x113, x114, x115, x116, x117, x118, x119, x120, x121, x122, x123, x124, x125, x126, x127, x128, x129, x130, x131, x132, x133, x134, x135, x136, x137, x138, x139, x140, x141, x142, x143, x144, x145, x146, x147, x148, x149, y150, y151, y152, y153, y154, y155, y156, y157, y158, y159, y160, y161, y162, y163, y164, y165, y166, x167, x168, x169, x170, x171, x172, x173, x174, x175, x176, x177, x178, x179, x180, x181, x182], defers := ds } WZ) :
    (Code.region 29 #[{ dst := some 150, op := Op.fieldAddr 27 (Operand.tmp 3) 1, type := 0, pos := "l07_linear.go:232", after := #[], guard := none }, { dst := some 151, op := Op.load 23 (Operand.tmp 150), type := 23, pos := "l07_linear.go:232", after := #[{ on := 0, ground := Ground.data }], guard := none }, { dst := some 152, op := Op.move (Operand.tmp 0), type := 52, pos := "l07_linear.go:232", after := #[], guard := none }, { dst := some 153, op := Op.fieldAddr 27 (Operand.tmp 3) 0, type := 0, pos := "l07_linear.go:232", after := #[], guard := none }, { dst := some 154, op := Op.load 2 (Operand.tmp 153), type := 2, pos := "l07_linear.go:232", after := #[{ on := 3, ground := Ground.data }], guard := none }, { dst := some 155, op := Op.binOp BinOp.add 2 (Operand.tmp 154) (Operand.const (Value.int IntKind.i64 1)) 2, type := 2, pos := "l07_linear.go:232", after := #[{ on := 4, ground := Ground.data }], guard := none }, { dst := some 156, op := Op.call { callee := Callee.value (Operand.func 52), args := #[Operand.tmp 152, Operand.tmp 155], argTypes := #[52, 2] }, type := 2, pos := "l07_linear.go:232", after := #[{ on := 2, ground := Ground.data }, { on := 5, ground := Ground.data }], guard := none }, { dst := some 157, op := Op.move (Operand.tmp 0), type := 52, pos := "l07_linear.go:232", after := #[], guard := none }, { dst := some 158, op := Op.fieldAddr 27 (Operand.tmp 3) 0, type := 0, pos := "l07_linear.go:232", after := #[], guard := none }, { dst := some 159, op := Op.load 2 (Operand.tmp 158), type := 2, pos := "l07_linear.go:232", after := #[{ on := 8, ground := Ground.data }], guard := none }, { dst := some 160, op := Op.call { callee := Callee.value (Operand.func 52), args := #[Operand.tmp 157, Operand.tmp 159], argTypes := #[52, 2] }, type := 2, pos := "l07_linear.go:232", after := #[{ on := 7, ground := Ground.data }, { on := 9, ground := Ground.data }, { on := 6, ground := Ground.chain }], guard := none }, { dst := some 161, op := Op.move (Operand.tmp 0), type := 52, pos := "l07_linear.go:232", after := #[], guard := none }, { dst := some 162, op := Op.call { callee := Callee.value (Operand.func 52), args := #[Operand.tmp 161, Operand.const (Value.int IntKind.i64 3)], argTypes := #[52, 2] }, type := 2, pos := "l07_linear.go:232", after := #[{ on := 11, ground := Ground.data }, { on := 10, ground := Ground.chain }], guard := none }, { dst := some 163, op := Op.build 68 #[(0, Operand.tmp 156), (1, Operand.tmp 160), (2, Operand.tmp 162)], type := 68, pos := "l07_linear.go:232", after := #[{ on := 6, ground := Ground.data }, { on := 10, ground := Ground.data }, { on := 12, ground := Ground.data }], guard := none }, { dst := some 164, op := Op.buildSlice 23 1 #[(0, Operand.tmp 163)], type := 23, pos := "l07_linear.go:232", after := #[{ on := 13, ground := Ground.data }], guard := none }, { dst := some 165, op := Op.call { callee := Callee.builtin Builtin.append, args := #[Operand.tmp 151, Operand.tmp 164], argTypes := #[23, 23] }, type := 23, pos := "l07_linear.go:232", after := #[{ on := 1, ground := Ground.data }, { on := 14, ground := Ground.data }, { on := 12, ground := Ground.chain }], guard := none }, { dst := some 166, op := Op.fieldAddr 27 (Operand.tmp 3) 1, type := 0, pos := "l07_linear.go:232", after := #[{ on := 0, ground := Ground.phase }, { on := 1, ground := Ground.phase }, { on := 2, ground := Ground.phase }, { on := 3, ground := Ground.phase }, { on := 4, ground := Ground.phase }, { on := 5, ground := Ground.phase }, { on := 6, ground := Ground.phase }, { on := 7, ground := Ground.phase }, { on := 8, ground := Ground.phase }, { on := 9, ground := Ground.phase }, { on := 10, ground := Ground.phase }, { on := 11, ground := Ground.phase }, { on := 12, ground := Ground.phase }, { on := 13, ground := Ground.phase }, { on := 14, ground := Ground.phase }, { on := 15, ground := Ground.phase }], guard := none }, { dst := none, op := Op.store 23 (Operand.tmp 166) (Operand.tmp 165), type := 0, pos := "l07_linear.go:232", after := #[{ on := 16, ground := Ground.data }, { on := 15, ground := Ground.data }, { on := 15, ground := Ground.chain }, { on := 0, ground := Ground.phase }, { on := 1, ground := Ground.phase }, { on := 2, ground := Ground.phase }, { on := 3, ground := Ground.phase }, { on := 4, ground := Ground.phase }, { on := 5, ground := Ground.phase }, { on := 6, ground := Ground.phase }, { on := 7, ground := Ground.phase }, { on := 8, ground := Ground.phase }, { on := 9, ground := Ground.phase }, { on := 10, ground := Ground.phase }, { on := 11, ground := Ground.phase }, { on := 12, ground := Ground.phase }, { on := 13, ground := Ground.phase }, { on := 14, ground := Ground.phase }, { on := 15, ground := Ground.phase }], guard := none }] true).wp Tryz.prog Q { tmps := #[(.pointer (some ⟨sb, 0, none⟩)), x1, x2, (.pointer (some ⟨R, 0, none⟩)), x4, x5, x6, x7, x8, x9, x10, x11, x12, x13, x14, x15, x16, x17, x18, x19, x20, x21, x22, x23, x24, x25, x26, x27, x28, x29, x30, x31, x32, x33, x34, x35, x36, x37, x38, x39, x40, x41, x42, x43, x44, x45, x46, x47, x48, x49, x50, x51, x52, x53, x54, x55, x56, x57, x58, x59, x60, x61, x62, x63, x64, x65, x66, x67, x68, x69, x70, x71, x72, x73, x74, x75, x76, x77, x78, x79, x80, x81, x82, x83, x84, x85, x86, x87, x88, x89, x90, x91, x92, x93, x94, x95, x96, x97, x98, x99, x100, x101, x102, x103, x104, x105, x106, x107, x108, x109, x110, x111, x112, x113, x114, x115, x116, x117, x118, x119, x120, x121, x122, x123, x124, x125, x126, x127, x128, x129, x130, x131, x132, x133, x134, x135, x136, x137, x138, x139, x140, x141, x142, x143, x144, x145, x146, x147, x148, x149, x150, x151, x152, x153, x154, x155, x156, x157, x158, x159, x160, x161, x162, x163, x164, x165, x166, x167, x168, x169, x170, x171, x172, x173, x174, x175, x176, x177, x178, x179, x180, x181, x182], defers := ds } W0 := by
  obtain ⟨li0, hli0, hli1, hli2, hli3⟩ := info_parts linfo
  obtain ⟨fi0, hfi0, hfi1, hfi2, hfi3⟩ := info_parts finfo
  obtain ⟨wi0, hwi0, hwi1, hwi2, hwi3⟩ := info_parts winfo
  obtain ⟨la, lk, fa, fk, wa, wk, ls, fs, ws, hN, hR⟩ := HY.out
  have HN := Lib.hid hN
  have HR := Lib.hid hR
  clear hN hR HY
  refine region_L (fun V => V.rowIs R 27 4 (rowN (ndR nd (.slice la ln lk) (.slice fa fn fk) (.slice wa wn wk)))) 17 (by kernel_rfl) (HR.out.of_block rfl) (fun hHeld => ?_)
  obtain ⟨Z33, hZ33⟩ : ∃ Z, Z = W0.drew := ⟨_, rfl⟩
  replace HN := Lib.hid (HN.out.below (Below.refl _ _).drew)
  replace HR := Lib.hid (nrow_below HR.out (Below.refl _ _).drew)
  rw [← hZ33] at hHeld HN HR ⊢
  clear hZ33
  refine takeL_do (i := 0) (v := (.pointer (some ⟨R, 1, none⟩))) rfl (by kernel_rfl) (by kernel_rfl) (by kernel_rfl) (by kernel_rfl) (fun _ _ _ h => hP _ _ _ _ _ h) (by rfl) ?_ (by assumption) ?_
  · intro w hSw
    skip
    go_simp
  simp only [Act.put, List.setIfInBounds_toArray, List.set_cons_zero, List.set_cons_succ]
  refine takeL_do (i := 1) (v := (.slice la ln lk)) rfl (by kernel_rfl) (by kernel_rfl) (by kernel_rfl) (by kernel_rfl) (fun _ _ _ h => hP _ _ _ _ _ h) (by rfl) ?_ (by assumption) ?_
  · intro w hSw
    obtain ⟨⟨x0, x1, x2, x3⟩, _⟩ := rowN4 hSw
    go_simp
  simp only [Act.put, List.setIfInBounds_toArray, List.set_cons_zero, List.set_cons_succ]
  refine takeL_do (i := 2) (v := (.pointer (some ⟨sb, 0, none⟩))) rfl (by kernel_rfl) (by kernel_rfl) (by kernel_rfl) (by kernel_rfl) (fun _ _ _ h => hP _ _ _ _ _ h) (by rfl) ?_ (by assumption) ?_
  · intro w hSw
    skip
    go_simp
  simp only [Act.put, List.setIfInBounds_toArray, List.set_cons_zero, List.set_cons_succ]
  refine takeL_do (i := 3) (v := (.pointer (some ⟨R, 0, none⟩))) rfl (by kernel_rfl) (by kernel_rfl) (by kernel_rfl) (by kernel_rfl) (fun _ _ _ h => hP _ _ _ _ _ h) (by rfl) ?_ (by assumption) ?_
  · intro w hSw
    skip
    go_simp
  simp only [Act.put, List.setIfInBounds_toArray, List.set_cons_zero, List.set_cons_succ]
  refine takeL_do (i := 4) (v := (.int .i64 nd)) rfl (by kernel_rfl) (by kernel_rfl) (by kernel_rfl) (by kernel_rfl) (fun _ _ _ h => hP _ _ _ _ _ h) (by rfl) ?_ (by assumption) ?_
  · intro w hSw
    obtain ⟨⟨x0, x1, x2, x3⟩, _⟩ := rowN4 hSw
    go_simp
  simp only [Act.put, List.setIfInBounds_toArray, List.set_cons_zero, List.set_cons_succ]
  refine takeL_do (i := 5) (v := (.int .i64 (nd + 1))) rfl (by kernel_rfl) (by kernel_rfl) (by kernel_rfl) (by kernel_rfl) (fun _ _ _ h => hP _ _ _ _ _ h) (by rfl) ?_ (by assumption) ?_
  · intro w hSw
    have hwr : IntKind.i64.wrap (nd + 1) = nd + 1 := md_wrap (by omega) (by omega)
    go_simp
  simp only [Act.put, List.setIfInBounds_toArray, List.set_cons_zero, List.set_cons_succ]
  refine takeL_do (i := 7) (v := (.pointer (some ⟨sb, 0, none⟩))) rfl (by kernel_rfl) (by kernel_rfl) (by kernel_rfl) (by kernel_rfl) (fun _ _ _ h => hP _ _ _ _ _ h) (by rfl) ?_ (by assumption) ?_
  · intro w hSw
    skip
    go_simp
  simp only [Act.put, List.setIfInBounds_toArray, List.set_cons_zero, List.set_cons_succ]
  refine takeL_do (i := 8) (v := (.pointer (some ⟨R, 0, none⟩))) rfl (by kernel_rfl) (by kernel_rfl) (by kernel_rfl) (by kernel_rfl) (fun _ _ _ h => hP _ _ _ _ _ h) (by rfl) ?_ (by assumption) ?_
  · intro w hSw
    skip
    go_simp
  simp only [Act.put, List.setIfInBounds_toArray, List.set_cons_zero, List.set_cons_succ]
  refine takeL_do (i := 9) (v := (.int .i64 nd)) rfl (by kernel_rfl) (by kernel_rfl) (by kernel_rfl) (by kernel_rfl) (fun _ _ _ h => hP _ _ _ _ _ h) (by rfl) ?_ (by assumption) ?_
  · intro w hSw
    obtain ⟨⟨x0, x1, x2, x3⟩, _⟩ := rowN4 hSw
    go_simp
  simp only [Act.put, List.setIfInBounds_toArray, List.set_cons_zero, List.set_cons_succ]
  refine takeL_do (i := 11) (v := (.pointer (some ⟨sb, 0, none⟩))) rfl (by kernel_rfl) (by kernel_rfl) (by kernel_rfl) (by kernel_rfl) (fun _ _ _ h => hP _ _ _ _ _ h) (by rfl) ?_ (by assumption) ?_
  · intro w hSw
    skip
    go_simp
  simp only [Act.put, List.setIfInBounds_toArray, List.set_cons_zero, List.set_cons_succ]
  refine takeL_call (i := 6) rfl (by kernel_rfl) (fun K2 hK => ?_)
  go_simp
  refine (n_any sb (nd + 1) _ HN.out.src.1 (by omega)).mono ?_
  rintro e Z34 ⟨⟨f, rfl, f0, f1, f2⟩, hD⟩
  replace HR := Lib.hid (md_chg HR.out (by have := HN.out.rl; have := HN.out.sbl; omega) hD.2)
  replace HN := Lib.hid (HN.out.draw hD)
  clear hD f1 f2
  go_wp2_with fail
  refine hK.out _ _ HR.out (fun hHeld2 => ?_)
  clear hK hHeld
  have hHeld := hHeld2
  clear hHeld2
  refine takeL_call (i := 10) rfl (by kernel_rfl) (fun K2 hK => ?_)
  go_simp
  refine (n_any sb nd _ HN.out.src.1 (by omega)).mono ?_
  rintro e Z35 ⟨⟨g, rfl, g0, g1, g2⟩, hD⟩
  replace HR := Lib.hid (md_chg HR.out (by have := HN.out.rl; have := HN.out.sbl; omega) hD.2)
  replace HN := Lib.hid (HN.out.draw hD)
  clear hD g1 g2
  go_wp2_with fail
  refine hK.out _ _ HR.out (fun hHeld2 => ?_)
  clear hK hHeld
  have hHeld := hHeld2
  clear hHeld2
  refine takeL_call (i := 12) rfl (by kernel_rfl) (fun K2 hK => ?_)
  go_simp
  refine (n_any sb 3 _ HN.out.src.1 (by omega)).mono ?_
  rintro e Z36 ⟨⟨h, rfl, h0, h1, h2⟩, hD⟩
  replace HR := Lib.hid (md_chg HR.out (by have := HN.out.rl; have := HN.out.sbl; omega) hD.2)
  replace HN := Lib.hid (HN.out.draw hD)
  clear hD h1 h2
  go_wp2_with fail
  refine hK.out _ _ HR.out (fun hHeld2 => ?_)
  clear hK hHeld
  have hHeld := hHeld2
  clear hHeld2
  refine takeL_do (i := 13) (v := (.agg #[.int .i64 f, .int .i64 g, .int .i64 h])) rfl (by kernel_rfl) (by kernel_rfl) (by kernel_rfl) (by kernel_rfl) (fun _ _ _ h => hP _ _ _ _ _ h) (by rfl) ?_ (by assumption) ?_
  · intro w hSw
    skip
    go_simp
  simp only [Act.put, List.setIfInBounds_toArray, List.set_cons_zero, List.set_cons_succ]
  refine takeL_call (i := 14) rfl (by kernel_rfl) (fun K2 hK => ?_)
  obtain ⟨Z37, hZ37⟩ : ∃ Z, Z = Z36.alloc (.cells #[.int .i64 f, .int .i64 g, .int .i64 h] 68) := ⟨_, rfl⟩
  have hb : Below Z36.heap.size Z36 Z37 := by rw [hZ37]; exact nbel_alloc _ _
  obtain ⟨gs, hgs⟩ : ∃ gs, gs = Z36.heap.size := ⟨_, rfl⟩
  have HL : Hid (∀ j u, [Value.int .i64 f, .int .i64 g, .int .i64 h][j]? = some u → Z37.cell? ((⟨gs, 0, none⟩ : Addr).add j) = some u) := by
    rw [hZ37, hgs]; exact ncells3 _ _ _ _ _
  replace HN := Lib.hid (HN.out.below hb)
  replace HR := Lib.hid (nrow_below HR.out hb)
  go_simp
  rw [← hZ37, ← hgs]
  refine hK.out _ _ HR.out (fun hHeld2 => ?_)
  clear hK hHeld
  have hHeld := hHeld2
  clear hHeld2
  clear hb hZ37 hgs
  refine takeL_call (i := 15) rfl (by kernel_rfl) (fun K2 hK => ?_)
  refine mdap rfl (.tmp 151) (.tmp 164) 23 rfl w.heap.size 68 li0 (.agg #[.int .i64 0, .int .i64 0, .int .i64 0]) 3 24 Tryz.underlying23 hli0 hli1 hli2 hli3 rfl (by decide) _ ln _ rfl HN.out.lo ⟨gs, 0, none⟩ 1 1 [.int .i64 f, .int .i64 g, .int .i64 h] rfl rfl HL.out ?_ (by unfold maxLen; omega) (by omega) HN.out.src.2.size ?_
  · intro u hu; simp at hu; rcases hu with rfl | rfl | rfl <;> rfl
  intro v' Z38 hown hgrow
  obtain ⟨a8, c8, rfl⟩ := lpown_shape hown
  replace HR := Lib.hid (md_row HR.out HN.out.lo (by decide) hgrow)
  replace HN := Lib.hid (HN.out.app_l (zs := [(f : Int), (g : Int), (h : Int)]) hgrow hown)
  refine hK.out _ _ HR.out (fun hHeld2 => ?_)
  clear hK hHeld hown hgrow HL
  have hHeld := hHeld2
  clear hHeld2
  simp only [Act.put, List.setIfInBounds_toArray, List.set_cons_zero, List.set_cons_succ]
  refine takeL_do (i := 16) (v := (.pointer (some ⟨R, 1, none⟩))) rfl (by kernel_rfl) (by kernel_rfl) (by kernel_rfl) (by kernel_rfl) (fun _ _ _ h => hP _ _ _ _ _ h) (by rfl) ?_ (by assumption) ?_
  · intro w hSw
    skip
    go_simp
  simp only [Act.put, List.setIfInBounds_toArray, List.set_cons_zero, List.set_cons_succ]
  obtain ⟨⟨o0, o1, o2, o3⟩, z0, z1, z2, z3⟩ := rowN4 HR.out
  have l0 := HR.out.lt
  obtain ⟨Z39, hZ39⟩ : ∃ WZ, WZ = Z38.setCell ⟨R, 1, none⟩ (.slice a8 (ln + 1) c8) := ⟨_, rfl⟩
  have HN2 := Lib.hid (HN.out.set HR.out (i := 1) (.slice a8 (ln + 1) c8))
  have HR2 := Lib.hid (rowN_put HR.out 1 (.slice a8 (ln + 1) c8) (by simp))
  rw [← hZ39] at HN2 HR2
  have HWZ := Lib.hid hZ39
  clear hZ39
  refine takeL_last rfl (by kernel_rfl) (by kernel_rfl) (fun K2 hK => ?_)
  go_simp
  rw [← HWZ.out]
  refine hK.out _ _ ?_
  clear hK hHeld HWZ o0 o1 o2 o3 z0 z1 z2 z3 l0 HN HR
  have HN := HN2
  have HR : Hid (Z39.rowIs R 27 4 (rowN (ndR nd (.slice a8 (ln + 1) c8) (.slice fa fn fk) (.slice wa wn wk)))) := HR2
  clear HN2 HR2
  exact hQ _ _ _ _ _ _ _ _ _ _ _ _ _ _ _ _ _ _ (Lib.hid ⟨_, _, _, _, _, _, _, _, _, HN.out, HR.out⟩)
end Go.Proofs.YtkaokfmaecdkiaaGreatDoor
namespace Go.Proofs.YtkaokfmaecdkiaaGreatDoor
open Go Go.RowKit Go.Deep

set_option maxRecDepth 100000 in
set_option maxHeartbeats 32000000 in
theorem nreg33 {w : World} (sb R : Nat) (nd : Int) (ln fn wn : Nat) (x1 x2 x4 x5 x6 x7 x8 x9 x10 x11 x12 x13 x14 x15 x16 x17 x18 x19 x20 x21 x22 x23 x24 x25 x26 x27 x28 x29 x30 x31 x32 x33 x34 x35 x36 x37 x38 x39 x40 x41 x42 x43 x44 x45 x46 x47 x48 x49 x50 x51 x52 x53 x54 x55 x56 x57 x58 x59 x60 x61 x62 x63 x64 x65 x66 x67 x68 x69 x70 x71 x72 x73 x74 x75 x76 x77 x78 x79 x80 x81 x82 x83 x84 x85 x86 x87 x88 x89 x90 x91 x92 x93 x94 x95 x96 x97 x98 x99 x100 x101 x102 x103 x104 x105 x106 x107 x108 x109 x110 x111 x112 x113 x114 x115 x116 x117 x118 x119 x120 x121 x122 x123 x124 x125 x126 x127 x128 x129 x130 x131 x132 x133 x134 x135 x136 x137 x138 x139 x140 x141 x142 x143 x144 x145 x146 x147 x148 x149 x150 x151 x152 x153 x154 x155 x156 x157 x158 x159 x160 x161 x162 x163 x164 x165 x166 x167 x168 x169 x170 x171 x172 x173 x174 x175 x176 x177 x178 x179 x180 x181 x182 : Value) (ds : _) (Q : Exit → Act → World → Prop) (W0 : World)
    (HY : Hid (NY w sb R nd ln fn wn W0)) (hwn0 : 0 < wn) (hln : ln ≤ 200) (hfn : fn ≤ 200) (hwn : wn ≤ 200) (hP : ∀ c (a : Act) o v w, Q (.panic c) (a.put o v) w → Q (.panic c) a w)
    (hQ : ∀ (y174 y175 y176 y177 y178 y179 y180 y181 : Value) (WZ : World), Hid (NF w sb R WZ) → Q .normal { tmps := #[(.pointer (some ⟨sb, 0, none⟩)), x1, x2, (.pointer (some ⟨R, 0, none⟩)), x4, x5, x6, x7, x8, x9, x10, x11, x12, x13, x14, x15, x16, x17, x18, x19, x20, x21, x22, x23, x24, x25, x26, x27, x28, x29, x30, x31, x32, x33, x34, x35, x36, x37, x38, x39, x40, x41, x42, x43, x44, x45, x46, x47, x48, x49, x50, x51, x52, x53, x54, x55, x56, x57, x58, x59, x60, x61, x62, x63, x64, x65, x66, x67, x68, x69, x70, x71, x72, x73, x74, x75, x76, x77, x78, x79, x80, x81, x82, x83, x84, x85, x86, x87, x88, x89, x90, x91, x92, x93, x94, x95, x96, x97, x98, x99, x100, x101, x102, x103, x104, x105, x106, x107, x108, x109, x110, x111, x112, x113, x114, x115, x116, x117, x118, x119, x120, x121, x122, x123, x124, x125, x126, x127, x128, x129, x130, x131, x132, x133, x134, x135, x136, x137, x138, x139, x140, x141, x142, x143, x144, x145, x146, x147, x148, x149, x150, x151, x152, x153, x154, x155, x156, x157, x158, x159, x160, x161, x162, x163, x164, x165, x166, x167, x168, x169, x170, x171, x172, x173, y174, y175, y176, y177, y178, y179, y180, y181, x182], defers := ds } WZ) :
    (Code.region 33 #[{ dst := some 174, op := Op.fieldAddr 27 (Operand.tmp 3) 3, type := 0, pos := "l07_linear.go:236", after := #[], guard := none }, { dst := some 175, op := Op.load 25 (Operand.tmp 174), type := 25, pos := "l07_linear.go:236", after := #[{ on := 0, ground := Ground.data }], guard := none }, { dst := some 176, op := Op.buildSlice 25 3 #[(0, Operand.const (Value.int IntKind.i64 1000000)), (1, Operand.const (Value.int IntKind.i64 1000001)), (2, Operand.const (Value.int IntKind.i64 (-1000001)))], type := 25, pos := "l07_linear.go:236", after := #[], guard := none }, { dst := some 177, op := Op.move (Operand.tmp 0), type := 52, pos := "l07_linear.go:236", after := #[], guard := none }, { dst := some 178, op := Op.call { callee := Callee.value (Operand.func 52), args := #[Operand.tmp 177, Operand.const (Value.int IntKind.i64 3)], argTypes := #[52, 2] }, type := 2, pos := "l07_linear.go:236", after := #[{ on := 3, ground := Ground.data }], guard := none }, { dst := some 179, op := Op.indexAddr 25 (Operand.tmp 176) (Operand.tmp 178), type := 0, pos := "l07_linear.go:236", after := #[{ on := 2, ground := Ground.data }, { on := 4, ground := Ground.data }], guard := none }, { dst := some 180, op := Op.load 2 (Operand.tmp 179), type := 2, pos := "l07_linear.go:236", after := #[{ on := 5, ground := Ground.data }], guard := none }, { dst := some 181, op := Op.indexAddr 25 (Operand.tmp 175) (Operand.const (Value.int IntKind.i64 0)), type := 0, pos := "l07_linear.go:236", after := #[{ on := 1, ground := Ground.data }, { on := 0, ground := Ground.phase }, { on := 1, ground := Ground.phase }, { on := 2, ground := Ground.phase }, { on := 3, ground := Ground.phase }, { on := 4, ground := Ground.phase }, { on := 5, ground := Ground.phase }, { on := 6, ground := Ground.phase }], guard := none }, { dst := none, op := Op.store 2 (Operand.tmp 181) (Operand.tmp 180), type := 0, pos := "l07_linear.go:236", after := #[{ on := 7, ground := Ground.data }, { on := 6, ground := Ground.data }, { on := 4, ground := Ground.chain }, { on := 0, ground := Ground.phase }, { on := 1, ground := Ground.phase }, { on := 2, ground := Ground.phase }, { on := 3, ground := Ground.phase }, { on := 4, ground := Ground.phase }, { on := 5, ground := Ground.phase }, { on := 6, ground := Ground.phase }], guard := none }] true).wp Tryz.prog Q { tmps := #[(.pointer (some ⟨sb, 0, none⟩)), x1, x2, (.pointer (some ⟨R, 0, none⟩)), x4, x5, x6, x7, x8, x9, x10, x11, x12, x13, x14, x15, x16, x17, x18, x19, x20, x21, x22, x23, x24, x25, x26, x27, x28, x29, x30, x31, x32, x33, x34, x35, x36, x37, x38, x39, x40, x41, x42, x43, x44, x45, x46, x47, x48, x49, x50, x51, x52, x53, x54, x55, x56, x57, x58, x59, x60, x61, x62, x63, x64, x65, x66, x67, x68, x69, x70, x71, x72, x73, x74, x75, x76, x77, x78, x79, x80, x81, x82, x83, x84, x85, x86, x87, x88, x89, x90, x91, x92, x93, x94, x95, x96, x97, x98, x99, x100, x101, x102, x103, x104, x105, x106, x107, x108, x109, x110, x111, x112, x113, x114, x115, x116, x117, x118, x119, x120, x121, x122, x123, x124, x125, x126, x127, x128, x129, x130, x131, x132, x133, x134, x135, x136, x137, x138, x139, x140, x141, x142, x143, x144, x145, x146, x147, x148, x149, x150, x151, x152, x153, x154, x155, x156, x157, x158, x159, x160, x161, x162, x163, x164, x165, x166, x167, x168, x169, x170, x171, x172, x173, x174, x175, x176, x177, x178, x179, x180, x181, x182], defers := ds } W0 := by
  obtain ⟨li0, hli0, hli1, hli2, hli3⟩ := info_parts linfo
  obtain ⟨fi0, hfi0, hfi1, hfi2, hfi3⟩ := info_parts finfo
  obtain ⟨wi0, hwi0, hwi1, hwi2, hwi3⟩ := info_parts winfo
  obtain ⟨la, lk, fa, fk, wa, wk, ls, fs, ws, hN, hR⟩ := HY.out
  have HN := Lib.hid hN
  have HR := Lib.hid hR
  clear hN hR HY
  obtain ⟨gw, rfl⟩ : ∃ gw, wa = some ⟨gw, 0, none⟩ := by
    rcases HN.out.wo.2 with ⟨e1, _⟩ | ⟨g, cap, cur, e1, _⟩
    · injection e1 with e1 e2
      omega
    · injection e1 with e1
      exact ⟨g, e1⟩
  refine region_L (fun V => V.rowIs R 27 4 (rowN (ndR nd (.slice la ln lk) (.slice fa fn fk) (.slice (some ⟨gw, 0, none⟩) wn wk)))) 8 (by kernel_rfl) (HR.out.of_block rfl) (fun hHeld => ?_)
  obtain ⟨Z51, hZ51⟩ : ∃ Z, Z = W0.drew := ⟨_, rfl⟩
  replace HN := Lib.hid (HN.out.below (Below.refl _ _).drew)
  replace HR := Lib.hid (nrow_below HR.out (Below.refl _ _).drew)
  rw [← hZ51] at hHeld HN HR ⊢
  clear hZ51
  refine takeL_do (i := 0) (v := (.pointer (some ⟨R, 3, none⟩))) rfl (by kernel_rfl) (by kernel_rfl) (by kernel_rfl) (by kernel_rfl) (fun _ _ _ h => hP _ _ _ _ _ h) (by rfl) ?_ (by assumption) ?_
  · intro w hSw
    skip
    go_simp
  simp only [Act.put, List.setIfInBounds_toArray, List.set_cons_zero, List.set_cons_succ]
  refine takeL_do (i := 1) (v := (.slice (some ⟨gw, 0, none⟩) wn wk)) rfl (by kernel_rfl) (by kernel_rfl) (by kernel_rfl) (by kernel_rfl) (fun _ _ _ h => hP _ _ _ _ _ h) (by rfl) ?_ (by assumption) ?_
  · intro w hSw
    obtain ⟨⟨x0, x1, x2, x3⟩, _⟩ := rowN4 hSw
    go_simp
  simp only [Act.put, List.setIfInBounds_toArray, List.set_cons_zero, List.set_cons_succ]
  refine takeL_do (i := 3) (v := (.pointer (some ⟨sb, 0, none⟩))) rfl (by kernel_rfl) (by kernel_rfl) (by kernel_rfl) (by kernel_rfl) (fun _ _ _ h => hP _ _ _ _ _ h) (by rfl) ?_ (by assumption) ?_
  · intro w hSw
    skip
    go_simp
  simp only [Act.put, List.setIfInBounds_toArray, List.set_cons_zero, List.set_cons_succ]
  refine L_ready (rs := [2, 4]) (by kernel_rfl) (by simp) (AllL.cons rfl (fun K2 hK => ?_) (AllL.cons rfl (fun K2 hK => ?_) AllL.nil))
  · obtain ⟨Z52, hZ52⟩ : ∃ Z, Z = Z51.alloc (.cells #[.int .i64 1000000, .int .i64 1000001, .int .i64 (-1000001)] 2) := ⟨_, rfl⟩
    have hb : Below Z51.heap.size Z51 Z52 := by rw [hZ52]; exact nbel_alloc _ _
    obtain ⟨gl, hgl⟩ : ∃ gl, gl = Z51.heap.size := ⟨_, rfl⟩
    have HLT : Hid (Z52.rowIs gl 2 3 (rowN [.int .i64 1000000, .int .i64 1000001, .int .i64 (-1000001)])) := by show World.rowIs _ _ _ _ _; rw [hZ52, hgl]; exact rowN_alloc _ _ _
    have HGL : Hid (w.heap.size ≤ gl) := by show _ ≤ _; rw [hgl]; exact HN.out.src.2.2.2.2.1
    replace HN := Lib.hid (HN.out.below hb)
    replace HR := Lib.hid (nrow_below HR.out hb)
    go_simp
    rw [← hZ52, ← hgl]
    refine hK.out _ _ HR.out (fun hHeld2 => ?_)
    clear hK hHeld
    have hHeld := hHeld2
    clear hHeld2
    clear hb hZ52 hgl
    refine takeL_call (i := 4) rfl (by kernel_rfl) (fun K2 hK => ?_)
    go_simp
    refine (n_any sb 3 _ HN.out.src.1 (by omega)).mono ?_
    rintro e Z53 ⟨⟨u, rfl, u0, u1, u2⟩, hD⟩
    have hu3 : u < 3 := u1 (by omega)
    replace HR := Lib.hid (md_chg HR.out (by have := HN.out.rl; have := HN.out.sbl; omega) hD.2)
    replace HLT := Lib.hid (md_chg HLT.out (by have := HGL.out; have := HN.out.sbl; omega) hD.2)
    replace HN := Lib.hid (HN.out.draw hD)
    clear hD u1 u2
    go_wp2_with fail
    refine hK.out _ _ HR.out (fun hHeld2 => ?_)
    clear hK hHeld
    have hHeld := hHeld2
    clear hHeld2
    obtain ⟨U, hU, hU3⟩ : ∃ U : Nat, u = (U : Int) ∧ U < 3 := ⟨u.toNat, by omega, by omega⟩
    subst hU
    have hUz : (U : Int) < 3 := by omega
    obtain ⟨yv, hyv⟩ : ∃ yv : Int, Z53.cell? ⟨gl, U, none⟩ = some (.int .i64 yv) := by
      have q := HLT.out.cell (i := U) (by omega)
      rcases (show U = 0 ∨ U = 1 ∨ U = 2 by omega) with rfl | rfl | rfl <;> exact ⟨_, q⟩
    refine takeL_do (i := 5) (v := (.pointer (some ⟨gl, U, none⟩))) rfl (by kernel_rfl) (by kernel_rfl) (by kernel_rfl) (by kernel_rfl) (fun _ _ _ h => hP _ _ _ _ _ h) (by rfl) ?_ (by assumption) ?_
    · intro w hSw
      skip
      go_simp
    simp only [Act.put, List.setIfInBounds_toArray, List.set_cons_zero, List.set_cons_succ]
    refine takeL_call (i := 6) rfl (by kernel_rfl) (fun K2 hK => ?_)
    go_simp
    refine hK.out _ _ HR.out (fun hHeld2 => ?_)
    clear hK hHeld
    have hHeld := hHeld2
    clear hHeld2
    clear hyv HLT
    refine takeL_do (i := 7) (v := (.pointer (some ⟨gw, 0, none⟩))) rfl (by kernel_rfl) (by kernel_rfl) (by kernel_rfl) (by kernel_rfl) (fun _ _ _ h => hP _ _ _ _ _ h) (by rfl) ?_ (by assumption) ?_
    · intro w hSw
      skip
      go_simp
    simp only [Act.put, List.setIfInBounds_toArray, List.set_cons_zero, List.set_cons_succ]
    obtain ⟨FW, cw, k1, k2, k3, k4, k5⟩ := nd_first HN.out HR.out hwn0
    obtain ⟨Z54, hZ54⟩ : ∃ WZ, WZ = Z53.setCell ⟨gw, 0, none⟩ (.int .i64 yv) := ⟨_, rfl⟩
    have HF : Hid (NF w sb R Z54) := by show NF _ _ _ _; rw [hZ54]; exact k5 yv (by omega) (by omega) (by omega)
    have HWZ := Lib.hid hZ54
    clear hZ54 k5
    refine takeL_last rfl (by kernel_rfl) (by kernel_rfl) (fun K2 hK => ?_)
    go_simp
    rw [← HWZ.out]
    refine hK.out _ _ ?_
    clear hK hHeld HWZ HN HR k2 k3 k4
    exact hQ _ _ _ _ _ _ _ _ _ HF
  · go_simp
    refine (n_any sb 3 _ HN.out.src.1 (by omega)).mono ?_
    rintro e Z55 ⟨⟨u, rfl, u0, u1, u2⟩, hD⟩
    have hu3 : u < 3 := u1 (by omega)
    replace HR := Lib.hid (md_chg HR.out (by have := HN.out.rl; have := HN.out.sbl; omega) hD.2)
    replace HN := Lib.hid (HN.out.draw hD)
    clear hD u1 u2
    go_wp2_with fail
    refine hK.out _ _ HR.out (fun hHeld2 => ?_)
    clear hK hHeld
    have hHeld := hHeld2
    clear hHeld2
    refine takeL_call (i := 2) rfl (by kernel_rfl) (fun K2 hK => ?_)
    obtain ⟨Z56, hZ56⟩ : ∃ Z, Z = Z55.alloc (.cells #[.int .i64 1000000, .int .i64 1000001, .int .i64 (-1000001)] 2) := ⟨_, rfl⟩
    have hb : Below Z55.heap.size Z55 Z56 := by rw [hZ56]; exact nbel_alloc _ _
    obtain ⟨gl, hgl⟩ : ∃ gl, gl = Z55.heap.size := ⟨_, rfl⟩
    have HLT : Hid (Z56.rowIs gl 2 3 (rowN [.int .i64 1000000, .int .i64 1000001, .int .i64 (-1000001)])) := by show World.rowIs _ _ _ _ _; rw [hZ56, hgl]; exact rowN_alloc _ _ _
    have HGL : Hid (w.heap.size ≤ gl) := by show _ ≤ _; rw [hgl]; exact HN.out.src.2.2.2.2.1
    replace HN := Lib.hid (HN.out.below hb)
    replace HR := Lib.hid (nrow_below HR.out hb)
    go_simp
    rw [← hZ56, ← hgl]
    refine hK.out _ _ HR.out (fun hHeld2 => ?_)
    clear hK hHeld
    have hHeld := hHeld2
    clear hHeld2
    clear hb hZ56 hgl
    obtain ⟨U, hU, hU3⟩ : ∃ U : Nat, u = (U : Int) ∧ U < 3 := ⟨u.toNat, by omega, by omega⟩
    subst hU
    have hUz : (U : Int) < 3 := by omega
    obtain ⟨yv, hyv⟩ : ∃ yv : Int, Z56.cell? ⟨gl, U, none⟩ = some (.int .i64 yv) := by
      have q := HLT.out.cell (i := U) (by omega)
      rcases (show U = 0 ∨ U = 1 ∨ U = 2 by omega) with rfl | rfl | rfl <;> exact ⟨_, q⟩
    refine takeL_do (i := 5) (v := (.pointer (some ⟨gl, U, none⟩))) rfl (by kernel_rfl) (by kernel_rfl) (by kernel_rfl) (by kernel_rfl) (fun _ _ _ h => hP _ _ _ _ _ h) (by rfl) ?_ (by assumption) ?_
    · intro w hSw
      skip
      go_simp
    simp only [Act.put, List.setIfInBounds_toArray, List.set_cons_zero, List.set_cons_succ]
    refine takeL_call (i := 6) rfl (by kernel_rfl) (fun K2 hK => ?_)
    go_simp
    refine hK.out _ _ HR.out (fun hHeld2 => ?_)
    clear hK hHeld
    have hHeld := hHeld2
    clear hHeld2
    clear hyv HLT
    refine takeL_do (i := 7) (v := (.pointer (some ⟨gw, 0, none⟩))) rfl (by kernel_rfl) (by kernel_rfl) (by kernel_rfl) (by kernel_rfl) (fun _ _ _ h => hP _ _ _ _ _ h) (by rfl) ?_ (by assumption) ?_
    · intro w hSw
      skip
      go_simp
    simp only [Act.put, List.setIfInBounds_toArray, List.set_cons_zero, List.set_cons_succ]
    obtain ⟨FW, cw, k1, k2, k3, k4, k5⟩ := nd_first HN.out HR.out hwn0
    obtain ⟨Z57, hZ57⟩ : ∃ WZ, WZ = Z56.setCell ⟨gw, 0, none⟩ (.int .i64 yv) := ⟨_, rfl⟩
    have HF : Hid (NF w sb R Z57) := by show NF _ _ _ _; rw [hZ57]; exact k5 yv (by omega) (by omega) (by omega)
    have HWZ := Lib.hid hZ57
    clear hZ57 k5
    refine takeL_last rfl (by kernel_rfl) (by kernel_rfl) (fun K2 hK => ?_)
    go_simp
    rw [← HWZ.out]
    refine hK.out _ _ ?_
    clear hK hHeld HWZ HN HR k2 k3 k4
    exact hQ _ _ _ _ _ _ _ _ _ HF
end Go.Proofs.YtkaokfmaecdkiaaGreatDoor
namespace Go.Proofs.YtkaokfmaecdkiaaGreatDoor
open Go Go.RowKit Go.Deep

theorem ndmin_any (a b : Int) (w : World) : Calls Tryz.prog 54 #[.int .i64 a, .int .i64 b] w fun e w' => e = .returned (.int .i64 (min a b)) ∧ w' = w := by
  by_cases h : a < b
  · have HE : Hid (min a b = a) := by show _ = _; omega
    go_enter Tryz.func54, Tryz.ntmps54
    go_wp2_with fail
    go_ret
    exact ⟨by rw [HE.out]; rfl, rfl⟩
  · have HE : Hid (min a b = b) := by show _ = _; omega
    go_enter Tryz.func54, Tryz.ntmps54
    go_wp2_with fail
    go_ret
    exact ⟨by rw [HE.out]; rfl, rfl⟩
/-- How many links there are. -/
def nlen (R : Nat) (W : World) : Nat := match W.cell? ⟨R, 1, none⟩ with
  | some (.slice _ n _) => n
  | _ => 0
theorem NY.len {w : World} {sb R : Nat} {nd : Int} {ln fn wn : Nat} {W : World} (h : NY w sb R nd ln fn wn W) : nlen R W = ln := by
  obtain ⟨la, lk, fa, fk, wa, wk, ls, fs, ws, h1, h2⟩ := h
  have c := h2.cell (i := 1) (by omega)
  unfold nlen
  rw [c]
  rfl
set_option maxRecDepth 100000 in
set_option maxHeartbeats 16000000 in
theorem dnet_any (sb : Nat) (w : World) (hS : Src sb w) :
    Calls Tryz.prog 20 #[.pointer (some ⟨sb, 0, none⟩)] w fun e w' => NdEnd w sb e w' := by
  obtain ⟨wi0, hwi0, hwi1, hwi2, hwi3⟩ := info_parts winfo
  have hsb := hS.lt
  obtain ⟨W0, hW0⟩ : ∃ W0, W0 = w.alloc (.cells #[.int .i64 0, .slice none 0 0, .slice none 0 0, .slice none 0 0] 27) := ⟨_, rfl⟩
  have hb : Below w.heap.size w W0 := by rw [hW0]; exact nbel_alloc _ _
  have HSR : Hid (Drew sb w W0) := ⟨hS.below hb, Chg.of_below hb⟩
  have HRS : Hid (W0.rowIs w.heap.size 27 4 (rowN ndZ)) := by show World.rowIs _ _ _ _ _; rw [hW0]; exact rowN_alloc w _ _
  obtain ⟨size, c3, hz0, hz1⟩ := md_size HSR.out.1
  rw [hW0] at c3
  obtain ⟨q0, hq0⟩ : ∃ q, q = size.tdiv 3 := ⟨_, rfl⟩
  have hq2 : 0 ≤ q0 ∧ q0 ≤ 4 := by rw [hq0, Int.tdiv_eq_ediv_of_nonneg hz0]; omega
  have hqr : size.tdiv 3 = q0 := hq0.symm
  have HW := Lib.hid hW0
  clear hS hq0 hb hW0
  go_enter Tryz.func20, Tryz.ntmps20
  go_wp2_with fail
  rw [← HW.out]
  clear HW c3
  refine (n_any sb _ _ HSR.out.1 (by omega)).mono ?_
  rintro e w1 ⟨⟨v, rfl, v0, v1, _⟩, hD⟩
  have hv : v < 9 := by have := v1 (by omega); omega
  replace HSR := Lib.hid (HSR.out.tr hD)
  replace HRS := Lib.hid (md_chg HRS.out (by omega) hD.2)
  clear hD v1 hqr hz0 hz1 hq2
  obtain ⟨R, hR⟩ : ∃ R, R = w1.heap.size := ⟨_, rfl⟩
  obtain ⟨W2, hW2⟩ : ∃ W, W = w1.alloc (.cells #[.int .i64 (1 + v), .slice none 0 0, .slice none 0 0, .slice none 0 0] 27) := ⟨_, rfl⟩
  have hb2 : Below w1.heap.size w1 W2 := by rw [hW2]; exact nbel_alloc _ _
  have HY : Hid (NY w sb R (1 + v) 0 0 0 W2) := by
    refine ⟨none, 0, none, 0, none, 0, [], [], [], ⟨⟨HSR.out.1.below hb2, HSR.out.2.trans (Chg.of_below hb2)⟩, hsb, by have := HRS.out.lt; omega, nrow_below HRS.out hb2, World.ownsRow_nil _ _ _ _, World.ownsRow_nil _ _ _ _, World.ownsRow_nil _ _ _ _⟩, ?_⟩
    rw [hW2, hR]; exact rowN_alloc w1 _ _
  have HW := Lib.hid hW2
  have HRE := Lib.hid hR
  clear hb2 hW2 hR HSR HRS
  go_wp2_with fail
  rw [← HW.out, ← HRE.out]
  clear HW HRE
  refine (one_any sb 30 _ HY.out.src (by omega)).mono ?_
  rintro e w3 ⟨⟨bb, rfl⟩, hD⟩
  replace HY := Lib.hid (HY.out.draw hD)
  clear hD
  go_upto_if 18 with fail
  go_cut [] (fun V => ∃ nd : Int, 1 ≤ nd ∧ nd ≤ 13 ∧ Hid (NY w sb R nd 0 0 0 V))
  case first =>
    cases bb with
    | true =>
      go_wp2_with fail
      refine (n_any sb 3 _ HY.out.src (by omega)).mono ?_
      rintro e w4 ⟨⟨x, rfl, x0, x1, _⟩, hD⟩
      have hx : x < 3 := x1 (by omega)
      replace HY := Lib.hid (HY.out.draw hD)
      clear hD x1
      obtain ⟨y0, y1, y2⟩ := HY.out.nd0
      have HY2 := Lib.hid (HY.out.nodes (11 + x))
      clear HY
      go_wp2_with fail
      go_meet
      case rel => exact ⟨11 + x, by omega, by omega, HY2⟩
    | false =>
      go_wp2_with fail
      go_meet
      case rel => exact ⟨1 + v, by omega, by omega, HY⟩
  case rest =>
  obtain ⟨nd, hnd0, hnd1, hY⟩ := hcut
  clear HY v0 hv
  have HY := hY
  clear hY
  obtain ⟨W4, hW4⟩ : ∃ W, W = wc := ⟨_, rfl⟩
  rw [← hW4] at HY ⊢
  clear hW4
  obtain ⟨y0, y1, y2⟩ := HY.out.nd0
  go_wp2_with fail
  clear y0 y1 y2
  refine (ndmin_any _ _ _).mono ?_
  rintro e w5 ⟨rfl, hw5⟩
  subst hw5
  obtain ⟨T, hT1, hT2, hTe⟩ : ∃ T : Nat, 1 ≤ T ∧ T ≤ 12 ∧ min nd 12 = (T : Int) := ⟨(min nd 12).toNat, by omega, by omega, by omega⟩
  rw [hTe]
  clear hTe
  go_wp2_with fail
  go_loopw [5] (fun iv wr => ∃ (i ln : Nat), iv = .int .i64 i ∧ 1 ≤ i ∧ i ≤ T ∧ ln ≤ 2 * i ∧ Hid (NY w sb R nd ln 0 0 wr)) (fun iv _ => T - (intOf iv).toNat)
  case atStart => exact ⟨1, 0, rfl, Nat.le_refl _, hT1, by omega, HY⟩
  case round =>
    obtain ⟨i, ln, rfl, hi1', hiT, hln, hY⟩ := hrel
    clear HY
    obtain ⟨W, hW⟩ : ∃ W, W = wr := ⟨_, rfl⟩
    rw [← hW] at hY ⊢
    clear hW
    have HY := hY
    clear hY
    by_cases hlt : i < T
    · have hltz : (i : Int) < (T : Int) := by omega
      go_wp2_with fail
      refine (one_any sb 12 _ HY.out.src (by omega)).mono ?_
      rintro e w9 ⟨⟨bb, rfl⟩, hD⟩
      replace HY := Lib.hid (HY.out.draw hD)
      clear hD
      cases bb with
      | true =>
        go_wp2_with fail
        go_roundw
        case rel => exact ⟨i + 1, ln, by go_num, by omega, by omega, by omega, HY⟩
        case measure => simp [intOf]; omega
      | false =>
        go_wp2_with fail
        apply nreg9 (HY := HY) (hi := by omega) (hln := by omega) (hP := fun _ _ o _ _ h => by cases o <;> exact h)
        intro y33 y34 y35 y36 y37 y38 y39 y40 y41 y42 y43 y44 y45 W10 HX
        clear HY
        go_wp2_with fail
        refine (one_any sb 3 _ HX.out.src (by omega)).mono ?_
        rintro e w11 ⟨⟨bb, rfl⟩, hD⟩
        replace HX := Lib.hid (HX.out.draw hD)
        clear hD
        cases bb with
        | false =>
          go_wp2_with fail
          go_roundw
          case rel => exact ⟨i + 1, ln + 1, by go_num, by omega, by omega, by omega, HX⟩
          case measure => simp [intOf]; omega
        | true =>
          go_wp2_with fail
          apply nreg11 (HY := HX) (hi := by omega) (hln := by omega) (hP := fun _ _ o _ _ h => by cases o <;> exact h)
          intro y48 y49 y50 y51 y52 y53 y54 y55 y56 y57 y58 y59 y60 W12 HX2
          clear HX
          go_wp2_with fail
          go_roundw
          case rel => exact ⟨i + 1, ln + 1 + 1, by go_num, by omega, by omega, by omega, HX2⟩
          case measure => simp [intOf]; omega
    · obtain rfl : i = T := by omega
      go_wp2_with fail
      refine (one_any sb 40 _ HY.out.src (by omega)).mono ?_
      rintro e w13 ⟨⟨bb, rfl⟩, hD⟩
      replace HY := Lib.hid (HY.out.draw hD)
      clear hD
      go_upto_if 62 with fail
      go_cut [] (fun V => ∃ ln : Nat, ln ≤ 50 ∧ Hid (NY w sb R nd ln 0 0 V))
      case first =>
        cases bb with
        | true =>
          go_wp2_with fail
          go_loopw [69] (fun _ wr => ∃ (ln : Nat), ln ≤ 50 ∧ Hid (NY w sb R nd ln 0 0 wr)) (fun _ wr => 50 - nlen R wr)
          case atStart => exact ⟨ln, by omega, HY⟩
          case round =>
            obtain ⟨l2, hl2, hY⟩ := hrel
            clear HY
            obtain ⟨W14, hW14⟩ : ∃ W, W = wr := ⟨_, rfl⟩
            rw [← hW14] at hY ⊢
            clear hW14
            have HY := hY
            clear hY
            have HLE := Lib.hid HY.out.len
            go_wp2_with fail
            apply nreg13 (HY := HY) (hln := by omega) (hP := fun _ _ o _ _ h => by cases o <;> exact h)
            intro b y63 y64 y65 y66 y67 y68 W15 ⟨b1, b2, HX⟩
            clear HY
            cases b with
            | true =>
              have b3 := b1 rfl
              clear b1 b2
              go_wp2_with fail
              apply nreg14 (HY := HX) (hln := by omega) (hP := fun _ _ o _ _ h => by cases o <;> exact h)
              intro y70 y71 y72 y73 y74 y75 y76 y77 y78 W16 HX2
              clear HX
              go_wp2_with fail
              go_roundw
              case rel => exact ⟨l2 + 1, by omega, HX2⟩
              case measure => rw [HX2.out.len, HLE.out]; omega
            | false =>
              clear b1 b2
              go_wp2_with fail
              go_meet
              case rel => exact ⟨l2, hl2, HX⟩
        | false =>
          go_wp2_with fail
          go_meet
          case rel => exact ⟨ln, by omega, HY⟩
      case rest =>
      obtain ⟨ln2, hln2, hY⟩ := hcut
      clear HY hln
      have HY := hY
      clear hY
      obtain ⟨W17, hW17⟩ : ∃ W, W = wc := ⟨_, rfl⟩
      rw [← hW17] at HY ⊢
      clear hW17
      go_wp2_with fail
      go_loopw [6] (fun kv wr => ∃ (k fn : Nat), kv = .int .i64 k ∧ k ≤ i ∧ fn ≤ k ∧ Hid (NY w sb R nd ln2 fn k wr)) (fun kv _ => i - (intOf kv).toNat)
      case atStart => exact ⟨0, 0, rfl, by omega, by omega, HY⟩
      case round =>
        obtain ⟨k, fn, rfl, hki, hfn, hY⟩ := hrel
        clear HY
        obtain ⟨W18, hW18⟩ : ∃ W, W = wr := ⟨_, rfl⟩
        rw [← hW18] at hY ⊢
        clear hW18
        have HY := hY
        clear hY
        by_cases hlk : k < i
        · have hlkz : (k : Int) < (i : Int) := by omega
          by_cases hk0 : k = 0
          · subst hk0
            go_wp2_with fail
            refine (one_any sb 10 _ HY.out.src (by omega)).mono ?_
            rintro e w21 ⟨⟨bb, rfl⟩, hD⟩
            replace HY := Lib.hid (HY.out.draw hD)
            clear hD
            cases bb with
            | true =>
              go_wp2_with fail
              refine (one_any sb 5 _ HY.out.src (by omega)).mono ?_
              rintro e w22 ⟨⟨bb, rfl⟩, hD⟩
              replace HY := Lib.hid (HY.out.draw hD)
              clear hD
              cases bb with
              | true =>
                go_wp2_with fail
                apply nreg19 (HY := HY) (hfn := by omega) (hP := fun _ _ o _ _ h => by cases o <;> exact h)
                intro y95 y96 y97 y98 y99 y100 y101 y102 y103 y104 W19 HX1
                clear HY
                have HY := HX1
                clear HX1
                go_wp2_with fail
                apply nreg20 (HY := HY) (hwn := by omega) (hP := fun _ _ o _ _ h => by cases o <;> exact h)
                intro y105 y106 y107 y108 y109 y110 y111 y112 W20 HX
                clear HY
                go_wp2_with fail
                go_roundw
                case rel => exact ⟨0 + 1, fn + 1, by go_num, by omega, by omega, HX⟩
                case measure => simp [intOf]; omega
              | false =>
                go_wp2_with fail
                apply nreg20 (HY := HY) (hwn := by omega) (hP := fun _ _ o _ _ h => by cases o <;> exact h)
                intro y105 y106 y107 y108 y109 y110 y111 y112 W20 HX
                clear HY
                go_wp2_with fail
                go_roundw
                case rel => exact ⟨0 + 1, fn, by go_num, by omega, by omega, HX⟩
                case measure => simp [intOf]; omega
            | false =>
              go_wp2_with fail
              apply nreg19 (HY := HY) (hfn := by omega) (hP := fun _ _ o _ _ h => by cases o <;> exact h)
              intro y95 y96 y97 y98 y99 y100 y101 y102 y103 y104 W19 HX1
              clear HY
              have HY := HX1
              clear HX1
              go_wp2_with fail
              apply nreg20 (HY := HY) (hwn := by omega) (hP := fun _ _ o _ _ h => by cases o <;> exact h)
              intro y105 y106 y107 y108 y109 y110 y111 y112 W20 HX
              clear HY
              go_wp2_with fail
              go_roundw
              case rel => exact ⟨0 + 1, fn + 1, by go_num, by omega, by omega, HX⟩
              case measure => simp [intOf]; omega
          · have hkz : ¬ (k : Int) = 0 := by omega
            go_wp2_with fail
            refine (one_any sb 5 _ HY.out.src (by omega)).mono ?_
            rintro e w22 ⟨⟨bb, rfl⟩, hD⟩
            replace HY := Lib.hid (HY.out.draw hD)
            clear hD
            cases bb with
            | true =>
              go_wp2_with fail
              apply nreg19 (HY := HY) (hfn := by omega) (hP := fun _ _ o _ _ h => by cases o <;> exact h)
              intro y95 y96 y97 y98 y99 y100 y101 y102 y103 y104 W19 HX1
              clear HY
              have HY := HX1
              clear HX1
              go_wp2_with fail
              apply nreg20 (HY := HY) (hwn := by omega) (hP := fun _ _ o _ _ h => by cases o <;> exact h)
              intro y105 y106 y107 y108 y109 y110 y111 y112 W20 HX
              clear HY
              go_wp2_with fail
              go_roundw
              case rel => exact ⟨k + 1, fn + 1, by go_num, by omega, by omega, HX⟩
              case measure => simp [intOf]; omega
            | false =>
              go_wp2_with fail
              apply nreg20 (HY := HY) (hwn := by omega) (hP := fun _ _ o _ _ h => by cases o <;> exact h)
              intro y105 y106 y107 y108 y109 y110 y111 y112 W20 HX
              clear HY
              go_wp2_with fail
              go_roundw
              case rel => exact ⟨k + 1, fn, by go_num, by omega, by omega, HX⟩
              case measure => simp [intOf]; omega
        · obtain rfl : k = i := by omega
          go_wp2_with fail
          refine (one_any sb 15 _ HY.out.src (by omega)).mono ?_
          rintro e w23 ⟨⟨bb, rfl⟩, hD⟩
          replace HY := Lib.hid (HY.out.draw hD)
          clear hD
          go_upto_if 114 with fail
          go_cut [] (fun V => Hid (NF w sb R V))
          case first =>
            cases bb with
            | true =>
              go_wp2_with fail
              refine (n_any sb 6 _ HY.out.src (by omega)).mono ?_
              rintro e w24 ⟨⟨y, rfl, y0, y1, _⟩, hD⟩
              have hy6 : y < 6 := y1 (by omega)
              replace HY := Lib.hid (HY.out.draw hD)
              clear hD y1
              have h5 : y = 0 ∨ y = 1 ∨ y = 2 ∨ y = 3 ∨ y = 4 ∨ y = 5 := by omega
              rcases h5 with rfl | rfl | rfl | rfl | rfl | rfl
              · obtain ⟨la, lk, fa, fk, wa, wk, ls, fs, ws, hN, hR⟩ := HY.out
                have HN := Lib.hid hN
                have HR := Lib.hid hR
                clear hN hR HY
                obtain ⟨⟨m0, m1, m2, m3⟩, n0, n1, n2, n3⟩ := rowN4 HR.out
                have hl0 := HR.out.lt
                go_wp2_with (at_builtin; refine wpList_append_own _ rfl _ _ 25 rfl w.heap.size 2 wi0 (.int .i64 0) 1 8 Tryz.underlying25 hwi0 hwi1 hwi2 hwi3 rfl (by decide) _ _ _ rfl (World.ownsRow.alloc HN.out.wo _) ⟨w24.heap.size, 0, none⟩ 1 1 [.int .i64 0] rfl rfl (cell_one_new _ _ _) ?d2 ?d3 ?d4 ?d5 ?_)
                case d2 => first | rfl | (intro u hu; simp at hu; subst hu; rfl)
                case d3 => unfold maxLen; omega
                case d4 => omega
                case d5 => have := HN.out.src.2.size; first | omega | (simp; omega)
                intro va wA hown hgrow _
                obtain ⟨a9, c9, rfl⟩ := lpown_shape hown
                have hbA : Below w24.heap.size w24 (w24.alloc (.cells #[.int .i64 0] 2)) := nbel_alloc _ _
                have HN1 := Lib.hid ((HN.out.below hbA).app_w (zs := [0]) hgrow hown)
                have HR1 := Lib.hid (md_row (nrow_below HR.out hbA) (lpown_below HN.out.wo hbA) (by decide) hgrow)
                clear HN HR hown hgrow hbA m0 m1 m2 m3 n0 n1 n2 n3 hl0
                obtain ⟨⟨m0, m1, m2, m3⟩, n0, n1, n2, n3⟩ := rowN4 HR1.out
                have hl0 := HR1.out.lt
                have HF : Hid (NF w sb R (wA.setCell ⟨R, 3, none⟩ (.slice a9 (k + 1) c9))) := ND.fin (HN1.out.set HR1.out (i := 3) _) (rowN_put HR1.out 3 _ (by simp)) (by omega) (by omega) (by omega)
                clear HN1 HR1
                go_wp2_with fail
                go_meet
                case rel => exact HF
              · go_wp2_with fail
                apply nreg27 (HY := HY) (hnd := by omega) (hfn := by omega) (hP := fun _ _ o _ _ h => by cases o <;> exact h)
                intro y137 y138 y139 y140 y141 y142 y143 y144 y145 y146 y147 WZ HX
                clear HY
                go_wp2_with fail
                go_meet
                case rel => exact HX.out.fin (by omega) (by omega) (by omega)
              · go_wp2_with fail
                apply nreg29 (HY := HY) (hnd := by omega) (hln := by omega) (hP := fun _ _ o _ _ h => by cases o <;> exact h)
                intro y150 y151 y152 y153 y154 y155 y156 y157 y158 y159 y160 y161 y162 y163 y164 y165 y166 WZ HX
                clear HY
                go_wp2_with fail
                go_meet
                case rel => exact HX.out.fin (by omega) (by omega) (by omega)
              · go_wp2_with fail
                refine (edge_any sb _ HY.out.src).mono ?_
                rintro e w25 ⟨⟨x, rfl, _, _⟩, hD⟩
                replace HY := Lib.hid (HY.out.draw hD)
                clear hD
                obtain ⟨y0, y1, y2⟩ := HY.out.nd0
                have HY2 := Lib.hid (HY.out.nodes x)
                clear HY
                go_wp2_with fail
                go_meet
                case rel => exact HY2.out.fin (by omega) (by omega) (by omega)
              · go_wp2_with fail
                apply nreg33 (HY := HY) (hwn0 := by omega) (hln := by omega) (hfn := by omega) (hwn := by omega) (hP := fun _ _ o _ _ h => by cases o <;> exact h)
                intro y174 y175 y176 y177 y178 y179 y180 y181 WZ HX
                clear HY
                go_wp2_with fail
                go_meet
                case rel => exact HX
              · go_wp2_with fail
                apply nreg23 (HY := HY) (hln := by omega) (hP := fun _ _ o _ _ h => by cases o <;> exact h)
                intro y117 y118 y119 y120 y121 y122 y123 y124 y125 y126 y127 WZ HX
                clear HY
                go_wp2_with fail
                go_meet
                case rel => exact HX.out.fin (by omega) (by omega) (by omega)
            | false =>
              go_wp2_with fail
              go_meet
              case rel => exact HY.out.fin (by omega) (by omega) (by omega)
          case rest =>
          obtain ⟨n, la, lk, fa, fk, wa, wk, hrow, hat, hne, hsrc, hres, b1, b2, b3⟩ := hcut.out
          clear HY hcut
          obtain ⟨W19, hW19⟩ : ∃ W, W = wc := ⟨_, rfl⟩
          rw [← hW19] at hrow hat hsrc hres ⊢
          clear hW19
          obtain ⟨⟨m0, m1, m2, m3⟩, n0, n1, n2, n3⟩ := rowN4 hrow
          obtain ⟨⟨r0, r1, r2, r3⟩, t0, t1, t2, t3⟩ := rowN4 hres
          have hlR := hrow.lt
          have hlS := hres.lt
          have ZR := Lib.hid (rowN_put (rowN_put (rowN_put (rowN_put hres 0 (.int .i64 n.nodes) (by simp)) 1 (.slice la n.ln lk) (by simp)) 2 (.slice fa n.fn fk) (by simp)) 3 (.slice wa n.wn wk) (by simp))
          have HSR := Lib.hid hsrc
          have HAT := Lib.hid hat
          have HNE := Lib.hid hne
          clear hrow hres hsrc hat hne
          go_wp2_with fail
          obtain ⟨V9, hV9⟩ : ∃ V, V = ((((W19.setCell ⟨w.heap.size, 0, none⟩ (.int .i64 n.nodes)).setCell ⟨w.heap.size, 1, none⟩ (.slice la n.ln lk)).setCell ⟨w.heap.size, 2, none⟩ (.slice fa n.fn fk)).setCell ⟨w.heap.size, 3, none⟩ (.slice wa n.wn wk)) := ⟨_, rfl⟩
          have hk : ∀ j, j ≠ w.heap.size → V9.heap[j]? = W19.heap[j]? := fun j e => by
            rw [hV9, Below.heap_setCell _ _ _ _ e, Below.heap_setCell _ _ _ _ e, Below.heap_setCell _ _ _ _ e, Below.heap_setCell _ _ _ _ e]
          have hsz : V9.heap.size = W19.heap.size := by rw [hV9]; simp
          have zd : Drew sb w V9 := ⟨HSR.out.1.keep (fun j hj => hk j (by omega)), by rw [hV9]; exact HSR.out.2.1, by rw [hV9]; exact HSR.out.2.2.1, by rw [hV9]; exact HSR.out.2.2.2.1, by rw [hsz]; exact HSR.out.2.2.2.2.1, fun j h1 h2 => (hk j (by omega)).trans (HSR.out.2.2.2.2.2 j h1 h2)⟩
          have zt : NdEnd w sb (.returned (ntV n la lk fa fk wa wk)) V9 := ⟨⟨n, la, lk, fa, fk, wa, wk, rfl, ⟨HAT.out.l.same (fun b e _ => hk b (Nat.ne_of_gt (HNE.out b (Or.inl e)))), HAT.out.f.same (fun b e _ => hk b (Nat.ne_of_gt (HNE.out b (Or.inr (Or.inl e))))), HAT.out.w.same (fun b e _ => hk b (Nat.ne_of_gt (HNE.out b (Or.inr (Or.inr e)))))⟩, HNE.out, b1, b2, b3⟩, zd⟩
          have zr := ZR.out
          rw [← hV9] at zr ⊢
          clear ZR zd hV9 hk hsz
          obtain ⟨⟨c0, c1, c2, c3⟩, _⟩ := rowN4 zr
          exact bodyPost_ret (v := ntV n la lk fa fk wa wk) (by simp only [results, Tryz.results20]; simp [go_sem, c0, c1, c2, c3]) rfl zt
end Go.Proofs.YtkaokfmaecdkiaaGreatDoor
namespace Go.Proofs.YtkaokfmaecdkiaaGreatDoor
open Go Go.RowKit Go.Deep

/-- What a draw of a net tells. -/
def NsEnd (w : World) (e : Ending) (V : World) : Prop := (∃ (n : Nt.Net) (la : Option Addr) (lk : Nat) (fa : Option Addr) (fk : Nat) (wa : Option Addr) (wk : Nat), e = .returned (ntV n la lk fa fk wa wk) ∧ NtAt n la fa wa V ∧ n.ln ≤ 1000 ∧ n.fn ≤ 1000 ∧ n.wn ≤ 1000) ∧ Below w.heap.size w V
set_option maxRecDepth 100000 in
set_option maxHeartbeats 4000000 in
theorem drawNS_any (a0 : Option Addr) (len cap : Nat) (w : World) (h : Bytes a0 len w) (hl : len ≤ 4194304) :
    Calls Tryz.prog 5 #[.slice a0 len cap] w fun e w' => NsEnd w e w' := by
  obtain ⟨W0, hW0⟩ : ∃ W0, W0 = w.alloc (.cells #[.int .i64 0, .slice none 0 0, .slice none 0 0, .slice none 0 0] 27) := ⟨_, rfl⟩
  have hb : Below w.heap.size w W0 := by rw [hW0]; exact nbel_alloc _ _
  have HRS : Hid (W0.rowIs w.heap.size 27 4 (rowN ndZ)) := by show World.rowIs _ _ _ _ _; rw [hW0]; exact rowN_alloc w _ _
  have HBY := Lib.hid (h.below hb)
  have HB := Lib.hid hb
  have HW := Lib.hid hW0
  clear h hb hW0
  go_enter Tryz.func5, Tryz.ntmps5
  go_wp2_with fail
  rw [← HW.out]
  clear HW
  refine (source_any a0 len cap _ HBY.out hl).mono ?_
  rintro e w1 ⟨rfl, hsrc, hb1⟩
  obtain ⟨sb, hsb⟩ : ∃ sb, sb = W0.heap.size := ⟨_, rfl⟩
  rw [← hsb] at hsrc ⊢
  have HSR := Lib.hid hsrc
  have HS1 : Hid (w.heap.size < sb ∧ sb < w1.heap.size) := ⟨by have := HRS.out.lt; omega, hsrc.lt⟩
  replace HRS := Lib.hid (nrow_below HRS.out hb1)
  replace HB : Hid (Below w.heap.size w w1) := HB.out.trans (hb1.mono HB.out.size)
  clear hsrc hsb hb1 HBY
  go_wp2_with fail
  refine (dnet_any sb _ HSR.out).mono ?_
  rintro e w2 ⟨⟨n, la, lk, fa, fk, wa, wk, rfl, hat, hgt, l1, l2, l3⟩, hD⟩
  have a1 := HS1.out.1
  have a2 := HS1.out.2
  have a3 := hD.2.size
  have HRS2 := Lib.hid (md_chg HRS.out (by omega) hD.2)
  have HB2 : Hid (Below w.heap.size w w2) := ⟨hD.2.1.trans HB.out.os, hD.2.2.1.trans HB.out.tape, hD.2.2.2.1.trans HB.out.output, Nat.le_trans HB.out.size hD.2.size, fun k hk => (hD.2.2.2.2.2 k (by omega) (by omega)).trans (HB.out.block k hk)⟩
  have HAT := Lib.hid hat
  have HGT : Hid (∀ b, (la = some ⟨b, 0, none⟩ ∨ fa = some ⟨b, 0, none⟩ ∨ wa = some ⟨b, 0, none⟩) → b ≠ w.heap.size) := fun b e => by have := hgt b e; omega
  have ZR := Lib.hid (rowN_put (rowN_put (rowN_put (rowN_put HRS2.out 0 (.int .i64 n.nodes) (by simp)) 1 (.slice la n.ln lk) (by simp)) 2 (.slice fa n.fn fk) (by simp)) 3 (.slice wa n.wn wk) (by simp))
  have ZB := Lib.hid ((((HB2.out.setCell (p := ⟨w.heap.size, 0, none⟩) (Nat.le_refl _) (.int .i64 n.nodes)).setCell (p := ⟨w.heap.size, 1, none⟩) (Nat.le_refl _) (.slice la n.ln lk)).setCell (p := ⟨w.heap.size, 2, none⟩) (Nat.le_refl _) (.slice fa n.fn fk)).setCell (p := ⟨w.heap.size, 3, none⟩) (Nat.le_refl _) (.slice wa n.wn wk))
  obtain ⟨⟨r0, r1, r2, r3⟩, t0, t1, t2, t3⟩ := rowN4 HRS2.out
  have hlS := HRS2.out.lt
  clear hat hgt hD a1 a2 a3 HRS HB HSR HS1
  go_wp2_with fail
  obtain ⟨V9, hV9⟩ : ∃ V, V = ((((w2.setCell ⟨w.heap.size, 0, none⟩ (.int .i64 n.nodes)).setCell ⟨w.heap.size, 1, none⟩ (.slice la n.ln lk)).setCell ⟨w.heap.size, 2, none⟩ (.slice fa n.fn fk)).setCell ⟨w.heap.size, 3, none⟩ (.slice wa n.wn wk)) := ⟨_, rfl⟩
  have hk : ∀ j, j ≠ w.heap.size → V9.heap[j]? = w2.heap[j]? := fun j e => by
    rw [hV9, Below.heap_setCell _ _ _ _ e, Below.heap_setCell _ _ _ _ e, Below.heap_setCell _ _ _ _ e, Below.heap_setCell _ _ _ _ e]
  have zr := ZR.out
  have zb := ZB.out
  rw [← hV9] at zr zb ⊢
  have zt : NsEnd w (.returned (ntV n la lk fa fk wa wk)) V9 := ⟨⟨n, la, lk, fa, fk, wa, wk, rfl, ⟨HAT.out.l.same (fun b e _ => hk b (HGT.out b (Or.inl e))), HAT.out.f.same (fun b e _ => hk b (HGT.out b (Or.inr (Or.inl e)))), HAT.out.w.same (fun b e _ => hk b (HGT.out b (Or.inr (Or.inr e))))⟩, l1, l2, l3⟩, zb⟩
  obtain ⟨⟨c0, c1, c2, c3⟩, _⟩ := rowN4 zr
  exact bodyPost_ret (v := ntV n la lk fa fk wa wk) (by simp only [results, Tryz.results5]; simp [go_sem, c0, c1, c2, c3]) rfl zt
end Go.Proofs.YtkaokfmaecdkiaaGreatDoor
