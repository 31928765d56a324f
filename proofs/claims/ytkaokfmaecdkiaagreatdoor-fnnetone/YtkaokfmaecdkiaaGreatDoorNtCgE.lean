/-
  Joined: NtM49, NtM54, NtL5, NtM63, NtM64, NtL8, NtM72, NtM73, NtL10.
-/
import Derived.Test.YtkaokfmaecdkiaaGreatDoorNtCgB
import Derived.Test.YtkaokfmaecdkiaaGreatDoorRegL
import Derived.Deep.RegionHeld3
import Derived.Maps.AppendAt
namespace Go.Proofs.YtkaokfmaecdkiaaGreatDoor
open Go Go.RowKit Go.Deep

set_option maxRecDepth 100000 in
set_option maxHeartbeats 32000000 in
theorem sreg49 {w : World} (hi gc gr : Nat) (g c : Nat → Nat) (m rk : Nat) (M : El.Mx) (z : Int) (k r : Nat) (x0 x1 x2 x3 x5 x6 x7 x8 x10 x11 x12 x13 x14 x15 x16 x17 x20 x21 x22 x23 x24 x25 x26 x27 x28 x29 x30 x31 x32 x33 x34 x35 x36 x37 x38 x39 x40 x41 x42 x43 x44 x45 x46 x47 x48 x49 x50 x51 x52 x53 x54 x55 x56 x57 x58 x59 x60 x61 x62 x63 x64 x65 x66 x67 x68 x69 x70 x71 x72 x73 x74 x75 x76 x77 x78 x79 x80 x81 x82 x83 x84 x85 x86 x87 x88 x89 x90 x91 x92 x93 x94 x95 x96 x97 x98 x99 x100 x101 x102 x103 x104 x105 x106 x107 x108 x109 x110 x111 x112 x113 x114 x115 x116 x117 x118 x119 x120 x121 x122 x123 x124 x125 x126 x127 x128 x129 x130 x131 x132 x133 x134 x135 x136 x137 x138 x139 x140 x141 x142 x143 x144 x145 x146 x147 x148 x149 x150 x151 x152 x153 x154 x155 x156 x157 x158 x159 x160 x161 x162 x163 x164 x165 x166 x167 x168 x169 x170 x171 x172 x173 x174 x175 x176 x177 x178 x179 x180 x181 x182 x183 x184 x185 x186 x187 x188 x189 x190 x191 x192 x193 x194 x195 x196 x197 x198 x199 x200 x201 x202 x203 x204 x205 x206 x207 x208 x209 x210 x211 x212 x213 x214 x215 x216 x217 x218 x219 x220 x221 x222 x223 x224 x225 x226 x227 x228 x229 x230 x231 x232 x233 x234 x235 x236 x237 x238 x239 x240 x241 x242 x243 x244 x245 x246 x247 x248 x249 x250 x251 x252 x253 x254 x255 x256 x257 x258 x259 x260 x261 x262 x263 x264 x265 x266 x267 x268 x269 x270 x271 x272 x273 x274 x275 x276 x277 x278 x279 x280 x281 x282 x283 x284 x285 x286 x287 x288 x289 x290 x291 x292 x293 x294 x295 x296 x297 x298 x299 x300 x301 x302 x303 x304 x305 x306 x307 x308 x309 x310 x311 x312 x313 x314 x315 x316 x317 x318 x319 x320 x321 x322 x323 x324 x325 x326 x327 x328 x329 x330 x331 x332 x333 x334 x335 x336 x337 x338 x339 x340 x341 x342 x343 x344 x345 x346 x347 x348 x349 x350 x351 x352 x353 x354 x355 x356 x357 x358 x359 x360 x361 x362 x363 x364 x365 x366 x367 x368 x369 x370 x371 x372 x373 x374 x375 x376 : Value) (ds : _) (Q : Exit → Act → World → Prop) (W0 : World)
    (HE : Hid (Es hi gc gr g c m M z w W0)) (HRM : Hid (El.AllR m M)) (hk : k < m) (hr : r < m) (hP : ∀ c (a : Act) o v w, Q (.panic c) (a.put o v) w → Q (.panic c) a w)
    (hQ : ∀ (y214 y215 y216 y217 y218 y219 y220 y221 y222 y223 y224 y225 y226 y227 y228 y229 y230 : Value) (WZ : World) (gf : Nat) (q1 : Int × Int), q1 = Fq.div (M r k) (M k k) → Hid (Es hi gc gr g c m M (Fq.tkz q1 z) w WZ) → Hid (Bx hi gr g m gf (Fq.tkv q1) WZ) → Q .normal { tmps := #[x0, x1, x2, x3, (.pointer (some ⟨gc, 0, none⟩)), x5, x6, x7, x8, (.slice (some ⟨gr, 0, none⟩) m rk), x10, x11, x12, x13, x14, x15, x16, x17, (.int .i64 k), (.int .i64 r), (.pointer (some ⟨gf, 0, none⟩)), x21, x22, x23, x24, x25, x26, x27, x28, x29, x30, x31, x32, x33, x34, x35, x36, x37, x38, x39, x40, x41, x42, x43, x44, x45, x46, x47, x48, x49, x50, x51, x52, x53, x54, x55, x56, x57, x58, x59, x60, x61, x62, x63, x64, x65, x66, x67, x68, x69, x70, x71, x72, x73, x74, x75, x76, x77, x78, x79, x80, x81, x82, x83, x84, x85, x86, x87, x88, x89, x90, x91, x92, x93, x94, x95, x96, x97, x98, x99, x100, x101, x102, x103, x104, x105, x106, x107, x108, x109, x110, x111, x112, x113, x114, x115, x116, x117, x118, x119, x120, x121, x122, x123, x124, x125, x126, x127, x128, x129, x130, x131, x132, x133, x134, x135, x136, x137, x138, x139, x140, x141, x142, x143, x144, x145, x146, x147, x148, x149, x150, x151, x152, x153, x154, x155, x156, x157, x158, x159, x160, x161, x162, x163, x164, x165, x166, x167, x168, x169, x170, x171, x172, x173, x174, x175, x176, x177, x178, x179, x180, x181, x182, x183, x184, x185, x186, x187, x188, x189, x190, x191, x192, x193, x194, x195, x196, x197, x198, x199, x200, x201, x202, x203, x204, x205, x206, x207, x208, x209, x210, x211, x212, x213, y214, y215, y216, y217, y218, y219, y220, y221, y222, y223, y224, y225, y226, y227, y228, y229, y230, x231, x232, x233, x234, x235, x236, x237, x238, x239, x240, x241, x242, x243, x244, x245, x246, x247, x248, x249, x250, x251, x252, x253, x254, x255, x256, x257, x258, x259, x260, x261, x262, x263, x264, x265, x266, x267, x268, x269, x270, x271, x272, x273, x274, x275, x276, x277, x278, x279, x280, x281, x282, x283, x284, x285, x286, x287, x288, x289, x290, x291, x292, x293, x294, x295, x296, x297, x298, x299, x300, x301, x302, x303, x304, x305, x306, x307, x308, x309, x310, x311, x312, x313, x314, x315, x316, x317, x318, x319, x320, x321, x322, x323, x324, x325, x326, x327, x328, x329, x330, x331, x332, x333, x334, x335, x336, x337, x338, x339, x340, x341, x342, x343, x344, x345, x346, x347, x348, x349, x350, x351, x352, x353, x354, x355, x356, x357, x358, x359, x360, x361, x362, x363, x364, x365, x366, x367, x368, x369, x370, x371, x372, x373, x374, x375, x376], defers := ds } WZ) :
    (Code.region 49 #[{ dst := some 214, op := Op.move (Operand.tmp 4), type := 57, pos := "l07_linear.go:119", after := #[], guard := none }, { dst := some 215, op := Op.move (Operand.tmp 9), type := 62, pos := "l07_linear.go:119", after := #[], guard := none }, { dst := some 216, op := Op.move (Operand.tmp 19), type := 3, pos := "l07_linear.go:119", after := #[], guard := none }, { dst := some 217, op := Op.indexAddr 62 (Operand.tmp 215) (Operand.tmp 216), type := 0, pos := "l07_linear.go:119", after := #[{ on := 1, ground := Ground.data }, { on := 2, ground := Ground.data }], guard := none }, { dst := some 218, op := Op.load 29 (Operand.tmp 217), type := 29, pos := "l07_linear.go:119", after := #[{ on := 3, ground := Ground.data }], guard := none }, { dst := some 219, op := Op.move (Operand.tmp 18), type := 3, pos := "l07_linear.go:119", after := #[], guard := none }, { dst := some 220, op := Op.indexAddr 29 (Operand.tmp 218) (Operand.tmp 219), type := 0, pos := "l07_linear.go:119", after := #[{ on := 4, ground := Ground.data }, { on := 5, ground := Ground.data }], guard := none }, { dst := some 221, op := Op.load 35 (Operand.tmp 220), type := 35, pos := "l07_linear.go:119", after := #[{ on := 6, ground := Ground.data }], guard := none }, { dst := some 222, op := Op.move (Operand.tmp 9), type := 62, pos := "l07_linear.go:119", after := #[], guard := none }, { dst := some 223, op := Op.move (Operand.tmp 18), type := 3, pos := "l07_linear.go:119", after := #[], guard := none }, { dst := some 224, op := Op.indexAddr 62 (Operand.tmp 222) (Operand.tmp 223), type := 0, pos := "l07_linear.go:119", after := #[{ on := 8, ground := Ground.data }, { on := 9, ground := Ground.data }], guard := none }, { dst := some 225, op := Op.load 29 (Operand.tmp 224), type := 29, pos := "l07_linear.go:119", after := #[{ on := 10, ground := Ground.data }], guard := none }, { dst := some 226, op := Op.move (Operand.tmp 18), type := 3, pos := "l07_linear.go:119", after := #[], guard := none }, { dst := some 227, op := Op.indexAddr 29 (Operand.tmp 225) (Operand.tmp 226), type := 0, pos := "l07_linear.go:119", after := #[{ on := 11, ground := Ground.data }, { on := 12, ground := Ground.data }], guard := none }, { dst := some 228, op := Op.load 35 (Operand.tmp 227), type := 35, pos := "l07_linear.go:119", after := #[{ on := 13, ground := Ground.data }], guard := none }, { dst := some 229, op := Op.call { callee := Callee.value (Operand.func 27), args := #[Operand.tmp 221, Operand.tmp 228], argTypes := #[35, 35] }, type := 65, pos := "l07_linear.go:119", after := #[{ on := 7, ground := Ground.data }, { on := 14, ground := Ground.data }], guard := none }, { dst := some 230, op := Op.call { callee := Callee.value (Operand.func 24), args := #[Operand.tmp 214, Operand.tmp 229], argTypes := #[57, 65] }, type := 35, pos := "l07_linear.go:119", after := #[{ on := 0, ground := Ground.data }, { on := 15, ground := Ground.data }, { on := 15, ground := Ground.chain }], guard := none }, { dst := some 20, op := Op.alloc 35, type := 0, pos := "l07_linear.go:119", after := #[], guard := none }, { dst := none, op := Op.store 35 (Operand.tmp 20) (Operand.tmp 230), type := 0, pos := "l07_linear.go:119", after := #[{ on := 17, ground := Ground.data }, { on := 16, ground := Ground.data }, { on := 16, ground := Ground.chain }, { on := 0, ground := Ground.phase }, { on := 1, ground := Ground.phase }, { on := 2, ground := Ground.phase }, { on := 3, ground := Ground.phase }, { on := 4, ground := Ground.phase }, { on := 5, ground := Ground.phase }, { on := 6, ground := Ground.phase }, { on := 7, ground := Ground.phase }, { on := 8, ground := Ground.phase }, { on := 9, ground := Ground.phase }, { on := 10, ground := Ground.phase }, { on := 11, ground := Ground.phase }, { on := 12, ground := Ground.phase }, { on := 13, ground := Ground.phase }, { on := 14, ground := Ground.phase }, { on := 15, ground := Ground.phase }, { on := 16, ground := Ground.phase }, { on := 17, ground := Ground.phase }], guard := none }] true).wp Tryz.prog Q { tmps := #[x0, x1, x2, x3, (.pointer (some ⟨gc, 0, none⟩)), x5, x6, x7, x8, (.slice (some ⟨gr, 0, none⟩) m rk), x10, x11, x12, x13, x14, x15, x16, x17, (.int .i64 k), (.int .i64 r), x20, x21, x22, x23, x24, x25, x26, x27, x28, x29, x30, x31, x32, x33, x34, x35, x36, x37, x38, x39, x40, x41, x42, x43, x44, x45, x46, x47, x48, x49, x50, x51, x52, x53, x54, x55, x56, x57, x58, x59, x60, x61, x62, x63, x64, x65, x66, x67, x68, x69, x70, x71, x72, x73, x74, x75, x76, x77, x78, x79, x80, x81, x82, x83, x84, x85, x86, x87, x88, x89, x90, x91, x92, x93, x94, x95, x96, x97, x98, x99, x100, x101, x102, x103, x104, x105, x106, x107, x108, x109, x110, x111, x112, x113, x114, x115, x116, x117, x118, x119, x120, x121, x122, x123, x124, x125, x126, x127, x128, x129, x130, x131, x132, x133, x134, x135, x136, x137, x138, x139, x140, x141, x142, x143, x144, x145, x146, x147, x148, x149, x150, x151, x152, x153, x154, x155, x156, x157, x158, x159, x160, x161, x162, x163, x164, x165, x166, x167, x168, x169, x170, x171, x172, x173, x174, x175, x176, x177, x178, x179, x180, x181, x182, x183, x184, x185, x186, x187, x188, x189, x190, x191, x192, x193, x194, x195, x196, x197, x198, x199, x200, x201, x202, x203, x204, x205, x206, x207, x208, x209, x210, x211, x212, x213, x214, x215, x216, x217, x218, x219, x220, x221, x222, x223, x224, x225, x226, x227, x228, x229, x230, x231, x232, x233, x234, x235, x236, x237, x238, x239, x240, x241, x242, x243, x244, x245, x246, x247, x248, x249, x250, x251, x252, x253, x254, x255, x256, x257, x258, x259, x260, x261, x262, x263, x264, x265, x266, x267, x268, x269, x270, x271, x272, x273, x274, x275, x276, x277, x278, x279, x280, x281, x282, x283, x284, x285, x286, x287, x288, x289, x290, x291, x292, x293, x294, x295, x296, x297, x298, x299, x300, x301, x302, x303, x304, x305, x306, x307, x308, x309, x310, x311, x312, x313, x314, x315, x316, x317, x318, x319, x320, x321, x322, x323, x324, x325, x326, x327, x328, x329, x330, x331, x332, x333, x334, x335, x336, x337, x338, x339, x340, x341, x342, x343, x344, x345, x346, x347, x348, x349, x350, x351, x352, x353, x354, x355, x356, x357, x358, x359, x360, x361, x362, x363, x364, x365, x366, x367, x368, x369, x370, x371, x372, x373, x374, x375, x376], defers := ds } W0 := by
  have hkz : (k : Int) < (m : Int) := by omega
  have hrz : (r : Int) < (m : Int) := by omega
  have hky : (k : Int) < (m : Int) + 1 := by omega
  refine region_L (fun V => Mt hi gr g c m M V ∧ True) 18 (by kernel_rfl) ⟨HE.out.mt.below (Below.refl _ _).drew, trivial⟩ (fun hHeld => ?_)
  obtain ⟨Z, hZ⟩ : ∃ Z, Z = W0.drew := ⟨_, rfl⟩
  replace HE := Lib.hid (HE.out.below (Below.refl _ _).drew)
  rw [← hZ] at hHeld HE ⊢
  clear hZ
  refine takeL_do (i := 0) (v := (.pointer (some ⟨gc, 0, none⟩))) rfl (by kernel_rfl) (by kernel_rfl) (by kernel_rfl) (by kernel_rfl) (fun _ _ _ h => hP _ _ _ _ _ h) (by rfl) ?_ (by assumption) ?_
  · intro w hSw
    skip
    go_simp
  simp only [Act.put, List.setIfInBounds_toArray, List.set_cons_zero, List.set_cons_succ]
  refine takeL_do (i := 1) (v := (.slice (some ⟨gr, 0, none⟩) m rk)) rfl (by kernel_rfl) (by kernel_rfl) (by kernel_rfl) (by kernel_rfl) (fun _ _ _ h => hP _ _ _ _ _ h) (by rfl) ?_ (by assumption) ?_
  · intro w hSw
    skip
    go_simp
  simp only [Act.put, List.setIfInBounds_toArray, List.set_cons_zero, List.set_cons_succ]
  refine takeL_do (i := 2) (v := (.int .i64 r)) rfl (by kernel_rfl) (by kernel_rfl) (by kernel_rfl) (by kernel_rfl) (fun _ _ _ h => hP _ _ _ _ _ h) (by rfl) ?_ (by assumption) ?_
  · intro w hSw
    skip
    go_simp
  simp only [Act.put, List.setIfInBounds_toArray, List.set_cons_zero, List.set_cons_succ]
  refine takeL_do (i := 3) (v := (.pointer (some ⟨gr, r, none⟩))) rfl (by kernel_rfl) (by kernel_rfl) (by kernel_rfl) (by kernel_rfl) (fun _ _ _ h => hP _ _ _ _ _ h) (by rfl) ?_ (by assumption) ?_
  · intro w hSw
    skip
    go_simp
  simp only [Act.put, List.setIfInBounds_toArray, List.set_cons_zero, List.set_cons_succ]
  refine takeL_do (i := 4) (v := (.slice (some ⟨g r, 0, none⟩) (m + 1) (c r))) rfl (by kernel_rfl) (by kernel_rfl) (by kernel_rfl) (by kernel_rfl) (fun _ _ _ h => hP _ _ _ _ _ h) (by rfl) ?_ (by assumption) ?_
  · intro w hSw
    have l0 := hSw.1.list r hr
    go_simp
  simp only [Act.put, List.setIfInBounds_toArray, List.set_cons_zero, List.set_cons_succ]
  refine takeL_do (i := 5) (v := (.int .i64 k)) rfl (by kernel_rfl) (by kernel_rfl) (by kernel_rfl) (by kernel_rfl) (fun _ _ _ h => hP _ _ _ _ _ h) (by rfl) ?_ (by assumption) ?_
  · intro w hSw
    skip
    go_simp
  simp only [Act.put, List.setIfInBounds_toArray, List.set_cons_zero, List.set_cons_succ]
  refine takeL_do (i := 6) (v := (.pointer (some ⟨g r, k * 2, none⟩))) rfl (by kernel_rfl) (by kernel_rfl) (by kernel_rfl) (by kernel_rfl) (fun _ _ _ h => hP _ _ _ _ _ h) (by rfl) ?_ (by assumption) ?_
  · intro w hSw
    skip
    go_simp
  simp only [Act.put, List.setIfInBounds_toArray, List.set_cons_zero, List.set_cons_succ]
  refine takeL_do (i := 7) (v := (frV (M r k))) rfl (by kernel_rfl) (by kernel_rfl) (by kernel_rfl) (by kernel_rfl) (fun _ _ _ h => hP _ _ _ _ _ h) (by rfl) ?_ (by assumption) ?_
  · intro w hSw
    obtain ⟨l0, l1⟩ := hSw.1.cell0 (r := r) (j := k) hr (by omega)
    go_simp
  simp only [Act.put, List.setIfInBounds_toArray, List.set_cons_zero, List.set_cons_succ]
  refine takeL_do (i := 8) (v := (.slice (some ⟨gr, 0, none⟩) m rk)) rfl (by kernel_rfl) (by kernel_rfl) (by kernel_rfl) (by kernel_rfl) (fun _ _ _ h => hP _ _ _ _ _ h) (by rfl) ?_ (by assumption) ?_
  · intro w hSw
    skip
    go_simp
  simp only [Act.put, List.setIfInBounds_toArray, List.set_cons_zero, List.set_cons_succ]
  refine takeL_do (i := 9) (v := (.int .i64 k)) rfl (by kernel_rfl) (by kernel_rfl) (by kernel_rfl) (by kernel_rfl) (fun _ _ _ h => hP _ _ _ _ _ h) (by rfl) ?_ (by assumption) ?_
  · intro w hSw
    skip
    go_simp
  simp only [Act.put, List.setIfInBounds_toArray, List.set_cons_zero, List.set_cons_succ]
  refine takeL_do (i := 10) (v := (.pointer (some ⟨gr, k, none⟩))) rfl (by kernel_rfl) (by kernel_rfl) (by kernel_rfl) (by kernel_rfl) (fun _ _ _ h => hP _ _ _ _ _ h) (by rfl) ?_ (by assumption) ?_
  · intro w hSw
    skip
    go_simp
  simp only [Act.put, List.setIfInBounds_toArray, List.set_cons_zero, List.set_cons_succ]
  refine takeL_do (i := 11) (v := (.slice (some ⟨g k, 0, none⟩) (m + 1) (c k))) rfl (by kernel_rfl) (by kernel_rfl) (by kernel_rfl) (by kernel_rfl) (fun _ _ _ h => hP _ _ _ _ _ h) (by rfl) ?_ (by assumption) ?_
  · intro w hSw
    have l0 := hSw.1.list k hk
    go_simp
  simp only [Act.put, List.setIfInBounds_toArray, List.set_cons_zero, List.set_cons_succ]
  refine takeL_do (i := 12) (v := (.int .i64 k)) rfl (by kernel_rfl) (by kernel_rfl) (by kernel_rfl) (by kernel_rfl) (fun _ _ _ h => hP _ _ _ _ _ h) (by rfl) ?_ (by assumption) ?_
  · intro w hSw
    skip
    go_simp
  simp only [Act.put, List.setIfInBounds_toArray, List.set_cons_zero, List.set_cons_succ]
  refine takeL_do (i := 13) (v := (.pointer (some ⟨g k, k * 2, none⟩))) rfl (by kernel_rfl) (by kernel_rfl) (by kernel_rfl) (by kernel_rfl) (fun _ _ _ h => hP _ _ _ _ _ h) (by rfl) ?_ (by assumption) ?_
  · intro w hSw
    skip
    go_simp
  simp only [Act.put, List.setIfInBounds_toArray, List.set_cons_zero, List.set_cons_succ]
  refine takeL_do (i := 14) (v := (frV (M k k))) rfl (by kernel_rfl) (by kernel_rfl) (by kernel_rfl) (by kernel_rfl) (fun _ _ _ h => hP _ _ _ _ _ h) (by rfl) ?_ (by assumption) ?_
  · intro w hSw
    obtain ⟨l0, l1⟩ := hSw.1.cell0 (r := k) (j := k) hk (by omega)
    go_simp
  simp only [Act.put, List.setIfInBounds_toArray, List.set_cons_zero, List.set_cons_succ]
  refine L_ready (rs := [15, 17]) (by kernel_rfl) (by simp) (AllL.cons (i := 15) rfl (fun K2 hK => ?_) (AllL.cons (i := 17) rfl (fun K2 hK => ?_) AllL.nil))
  · obtain ⟨q1, hq1⟩ : ∃ q, q = Fq.div (M r k) (M k k) := ⟨_, rfl⟩
    have HCq1 := Lib.hid (fun (V : World) => nspecDiv (M r k) (M k k) V (HRM.out r k hr (by omega)) (HRM.out k k hk (by omega)))
    rw [← hq1] at HCq1
    have Hq1 := Lib.hid hq1
    clear hq1
    go_simp
    refine (HCq1.out _).mono ?_
    rintro e Z14 ⟨rfl, hb⟩
    replace HE := Lib.hid (HE.out.below hb)
    clear hb HCq1
    go_wp2_with fail
    refine hK.out _ _ ⟨HE.out.mt, trivial⟩ (fun hHeld2 => ?_)
    clear hK hHeld
    have hHeld := hHeld2
    clear hHeld2
    refine L_ready (rs := [16, 17]) (by kernel_rfl) (by simp) (AllL.cons (i := 16) rfl (fun K2 hK => ?_) (AllL.cons (i := 17) rfl (fun K2 hK => ?_) AllL.nil))
    · obtain ⟨p2, hp2⟩ : ∃ v, v = Fq.tkv q1 := ⟨_, rfl⟩
      obtain ⟨z2, hz2⟩ : ∃ v, v = Fq.tkz q1 z := ⟨_, rfl⟩
      have HCp2 := Lib.hid (take_any gc q1 z _ HE.out.rc)
      rw [← hp2, ← hz2] at HCp2
      have Hp2 := Lib.hid hp2
      have Hz2 := Lib.hid hz2
      clear hp2 hz2
      go_simp
      refine HCp2.out.mono ?_
      rintro e Z17 ⟨rfl, hrz, hon⟩
      replace HE := Lib.hid (HE.out.take hrz hon)
      clear hrz hon HCp2
      go_wp2_with fail
      refine hK.out _ _ ⟨HE.out.mt, trivial⟩ (fun hHeld2 => ?_)
      clear hK hHeld
      have hHeld := hHeld2
      clear hHeld2
      refine takeL_call (i := 17) rfl (by kernel_rfl) (fun K2 hK => ?_)
      obtain ⟨Z18, hZ18⟩ : ∃ ZZ, ZZ = Z17.alloc (.cells #[.int .i64 0, .int .i64 0] 35) := ⟨_, rfl⟩
      have hb : Below Z17.heap.size Z17 Z18 := by rw [hZ18]; exact nbel_alloc _ _
      obtain ⟨gf, hgf⟩ : ∃ gf, gf = Z17.heap.size := ⟨_, rfl⟩
      have RZ : Hid (Z18.rowIs gf 35 2 (rowN [.int .i64 (0, 0).1, .int .i64 (0, 0).2])) := by show World.rowIs _ _ _ _ _; rw [hZ18, hgf]; exact rowN_alloc _ _ _
      have HGF : Hid (hi ≤ gf) := by show _ ≤ _; rw [hgf]; exact HE.out.hz2
      have HNF : Hid (gf ≠ gr ∧ ∀ s, s < m → gf ≠ g s) := (HE.out.fresh (gf := gf) (x := (0, 0)) (by omega) RZ.out (by omega)).ne
      replace HE := Lib.hid (HE.out.below hb)
      go_simp
      rw [← hZ18, ← hgf]
      refine hK.out _ _ ⟨HE.out.mt, trivial⟩ (fun hHeld2 => ?_)
      clear hK hHeld
      have hHeld := hHeld2
      clear hHeld2
      clear hb hZ18 hgf
      obtain ⟨o0, o1⟩ := frN2 RZ.out
      have z0 := RZ.out.frozen 0
      have z1' := RZ.out.frozen 1
      have l0 := RZ.out.lt
      have HB : Hid (Bx hi gr g m gf (0, 0) Z18) := ⟨RZ.out, HGF.out, HNF.out⟩
      obtain ⟨WZ, hWZ⟩ : ∃ WZ, WZ = (Z18.setCell ⟨gf, 0, none⟩ (.int .i64 p2.1)).setCell ⟨gf, 1, none⟩ (.int .i64 p2.2) := ⟨_, rfl⟩
      have HE2 := Lib.hid (HE.out.box (y := p2) HB.out).1
      have HB2 := Lib.hid (HE.out.box (y := p2) HB.out).2
      rw [← hWZ] at HE2 HB2
      have HWZ := Lib.hid hWZ
      clear hWZ
      refine takeL_last rfl (by kernel_rfl) (by kernel_rfl) (fun K2 hK => ?_)
      go_simp
      rw [← HWZ.out]
      refine hK.out _ _ ?_
      clear hK hHeld HWZ o0 o1 z0 z1' l0 HE HB RZ
      exact hQ _ _ _ _ _ _ _ _ _ _ _ _ _ _ _ _ _ _ gf q1 Hq1.out (by rw [Hz2.out] at HE2; exact HE2) (by rw [Hp2.out] at HB2; exact HB2)
    · obtain ⟨Z15, hZ15⟩ : ∃ ZZ, ZZ = Z14.alloc (.cells #[.int .i64 0, .int .i64 0] 35) := ⟨_, rfl⟩
      have hb : Below Z14.heap.size Z14 Z15 := by rw [hZ15]; exact nbel_alloc _ _
      obtain ⟨gf, hgf⟩ : ∃ gf, gf = Z14.heap.size := ⟨_, rfl⟩
      have RZ : Hid (Z15.rowIs gf 35 2 (rowN [.int .i64 (0, 0).1, .int .i64 (0, 0).2])) := by show World.rowIs _ _ _ _ _; rw [hZ15, hgf]; exact rowN_alloc _ _ _
      have HGF : Hid (hi ≤ gf) := by show _ ≤ _; rw [hgf]; exact HE.out.hz2
      have HNF : Hid (gf ≠ gr ∧ ∀ s, s < m → gf ≠ g s) := (HE.out.fresh (gf := gf) (x := (0, 0)) (by omega) RZ.out (by omega)).ne
      replace HE := Lib.hid (HE.out.below hb)
      go_simp
      rw [← hZ15, ← hgf]
      refine hK.out _ _ ⟨HE.out.mt, trivial⟩ (fun hHeld2 => ?_)
      clear hK hHeld
      have hHeld := hHeld2
      clear hHeld2
      clear hb hZ15 hgf
      obtain ⟨p2, hp2⟩ : ∃ v, v = Fq.tkv q1 := ⟨_, rfl⟩
      obtain ⟨z2, hz2⟩ : ∃ v, v = Fq.tkz q1 z := ⟨_, rfl⟩
      have HCp2 := Lib.hid (take_any gc q1 z _ HE.out.rc)
      rw [← hp2, ← hz2] at HCp2
      have Hp2 := Lib.hid hp2
      have Hz2 := Lib.hid hz2
      clear hp2 hz2
      refine takeL_call (i := 16) rfl (by kernel_rfl) (fun K2 hK => ?_)
      go_simp
      refine HCp2.out.mono ?_
      rintro e Z16 ⟨rfl, hrz, hon⟩
      replace RZ := Lib.hid (RZ.out.of_block (hon.block _ RZ.out.lt (by have := HGF.out; have := HE.out.gl; omega)))
      replace HE := Lib.hid (HE.out.take hrz hon)
      clear hrz hon HCp2
      go_wp2_with fail
      refine hK.out _ _ ⟨HE.out.mt, trivial⟩ (fun hHeld2 => ?_)
      clear hK hHeld
      have hHeld := hHeld2
      clear hHeld2
      obtain ⟨o0, o1⟩ := frN2 RZ.out
      have z0 := RZ.out.frozen 0
      have z1' := RZ.out.frozen 1
      have l0 := RZ.out.lt
      have HB : Hid (Bx hi gr g m gf (0, 0) Z16) := ⟨RZ.out, HGF.out, HNF.out⟩
      obtain ⟨WZ, hWZ⟩ : ∃ WZ, WZ = (Z16.setCell ⟨gf, 0, none⟩ (.int .i64 p2.1)).setCell ⟨gf, 1, none⟩ (.int .i64 p2.2) := ⟨_, rfl⟩
      have HE2 := Lib.hid (HE.out.box (y := p2) HB.out).1
      have HB2 := Lib.hid (HE.out.box (y := p2) HB.out).2
      rw [← hWZ] at HE2 HB2
      have HWZ := Lib.hid hWZ
      clear hWZ
      refine takeL_last rfl (by kernel_rfl) (by kernel_rfl) (fun K2 hK => ?_)
      go_simp
      rw [← HWZ.out]
      refine hK.out _ _ ?_
      clear hK hHeld HWZ o0 o1 z0 z1' l0 HE HB RZ
      exact hQ _ _ _ _ _ _ _ _ _ _ _ _ _ _ _ _ _ _ gf q1 Hq1.out (by rw [Hz2.out] at HE2; exact HE2) (by rw [Hp2.out] at HB2; exact HB2)
  · obtain ⟨Z11, hZ11⟩ : ∃ ZZ, ZZ = Z.alloc (.cells #[.int .i64 0, .int .i64 0] 35) := ⟨_, rfl⟩
    have hb : Below Z.heap.size Z Z11 := by rw [hZ11]; exact nbel_alloc _ _
    obtain ⟨gf, hgf⟩ : ∃ gf, gf = Z.heap.size := ⟨_, rfl⟩
    have RZ : Hid (Z11.rowIs gf 35 2 (rowN [.int .i64 (0, 0).1, .int .i64 (0, 0).2])) := by show World.rowIs _ _ _ _ _; rw [hZ11, hgf]; exact rowN_alloc _ _ _
    have HGF : Hid (hi ≤ gf) := by show _ ≤ _; rw [hgf]; exact HE.out.hz2
    have HNF : Hid (gf ≠ gr ∧ ∀ s, s < m → gf ≠ g s) := (HE.out.fresh (gf := gf) (x := (0, 0)) (by omega) RZ.out (by omega)).ne
    replace HE := Lib.hid (HE.out.below hb)
    go_simp
    rw [← hZ11, ← hgf]
    refine hK.out _ _ ⟨HE.out.mt, trivial⟩ (fun hHeld2 => ?_)
    clear hK hHeld
    have hHeld := hHeld2
    clear hHeld2
    clear hb hZ11 hgf
    obtain ⟨q1, hq1⟩ : ∃ q, q = Fq.div (M r k) (M k k) := ⟨_, rfl⟩
    have HCq1 := Lib.hid (fun (V : World) => nspecDiv (M r k) (M k k) V (HRM.out r k hr (by omega)) (HRM.out k k hk (by omega)))
    rw [← hq1] at HCq1
    have Hq1 := Lib.hid hq1
    clear hq1
    refine takeL_call (i := 15) rfl (by kernel_rfl) (fun K2 hK => ?_)
    go_simp
    refine (HCq1.out _).mono ?_
    rintro e Z12 ⟨rfl, hb⟩
    replace HE := Lib.hid (HE.out.below hb)
    replace RZ := Lib.hid (nrow_below RZ.out hb)
    clear hb HCq1
    go_wp2_with fail
    refine hK.out _ _ ⟨HE.out.mt, trivial⟩ (fun hHeld2 => ?_)
    clear hK hHeld
    have hHeld := hHeld2
    clear hHeld2
    obtain ⟨p2, hp2⟩ : ∃ v, v = Fq.tkv q1 := ⟨_, rfl⟩
    obtain ⟨z2, hz2⟩ : ∃ v, v = Fq.tkz q1 z := ⟨_, rfl⟩
    have HCp2 := Lib.hid (take_any gc q1 z _ HE.out.rc)
    rw [← hp2, ← hz2] at HCp2
    have Hp2 := Lib.hid hp2
    have Hz2 := Lib.hid hz2
    clear hp2 hz2
    refine takeL_call (i := 16) rfl (by kernel_rfl) (fun K2 hK => ?_)
    go_simp
    refine HCp2.out.mono ?_
    rintro e Z13 ⟨rfl, hrz, hon⟩
    replace RZ := Lib.hid (RZ.out.of_block (hon.block _ RZ.out.lt (by have := HGF.out; have := HE.out.gl; omega)))
    replace HE := Lib.hid (HE.out.take hrz hon)
    clear hrz hon HCp2
    go_wp2_with fail
    refine hK.out _ _ ⟨HE.out.mt, trivial⟩ (fun hHeld2 => ?_)
    clear hK hHeld
    have hHeld := hHeld2
    clear hHeld2
    obtain ⟨o0, o1⟩ := frN2 RZ.out
    have z0 := RZ.out.frozen 0
    have z1' := RZ.out.frozen 1
    have l0 := RZ.out.lt
    have HB : Hid (Bx hi gr g m gf (0, 0) Z13) := ⟨RZ.out, HGF.out, HNF.out⟩
    obtain ⟨WZ, hWZ⟩ : ∃ WZ, WZ = (Z13.setCell ⟨gf, 0, none⟩ (.int .i64 p2.1)).setCell ⟨gf, 1, none⟩ (.int .i64 p2.2) := ⟨_, rfl⟩
    have HE2 := Lib.hid (HE.out.box (y := p2) HB.out).1
    have HB2 := Lib.hid (HE.out.box (y := p2) HB.out).2
    rw [← hWZ] at HE2 HB2
    have HWZ := Lib.hid hWZ
    clear hWZ
    refine takeL_last rfl (by kernel_rfl) (by kernel_rfl) (fun K2 hK => ?_)
    go_simp
    rw [← HWZ.out]
    refine hK.out _ _ ?_
    clear hK hHeld HWZ o0 o1 z0 z1' l0 HE HB RZ
    exact hQ _ _ _ _ _ _ _ _ _ _ _ _ _ _ _ _ _ _ gf q1 Hq1.out (by rw [Hz2.out] at HE2; exact HE2) (by rw [Hp2.out] at HB2; exact HB2)
end Go.Proofs.YtkaokfmaecdkiaaGreatDoor
namespace Go.Proofs.YtkaokfmaecdkiaaGreatDoor
open Go Go.RowKit Go.Deep

set_option maxRecDepth 100000 in
set_option maxHeartbeats 32000000 in
theorem sreg54 {w : World} (hi gc gr : Nat) (g c : Nat → Nat) (m rk : Nat) (M : El.Mx) (z : Int) (f : Int × Int) (gf k r j : Nat) (x0 x1 x2 x3 x5 x6 x7 x8 x10 x11 x12 x13 x14 x15 x16 x17 x22 x23 x24 x25 x26 x27 x28 x29 x30 x31 x32 x33 x34 x35 x36 x37 x38 x39 x40 x41 x42 x43 x44 x45 x46 x47 x48 x49 x50 x51 x52 x53 x54 x55 x56 x57 x58 x59 x60 x61 x62 x63 x64 x65 x66 x67 x68 x69 x70 x71 x72 x73 x74 x75 x76 x77 x78 x79 x80 x81 x82 x83 x84 x85 x86 x87 x88 x89 x90 x91 x92 x93 x94 x95 x96 x97 x98 x99 x100 x101 x102 x103 x104 x105 x106 x107 x108 x109 x110 x111 x112 x113 x114 x115 x116 x117 x118 x119 x120 x121 x122 x123 x124 x125 x126 x127 x128 x129 x130 x131 x132 x133 x134 x135 x136 x137 x138 x139 x140 x141 x142 x143 x144 x145 x146 x147 x148 x149 x150 x151 x152 x153 x154 x155 x156 x157 x158 x159 x160 x161 x162 x163 x164 x165 x166 x167 x168 x169 x170 x171 x172 x173 x174 x175 x176 x177 x178 x179 x180 x181 x182 x183 x184 x185 x186 x187 x188 x189 x190 x191 x192 x193 x194 x195 x196 x197 x198 x199 x200 x201 x202 x203 x204 x205 x206 x207 x208 x209 x210 x211 x212 x213 x214 x215 x216 x217 x218 x219 x220 x221 x222 x223 x224 x225 x226 x227 x228 x229 x230 x231 x232 x233 x234 x235 x236 x237 x238 x239 x240 x241 x242 x243 x244 x245 x246 x247 x248 x249 x250 x251 x252 x253 x254 x255 x256 x257 x258 x259 x260 x261 x262 x263 x264 x265 x266 x267 x268 x269 x270 x271 x272 x273 x274 x275 x276 x277 x278 x279 x280 x281 x282 x283 x284 x285 x286 x287 x288 x289 x290 x291 x292 x293 x294 x295 x296 x297 x298 x299 x300 x301 x302 x303 x304 x305 x306 x307 x308 x309 x310 x311 x312 x313 x314 x315 x316 x317 x318 x319 x320 x321 x322 x323 x324 x325 x326 x327 x328 x329 x330 x331 x332 x333 x334 x335 x336 x337 x338 x339 x340 x341 x342 x343 x344 x345 x346 x347 x348 x349 x350 x351 x352 x353 x354 x355 x356 x357 x358 x359 x360 x361 x362 x363 x364 x365 x366 x367 x368 x369 x370 x371 x372 x373 x374 x375 x376 : Value) (ds : _) (Q : Exit → Act → World → Prop) (W0 : World)
    (HE : Hid (Es hi gc gr g c m M z w W0)) (HB : Hid (Bx hi gr g m gf f W0)) (HRM : Hid (El.AllR m M)) (HRf : Hid (Fq.R f)) (hk : k < m) (hr : r < m) (hj : j ≤ m) (hP : ∀ c (a : Act) o v w, Q (.panic c) (a.put o v) w → Q (.panic c) a w)
    (hQ : ∀ (y240 y241 y242 y243 y244 y245 y246 y247 y248 y249 y250 y251 y252 y253 y254 y255 y256 y257 y258 y259 y260 y261 y262 y263 y264 y265 y266 : Value) (WZ : World) (q1 q2 : Int × Int), q1 = Fq.mul f (M k j) → q2 = Fq.sub (M r j) (Fq.tkv q1) → Hid (Es hi gc gr g c m (upd2 M r j (Fq.tkv q2)) (Fq.tkz q2 (Fq.tkz q1 z)) w WZ) → Hid (Bx hi gr g m gf f WZ) → Q .normal { tmps := #[x0, x1, x2, x3, (.pointer (some ⟨gc, 0, none⟩)), x5, x6, x7, x8, (.slice (some ⟨gr, 0, none⟩) m rk), x10, x11, x12, x13, x14, x15, x16, x17, (.int .i64 k), (.int .i64 r), (.pointer (some ⟨gf, 0, none⟩)), (.int .i64 j), x22, x23, x24, x25, x26, x27, x28, x29, x30, x31, x32, x33, x34, x35, x36, x37, x38, x39, x40, x41, x42, x43, x44, x45, x46, x47, x48, x49, x50, x51, x52, x53, x54, x55, x56, x57, x58, x59, x60, x61, x62, x63, x64, x65, x66, x67, x68, x69, x70, x71, x72, x73, x74, x75, x76, x77, x78, x79, x80, x81, x82, x83, x84, x85, x86, x87, x88, x89, x90, x91, x92, x93, x94, x95, x96, x97, x98, x99, x100, x101, x102, x103, x104, x105, x106, x107, x108, x109, x110, x111, x112, x113, x114, x115, x116, x117, x118, x119, x120, x121, x122, x123, x124, x125, x126, x127, x128, x129, x130, x131, x132, x133, x134, x135, x136, x137, x138, x139, x140, x141, x142, x143, x144, x145, x146, x147, x148, x149, x150, x151, x152, x153, x154, x155, x156, x157, x158, x159, x160, x161, x162, x163, x164, x165, x166, x167, x168, x169, x170, x171, x172, x173, x174, x175, x176, x177, x178, x179, x180, x181, x182, x183, x184, x185, x186, x187, x188, x189, x190, x191, x192, x193, x194, x195, x196, x197, x198, x199, x200, x201, x202, x203, x204, x205, x206, x207, x208, x209, x210, x211, x212, x213, x214, x215, x216, x217, x218, x219, x220, x221, x222, x223, x224, x225, x226, x227, x228, x229, x230, x231, x232, x233, x234, x235, x236, x237, x238, x239, y240, y241, y242, y243, y244, y245, y246, y247, y248, y249, y250, y251, y252, y253, y254, y255, y256, y257, y258, y259, y260, y261, y262, y263, y264, y265, y266, x267, x268, x269, x270, x271, x272, x273, x274, x275, x276, x277, x278, x279, x280, x281, x282, x283, x284, x285, x286, x287, x288, x289, x290, x291, x292, x293, x294, x295, x296, x297, x298, x299, x300, x301, x302, x303, x304, x305, x306, x307, x308, x309, x310, x311, x312, x313, x314, x315, x316, x317, x318, x319, x320, x321, x322, x323, x324, x325, x326, x327, x328, x329, x330, x331, x332, x333, x334, x335, x336, x337, x338, x339, x340, x341, x342, x343, x344, x345, x346, x347, x348, x349, x350, x351, x352, x353, x354, x355, x356, x357, x358, x359, x360, x361, x362, x363, x364, x365, x366, x367, x368, x369, x370, x371, x372, x373, x374, x375, x376], defers := ds } WZ) :
    (Code.region 54 #[{ dst := some 240, op := Op.move (Operand.tmp 9), type := 62, pos := "l07_linear.go:124", after := #[], guard := none }, { dst := some 241, op := Op.move (Operand.tmp 19), type := 3, pos := "l07_linear.go:124", after := #[], guard := none }, { dst := some 242, op := Op.indexAddr 62 (Operand.tmp 240) (Operand.tmp 241), type := 0, pos := "l07_linear.go:124", after := #[{ on := 0, ground := Ground.data }, { on := 1, ground := Ground.data }], guard := none }, { dst := some 243, op := Op.load 29 (Operand.tmp 242), type := 29, pos := "l07_linear.go:124", after := #[{ on := 2, ground := Ground.data }], guard := none }, { dst := some 244, op := Op.move (Operand.tmp 21), type := 3, pos := "l07_linear.go:124", after := #[], guard := none }, { dst := some 245, op := Op.move (Operand.tmp 4), type := 57, pos := "l07_linear.go:124", after := #[], guard := none }, { dst := some 246, op := Op.move (Operand.tmp 9), type := 62, pos := "l07_linear.go:124", after := #[], guard := none }, { dst := some 247, op := Op.move (Operand.tmp 19), type := 3, pos := "l07_linear.go:124", after := #[], guard := none }, { dst := some 248, op := Op.indexAddr 62 (Operand.tmp 246) (Operand.tmp 247), type := 0, pos := "l07_linear.go:124", after := #[{ on := 6, ground := Ground.data }, { on := 7, ground := Ground.data }], guard := none }, { dst := some 249, op := Op.load 29 (Operand.tmp 248), type := 29, pos := "l07_linear.go:124", after := #[{ on := 8, ground := Ground.data }], guard := none }, { dst := some 250, op := Op.move (Operand.tmp 21), type := 3, pos := "l07_linear.go:124", after := #[], guard := none }, { dst := some 251, op := Op.indexAddr 29 (Operand.tmp 249) (Operand.tmp 250), type := 0, pos := "l07_linear.go:124", after := #[{ on := 9, ground := Ground.data }, { on := 10, ground := Ground.data }], guard := none }, { dst := some 252, op := Op.load 35 (Operand.tmp 251), type := 35, pos := "l07_linear.go:124", after := #[{ on := 11, ground := Ground.data }], guard := none }, { dst := some 253, op := Op.move (Operand.tmp 4), type := 57, pos := "l07_linear.go:124", after := #[], guard := none }, { dst := some 254, op := Op.load 35 (Operand.tmp 20), type := 35, pos := "l07_linear.go:124", after := #[], guard := none }, { dst := some 255, op := Op.move (Operand.tmp 9), type := 62, pos := "l07_linear.go:124", after := #[], guard := none }, { dst := some 256, op := Op.move (Operand.tmp 18), type := 3, pos := "l07_linear.go:124", after := #[], guard := none }, { dst := some 257, op := Op.indexAddr 62 (Operand.tmp 255) (Operand.tmp 256), type := 0, pos := "l07_linear.go:124", after := #[{ on := 15, ground := Ground.data }, { on := 16, ground := Ground.data }], guard := none }, { dst := some 258, op := Op.load 29 (Operand.tmp 257), type := 29, pos := "l07_linear.go:124", after := #[{ on := 17, ground := Ground.data }], guard := none }, { dst := some 259, op := Op.move (Operand.tmp 21), type := 3, pos := "l07_linear.go:124", after := #[], guard := none }, { dst := some 260, op := Op.indexAddr 29 (Operand.tmp 258) (Operand.tmp 259), type := 0, pos := "l07_linear.go:124", after := #[{ on := 18, ground := Ground.data }, { on := 19, ground := Ground.data }], guard := none }, { dst := some 261, op := Op.load 35 (Operand.tmp 260), type := 35, pos := "l07_linear.go:124", after := #[{ on := 20, ground := Ground.data }], guard := none }, { dst := some 262, op := Op.call { callee := Callee.value (Operand.func 29), args := #[Operand.tmp 254, Operand.tmp 261], argTypes := #[35, 35] }, type := 65, pos := "l07_linear.go:124", after := #[{ on := 14, ground := Ground.data }, { on := 21, ground := Ground.data }], guard := none }, { dst := some 263, op := Op.call { callee := Callee.value (Operand.func 24), args := #[Operand.tmp 253, Operand.tmp 262], argTypes := #[57, 65] }, type := 35, pos := "l07_linear.go:124", after := #[{ on := 13, ground := Ground.data }, { on := 22, ground := Ground.data }, { on := 22, ground := Ground.chain }], guard := none }, { dst := some 264, op := Op.call { callee := Callee.value (Operand.func 28), args := #[Operand.tmp 252, Operand.tmp 263], argTypes := #[35, 35] }, type := 65, pos := "l07_linear.go:124", after := #[{ on := 12, ground := Ground.data }, { on := 23, ground := Ground.data }, { on := 23, ground := Ground.chain }], guard := none }, { dst := some 265, op := Op.call { callee := Callee.value (Operand.func 24), args := #[Operand.tmp 245, Operand.tmp 264], argTypes := #[57, 65] }, type := 35, pos := "l07_linear.go:124", after := #[{ on := 5, ground := Ground.data }, { on := 24, ground := Ground.data }, { on := 24, ground := Ground.chain }], guard := none }, { dst := some 266, op := Op.indexAddr 29 (Operand.tmp 243) (Operand.tmp 244), type := 0, pos := "l07_linear.go:124", after := #[{ on := 3, ground := Ground.data }, { on := 4, ground := Ground.data }, { on := 0, ground := Ground.phase }, { on := 1, ground := Ground.phase }, { on := 2, ground := Ground.phase }, { on := 3, ground := Ground.phase }, { on := 4, ground := Ground.phase }, { on := 5, ground := Ground.phase }, { on := 6, ground := Ground.phase }, { on := 7, ground := Ground.phase }, { on := 8, ground := Ground.phase }, { on := 9, ground := Ground.phase }, { on := 10, ground := Ground.phase }, { on := 11, ground := Ground.phase }, { on := 12, ground := Ground.phase }, { on := 13, ground := Ground.phase }, { on := 14, ground := Ground.phase }, { on := 15, ground := Ground.phase }, { on := 16, ground := Ground.phase }, { on := 17, ground := Ground.phase }, { on := 18, ground := Ground.phase }, { on := 19, ground := Ground.phase }, { on := 20, ground := Ground.phase }, { on := 21, ground := Ground.phase }, { on := 22, ground := Ground.phase }, { on := 23, ground := Ground.phase }, { on := 24, ground := Ground.phase }, { on := 25, ground := Ground.phase }], guard := none }, { dst := none, op := Op.store 35 (Operand.tmp 266) (Operand.tmp 265), type := 0, pos := "l07_linear.go:124", after := #[{ on := 26, ground := Ground.data }, { on := 25, ground := Ground.data }, { on := 25, ground := Ground.chain }, { on := 0, ground := Ground.phase }, { on := 1, ground := Ground.phase }, { on := 2, ground := Ground.phase }, { on := 3, ground := Ground.phase }, { on := 4, ground := Ground.phase }, { on := 5, ground := Ground.phase }, { on := 6, ground := Ground.phase }, { on := 7, ground := Ground.phase }, { on := 8, ground := Ground.phase }, { on := 9, ground := Ground.phase }, { on := 10, ground := Ground.phase }, { on := 11, ground := Ground.phase }, { on := 12, ground := Ground.phase }, { on := 13, ground := Ground.phase }, { on := 14, ground := Ground.phase }, { on := 15, ground := Ground.phase }, { on := 16, ground := Ground.phase }, { on := 17, ground := Ground.phase }, { on := 18, ground := Ground.phase }, { on := 19, ground := Ground.phase }, { on := 20, ground := Ground.phase }, { on := 21, ground := Ground.phase }, { on := 22, ground := Ground.phase }, { on := 23, ground := Ground.phase }, { on := 24, ground := Ground.phase }, { on := 25, ground := Ground.phase }], guard := none }] true).wp Tryz.prog Q { tmps := #[x0, x1, x2, x3, (.pointer (some ⟨gc, 0, none⟩)), x5, x6, x7, x8, (.slice (some ⟨gr, 0, none⟩) m rk), x10, x11, x12, x13, x14, x15, x16, x17, (.int .i64 k), (.int .i64 r), (.pointer (some ⟨gf, 0, none⟩)), (.int .i64 j), x22, x23, x24, x25, x26, x27, x28, x29, x30, x31, x32, x33, x34, x35, x36, x37, x38, x39, x40, x41, x42, x43, x44, x45, x46, x47, x48, x49, x50, x51, x52, x53, x54, x55, x56, x57, x58, x59, x60, x61, x62, x63, x64, x65, x66, x67, x68, x69, x70, x71, x72, x73, x74, x75, x76, x77, x78, x79, x80, x81, x82, x83, x84, x85, x86, x87, x88, x89, x90, x91, x92, x93, x94, x95, x96, x97, x98, x99, x100, x101, x102, x103, x104, x105, x106, x107, x108, x109, x110, x111, x112, x113, x114, x115, x116, x117, x118, x119, x120, x121, x122, x123, x124, x125, x126, x127, x128, x129, x130, x131, x132, x133, x134, x135, x136, x137, x138, x139, x140, x141, x142, x143, x144, x145, x146, x147, x148, x149, x150, x151, x152, x153, x154, x155, x156, x157, x158, x159, x160, x161, x162, x163, x164, x165, x166, x167, x168, x169, x170, x171, x172, x173, x174, x175, x176, x177, x178, x179, x180, x181, x182, x183, x184, x185, x186, x187, x188, x189, x190, x191, x192, x193, x194, x195, x196, x197, x198, x199, x200, x201, x202, x203, x204, x205, x206, x207, x208, x209, x210, x211, x212, x213, x214, x215, x216, x217, x218, x219, x220, x221, x222, x223, x224, x225, x226, x227, x228, x229, x230, x231, x232, x233, x234, x235, x236, x237, x238, x239, x240, x241, x242, x243, x244, x245, x246, x247, x248, x249, x250, x251, x252, x253, x254, x255, x256, x257, x258, x259, x260, x261, x262, x263, x264, x265, x266, x267, x268, x269, x270, x271, x272, x273, x274, x275, x276, x277, x278, x279, x280, x281, x282, x283, x284, x285, x286, x287, x288, x289, x290, x291, x292, x293, x294, x295, x296, x297, x298, x299, x300, x301, x302, x303, x304, x305, x306, x307, x308, x309, x310, x311, x312, x313, x314, x315, x316, x317, x318, x319, x320, x321, x322, x323, x324, x325, x326, x327, x328, x329, x330, x331, x332, x333, x334, x335, x336, x337, x338, x339, x340, x341, x342, x343, x344, x345, x346, x347, x348, x349, x350, x351, x352, x353, x354, x355, x356, x357, x358, x359, x360, x361, x362, x363, x364, x365, x366, x367, x368, x369, x370, x371, x372, x373, x374, x375, x376], defers := ds } W0 := by
  have hkz : (k : Int) < (m : Int) := by omega
  have hrz : (r : Int) < (m : Int) := by omega
  have hjz : (j : Int) < (m : Int) + 1 := by omega
  refine region_L (fun V => Mt hi gr g c m M V ∧ Bx hi gr g m gf f V) 27 (by kernel_rfl) ⟨HE.out.mt.below (Below.refl _ _).drew, HB.out.below (Below.refl _ _).drew⟩ (fun hHeld => ?_)
  obtain ⟨Z, hZ⟩ : ∃ Z, Z = W0.drew := ⟨_, rfl⟩
  replace HE := Lib.hid (HE.out.below (Below.refl _ _).drew)
  replace HB := Lib.hid (HB.out.below (Below.refl _ _).drew)
  rw [← hZ] at hHeld HE HB ⊢
  clear hZ
  refine takeL_do (i := 0) (v := (.slice (some ⟨gr, 0, none⟩) m rk)) rfl (by kernel_rfl) (by kernel_rfl) (by kernel_rfl) (by kernel_rfl) (fun _ _ _ h => hP _ _ _ _ _ h) (by rfl) ?_ (by assumption) ?_
  · intro w hSw
    skip
    go_simp
  simp only [Act.put, List.setIfInBounds_toArray, List.set_cons_zero, List.set_cons_succ]
  refine takeL_do (i := 1) (v := (.int .i64 r)) rfl (by kernel_rfl) (by kernel_rfl) (by kernel_rfl) (by kernel_rfl) (fun _ _ _ h => hP _ _ _ _ _ h) (by rfl) ?_ (by assumption) ?_
  · intro w hSw
    skip
    go_simp
  simp only [Act.put, List.setIfInBounds_toArray, List.set_cons_zero, List.set_cons_succ]
  refine takeL_do (i := 2) (v := (.pointer (some ⟨gr, r, none⟩))) rfl (by kernel_rfl) (by kernel_rfl) (by kernel_rfl) (by kernel_rfl) (fun _ _ _ h => hP _ _ _ _ _ h) (by rfl) ?_ (by assumption) ?_
  · intro w hSw
    skip
    go_simp
  simp only [Act.put, List.setIfInBounds_toArray, List.set_cons_zero, List.set_cons_succ]
  refine takeL_do (i := 3) (v := (.slice (some ⟨g r, 0, none⟩) (m + 1) (c r))) rfl (by kernel_rfl) (by kernel_rfl) (by kernel_rfl) (by kernel_rfl) (fun _ _ _ h => hP _ _ _ _ _ h) (by rfl) ?_ (by assumption) ?_
  · intro w hSw
    have l0 := hSw.1.list r hr
    go_simp
  simp only [Act.put, List.setIfInBounds_toArray, List.set_cons_zero, List.set_cons_succ]
  refine takeL_do (i := 4) (v := (.int .i64 j)) rfl (by kernel_rfl) (by kernel_rfl) (by kernel_rfl) (by kernel_rfl) (fun _ _ _ h => hP _ _ _ _ _ h) (by rfl) ?_ (by assumption) ?_
  · intro w hSw
    skip
    go_simp
  simp only [Act.put, List.setIfInBounds_toArray, List.set_cons_zero, List.set_cons_succ]
  refine takeL_do (i := 5) (v := (.pointer (some ⟨gc, 0, none⟩))) rfl (by kernel_rfl) (by kernel_rfl) (by kernel_rfl) (by kernel_rfl) (fun _ _ _ h => hP _ _ _ _ _ h) (by rfl) ?_ (by assumption) ?_
  · intro w hSw
    skip
    go_simp
  simp only [Act.put, List.setIfInBounds_toArray, List.set_cons_zero, List.set_cons_succ]
  refine takeL_do (i := 6) (v := (.slice (some ⟨gr, 0, none⟩) m rk)) rfl (by kernel_rfl) (by kernel_rfl) (by kernel_rfl) (by kernel_rfl) (fun _ _ _ h => hP _ _ _ _ _ h) (by rfl) ?_ (by assumption) ?_
  · intro w hSw
    skip
    go_simp
  simp only [Act.put, List.setIfInBounds_toArray, List.set_cons_zero, List.set_cons_succ]
  refine takeL_do (i := 7) (v := (.int .i64 r)) rfl (by kernel_rfl) (by kernel_rfl) (by kernel_rfl) (by kernel_rfl) (fun _ _ _ h => hP _ _ _ _ _ h) (by rfl) ?_ (by assumption) ?_
  · intro w hSw
    skip
    go_simp
  simp only [Act.put, List.setIfInBounds_toArray, List.set_cons_zero, List.set_cons_succ]
  refine takeL_do (i := 8) (v := (.pointer (some ⟨gr, r, none⟩))) rfl (by kernel_rfl) (by kernel_rfl) (by kernel_rfl) (by kernel_rfl) (fun _ _ _ h => hP _ _ _ _ _ h) (by rfl) ?_ (by assumption) ?_
  · intro w hSw
    skip
    go_simp
  simp only [Act.put, List.setIfInBounds_toArray, List.set_cons_zero, List.set_cons_succ]
  refine takeL_do (i := 9) (v := (.slice (some ⟨g r, 0, none⟩) (m + 1) (c r))) rfl (by kernel_rfl) (by kernel_rfl) (by kernel_rfl) (by kernel_rfl) (fun _ _ _ h => hP _ _ _ _ _ h) (by rfl) ?_ (by assumption) ?_
  · intro w hSw
    have l0 := hSw.1.list r hr
    go_simp
  simp only [Act.put, List.setIfInBounds_toArray, List.set_cons_zero, List.set_cons_succ]
  refine takeL_do (i := 10) (v := (.int .i64 j)) rfl (by kernel_rfl) (by kernel_rfl) (by kernel_rfl) (by kernel_rfl) (fun _ _ _ h => hP _ _ _ _ _ h) (by rfl) ?_ (by assumption) ?_
  · intro w hSw
    skip
    go_simp
  simp only [Act.put, List.setIfInBounds_toArray, List.set_cons_zero, List.set_cons_succ]
  refine takeL_do (i := 11) (v := (.pointer (some ⟨g r, j * 2, none⟩))) rfl (by kernel_rfl) (by kernel_rfl) (by kernel_rfl) (by kernel_rfl) (fun _ _ _ h => hP _ _ _ _ _ h) (by rfl) ?_ (by assumption) ?_
  · intro w hSw
    skip
    go_simp
  simp only [Act.put, List.setIfInBounds_toArray, List.set_cons_zero, List.set_cons_succ]
  refine takeL_do (i := 12) (v := (frV (M r j))) rfl (by kernel_rfl) (by kernel_rfl) (by kernel_rfl) (by kernel_rfl) (fun _ _ _ h => hP _ _ _ _ _ h) (by rfl) ?_ (by assumption) ?_
  · intro w hSw
    obtain ⟨l0, l1⟩ := hSw.1.cell0 (r := r) (j := j) hr hj
    go_simp
  simp only [Act.put, List.setIfInBounds_toArray, List.set_cons_zero, List.set_cons_succ]
  refine takeL_do (i := 13) (v := (.pointer (some ⟨gc, 0, none⟩))) rfl (by kernel_rfl) (by kernel_rfl) (by kernel_rfl) (by kernel_rfl) (fun _ _ _ h => hP _ _ _ _ _ h) (by rfl) ?_ (by assumption) ?_
  · intro w hSw
    skip
    go_simp
  simp only [Act.put, List.setIfInBounds_toArray, List.set_cons_zero, List.set_cons_succ]
  refine takeL_do (i := 14) (v := (frV f)) rfl (by kernel_rfl) (by kernel_rfl) (by kernel_rfl) (by kernel_rfl) (fun _ _ _ h => hP _ _ _ _ _ h) (by rfl) ?_ (by assumption) ?_
  · intro w hSw
    obtain ⟨l0, l1⟩ := frN2 hSw.2.row
    go_simp
  simp only [Act.put, List.setIfInBounds_toArray, List.set_cons_zero, List.set_cons_succ]
  refine takeL_do (i := 15) (v := (.slice (some ⟨gr, 0, none⟩) m rk)) rfl (by kernel_rfl) (by kernel_rfl) (by kernel_rfl) (by kernel_rfl) (fun _ _ _ h => hP _ _ _ _ _ h) (by rfl) ?_ (by assumption) ?_
  · intro w hSw
    skip
    go_simp
  simp only [Act.put, List.setIfInBounds_toArray, List.set_cons_zero, List.set_cons_succ]
  refine takeL_do (i := 16) (v := (.int .i64 k)) rfl (by kernel_rfl) (by kernel_rfl) (by kernel_rfl) (by kernel_rfl) (fun _ _ _ h => hP _ _ _ _ _ h) (by rfl) ?_ (by assumption) ?_
  · intro w hSw
    skip
    go_simp
  simp only [Act.put, List.setIfInBounds_toArray, List.set_cons_zero, List.set_cons_succ]
  refine takeL_do (i := 17) (v := (.pointer (some ⟨gr, k, none⟩))) rfl (by kernel_rfl) (by kernel_rfl) (by kernel_rfl) (by kernel_rfl) (fun _ _ _ h => hP _ _ _ _ _ h) (by rfl) ?_ (by assumption) ?_
  · intro w hSw
    skip
    go_simp
  simp only [Act.put, List.setIfInBounds_toArray, List.set_cons_zero, List.set_cons_succ]
  refine takeL_do (i := 18) (v := (.slice (some ⟨g k, 0, none⟩) (m + 1) (c k))) rfl (by kernel_rfl) (by kernel_rfl) (by kernel_rfl) (by kernel_rfl) (fun _ _ _ h => hP _ _ _ _ _ h) (by rfl) ?_ (by assumption) ?_
  · intro w hSw
    have l0 := hSw.1.list k hk
    go_simp
  simp only [Act.put, List.setIfInBounds_toArray, List.set_cons_zero, List.set_cons_succ]
  refine takeL_do (i := 19) (v := (.int .i64 j)) rfl (by kernel_rfl) (by kernel_rfl) (by kernel_rfl) (by kernel_rfl) (fun _ _ _ h => hP _ _ _ _ _ h) (by rfl) ?_ (by assumption) ?_
  · intro w hSw
    skip
    go_simp
  simp only [Act.put, List.setIfInBounds_toArray, List.set_cons_zero, List.set_cons_succ]
  refine takeL_do (i := 20) (v := (.pointer (some ⟨g k, j * 2, none⟩))) rfl (by kernel_rfl) (by kernel_rfl) (by kernel_rfl) (by kernel_rfl) (fun _ _ _ h => hP _ _ _ _ _ h) (by rfl) ?_ (by assumption) ?_
  · intro w hSw
    skip
    go_simp
  simp only [Act.put, List.setIfInBounds_toArray, List.set_cons_zero, List.set_cons_succ]
  refine takeL_do (i := 21) (v := (frV (M k j))) rfl (by kernel_rfl) (by kernel_rfl) (by kernel_rfl) (by kernel_rfl) (fun _ _ _ h => hP _ _ _ _ _ h) (by rfl) ?_ (by assumption) ?_
  · intro w hSw
    obtain ⟨l0, l1⟩ := hSw.1.cell0 (r := k) (j := j) hk hj
    go_simp
  simp only [Act.put, List.setIfInBounds_toArray, List.set_cons_zero, List.set_cons_succ]
  obtain ⟨q1, hq1⟩ : ∃ q, q = Fq.mul f (M k j) := ⟨_, rfl⟩
  have HCq1 := Lib.hid (fun (V : World) => nspecMul f (M k j) V HRf.out (HRM.out k j hk hj))
  rw [← hq1] at HCq1
  have Hq1 := Lib.hid hq1
  clear hq1
  refine takeL_call (i := 22) rfl (by kernel_rfl) (fun K2 hK => ?_)
  go_simp
  refine (HCq1.out _).mono ?_
  rintro e Z1 ⟨rfl, hb⟩
  replace HE := Lib.hid (HE.out.below hb)
  replace HB := Lib.hid (HB.out.below hb)
  clear hb HCq1
  go_wp2_with fail
  refine hK.out _ _ ⟨HE.out.mt, HB.out⟩ (fun hHeld2 => ?_)
  clear hK hHeld
  have hHeld := hHeld2
  clear hHeld2
  obtain ⟨p1, hp1⟩ : ∃ v, v = Fq.tkv q1 := ⟨_, rfl⟩
  obtain ⟨z1, hz1⟩ : ∃ v, v = Fq.tkz q1 z := ⟨_, rfl⟩
  have HCp1 := Lib.hid (take_any gc q1 z _ HE.out.rc)
  rw [← hp1, ← hz1] at HCp1
  have Hp1 := Lib.hid hp1
  have Hz1 := Lib.hid hz1
  clear hp1 hz1
  refine takeL_call (i := 23) rfl (by kernel_rfl) (fun K2 hK => ?_)
  go_simp
  refine HCp1.out.mono ?_
  rintro e Z2 ⟨rfl, hrz, hon⟩
  replace HB := Lib.hid (HB.out.only hon HE.out.gl)
  replace HE := Lib.hid (HE.out.take hrz hon)
  clear hrz hon HCp1
  go_wp2_with fail
  refine hK.out _ _ ⟨HE.out.mt, HB.out⟩ (fun hHeld2 => ?_)
  clear hK hHeld
  have hHeld := hHeld2
  clear hHeld2
  have HRp : Hid (Fq.R p1) := by show Fq.R _; rw [Hp1.out, Hq1.out]; exact Fq.tkv_right (Fq.mul_fit HRf.out (HRM.out k j hk hj))
  obtain ⟨q2, hq2⟩ : ∃ q, q = Fq.sub (M r j) p1 := ⟨_, rfl⟩
  have HCq2 := Lib.hid (fun (V : World) => nspecSub (M r j) p1 V (HRM.out r j hr hj) HRp.out)
  rw [← hq2] at HCq2
  have Hq2 := Lib.hid hq2
  clear hq2
  refine takeL_call (i := 24) rfl (by kernel_rfl) (fun K2 hK => ?_)
  go_simp
  refine (HCq2.out _).mono ?_
  rintro e Z3 ⟨rfl, hb⟩
  replace HE := Lib.hid (HE.out.below hb)
  replace HB := Lib.hid (HB.out.below hb)
  clear hb HCq2
  go_wp2_with fail
  refine hK.out _ _ ⟨HE.out.mt, HB.out⟩ (fun hHeld2 => ?_)
  clear hK hHeld
  have hHeld := hHeld2
  clear hHeld2
  obtain ⟨p2, hp2⟩ : ∃ v, v = Fq.tkv q2 := ⟨_, rfl⟩
  obtain ⟨z2, hz2⟩ : ∃ v, v = Fq.tkz q2 z1 := ⟨_, rfl⟩
  have HCp2 := Lib.hid (take_any gc q2 z1 _ HE.out.rc)
  rw [← hp2, ← hz2] at HCp2
  have Hp2 := Lib.hid hp2
  have Hz2 := Lib.hid hz2
  clear hp2 hz2
  refine takeL_call (i := 25) rfl (by kernel_rfl) (fun K2 hK => ?_)
  go_simp
  refine HCp2.out.mono ?_
  rintro e Z4 ⟨rfl, hrz, hon⟩
  replace HB := Lib.hid (HB.out.only hon HE.out.gl)
  replace HE := Lib.hid (HE.out.take hrz hon)
  clear hrz hon HCp2
  go_wp2_with fail
  refine hK.out _ _ ⟨HE.out.mt, HB.out⟩ (fun hHeld2 => ?_)
  clear hK hHeld
  have hHeld := hHeld2
  clear hHeld2
  refine takeL_do (i := 26) (v := (.pointer (some ⟨g r, j * 2, none⟩))) rfl (by kernel_rfl) (by kernel_rfl) (by kernel_rfl) (by kernel_rfl) (fun _ _ _ h => hP _ _ _ _ _ h) (by rfl) ?_ (by assumption) ?_
  · intro w hSw
    skip
    go_simp
  simp only [Act.put, List.setIfInBounds_toArray, List.set_cons_zero, List.set_cons_succ]
  obtain ⟨o0, o1⟩ := HE.out.mt.cell0 (r := r) (j := j) hr hj
  have z0 := (HE.out.mt.rows r hr).frozen (j * 2)
  have z1' := (HE.out.mt.rows r hr).frozen (j * 2 + 1)
  have l0 := (HE.out.mt.rows r hr).lt
  obtain ⟨WZ, hWZ⟩ : ∃ WZ, WZ = (Z4.setCell ⟨g r, j * 2, none⟩ (.int .i64 p2.1)).setCell ⟨g r, j * 2 + 1, none⟩ (.int .i64 p2.2) := ⟨_, rfl⟩
  have HE2 := Lib.hid (HE.out.put (j := j) hr p2)
  have HB2 := Lib.hid (HB.out.put hr (j * 2) (j * 2 + 1) (.int .i64 p2.1) (.int .i64 p2.2))
  rw [← hWZ] at HE2 HB2
  have HWZ := Lib.hid hWZ
  clear hWZ
  refine takeL_last rfl (by kernel_rfl) (by kernel_rfl) (fun K2 hK => ?_)
  go_simp
  rw [← HWZ.out]
  refine hK.out _ _ ?_
  clear hK hHeld HWZ o0 o1 z0 z1' l0 HE HB
  exact hQ _ _ _ _ _ _ _ _ _ _ _ _ _ _ _ _ _ _ _ _ _ _ _ _ _ _ _ _ q1 q2 Hq1.out (by rw [Hq2.out, Hp1.out]) (by rw [Hz2.out, Hz1.out] at HE2; rw [Hp2.out] at HE2; exact HE2) HB2
end Go.Proofs.YtkaokfmaecdkiaaGreatDoor
namespace Go.Proofs.YtkaokfmaecdkiaaGreatDoor
open Go Go.RowKit Go.Deep

set_option maxRecDepth 100000 in
set_option maxHeartbeats 32000000 in
theorem sloop5 {w : World} (hi gc gr : Nat) (g c : Nat → Nat) (m rk : Nat) (ra : Option Addr) (U M : El.Mx) (Z : Prop) (z : Int) (x0 x1 x2 x3 x5 x6 x7 x10 x11 x12 x13 x14 x15 x16 x17 x19 x20 x21 x22 x23 x24 x25 x26 x27 x28 x29 x30 x31 x32 x33 x34 x35 x36 x37 x38 x39 x40 x41 x42 x43 x44 x45 x46 x47 x48 x49 x50 x51 x52 x53 x54 x55 x56 x57 x58 x59 x60 x61 x62 x63 x64 x65 x66 x67 x68 x69 x70 x71 x72 x73 x74 x75 x76 x77 x78 x79 x80 x81 x82 x83 x84 x85 x86 x87 x88 x89 x90 x91 x92 x93 x94 x95 x96 x97 x98 x99 x100 x101 x102 x103 x104 x105 x106 x107 x108 x109 x110 x111 x112 x113 x114 x115 x116 x117 x118 x119 x120 x121 x122 x123 x124 x125 x126 x127 x128 x129 x130 x131 x132 x133 x134 x135 x136 x137 x138 x139 x140 x141 x142 x143 x144 x145 x146 x147 x148 x149 x150 x151 x152 x153 x154 x155 x156 x157 x158 x159 x160 x161 x162 x163 x164 x165 x166 x167 x168 x169 x170 x171 x172 x173 x174 x175 x176 x177 x178 x179 x180 x181 x182 x183 x184 x185 x186 x187 x188 x189 x190 x191 x192 x193 x194 x195 x196 x197 x198 x199 x200 x201 x202 x203 x204 x205 x206 x207 x208 x209 x210 x211 x212 x213 x214 x215 x216 x217 x218 x219 x220 x221 x222 x223 x224 x225 x226 x227 x228 x229 x230 x231 x232 x233 x234 x235 x236 x237 x238 x239 x240 x241 x242 x243 x244 x245 x246 x247 x248 x249 x250 x251 x252 x253 x254 x255 x256 x257 x258 x259 x260 x261 x262 x263 x264 x265 x266 x267 x268 x269 x270 x271 x272 x273 x274 x275 x276 x277 x278 x279 x280 x281 x282 x283 x284 x285 x286 x287 x288 x289 x290 x291 x292 x293 x294 x295 x296 x297 x298 x299 x300 x301 x302 x303 x304 x305 x306 x307 x308 x309 x310 x311 x312 x313 x314 x315 x316 x317 x318 x319 x320 x321 x322 x323 x324 x325 x326 x327 x328 x329 x330 x331 x332 x333 x334 x335 x336 x337 x338 x339 x340 x341 x342 x343 x344 x345 x346 x347 x348 x349 x350 x351 x352 x353 x354 x355 x356 x357 x358 x359 x360 x361 x362 x363 x364 x365 x366 x367 x368 x369 x370 x371 x372 x373 x374 x375 x376 : Value) (ds : _) (Q : Exit → Act → World → Prop) (W0 : World)
    (HE : Hid (Es hi gc gr g c m M z w W0)) (HK : Hid (El.Ek m U Z 0 1 z M)) (HZ : Hid (Z → El.Good m U m m)) (hra : 0 < m → ra = some ⟨gr, 0, none⟩) (hm : m ≤ 100)
    (hP : ∀ c (a : Act) o v w, Q (.panic c) (a.put o v) w → Q (.panic c) a w)
    (hQ : ∀ (y18 y19 y20 y21 y195 y196 y197 y198 y199 y200 y201 y202 y203 y204 y205 y206 y207 y208 y209 y210 y211 y212 y213 y214 y215 y216 y217 y218 y219 y220 y221 y222 y223 y224 y225 y226 y227 y228 y229 y230 y231 y232 y233 y234 y235 y236 y237 y238 y239 y240 y241 y242 y243 y244 y245 y246 y247 y248 y249 y250 y251 y252 y253 y254 y255 y256 y257 y258 y259 y260 y261 y262 y263 y264 y265 y266 : Value) (WZ : World) (M : El.Mx) (z : Int), Hid (El.Ek m U Z m (m + 1) z M) → Hid (Es hi gc gr g c m M z w WZ) → Q (.exit 8) { tmps := #[x0, x1, x2, x3, (.pointer (some ⟨gc, 0, none⟩)), x5, x6, x7, (.int .i64 m), (.slice ra m rk), x10, x11, x12, x13, x14, x15, x16, x17, y18, y19, y20, y21, x22, x23, x24, x25, x26, x27, x28, x29, x30, x31, x32, x33, x34, x35, x36, x37, x38, x39, x40, x41, x42, x43, x44, x45, x46, x47, x48, x49, x50, x51, x52, x53, x54, x55, x56, x57, x58, x59, x60, x61, x62, x63, x64, x65, x66, x67, x68, x69, x70, x71, x72, x73, x74, x75, x76, x77, x78, x79, x80, x81, x82, x83, x84, x85, x86, x87, x88, x89, x90, x91, x92, x93, x94, x95, x96, x97, x98, x99, x100, x101, x102, x103, x104, x105, x106, x107, x108, x109, x110, x111, x112, x113, x114, x115, x116, x117, x118, x119, x120, x121, x122, x123, x124, x125, x126, x127, x128, x129, x130, x131, x132, x133, x134, x135, x136, x137, x138, x139, x140, x141, x142, x143, x144, x145, x146, x147, x148, x149, x150, x151, x152, x153, x154, x155, x156, x157, x158, x159, x160, x161, x162, x163, x164, x165, x166, x167, x168, x169, x170, x171, x172, x173, x174, x175, x176, x177, x178, x179, x180, x181, x182, x183, x184, x185, x186, x187, x188, x189, x190, x191, x192, x193, x194, y195, y196, y197, y198, y199, y200, y201, y202, y203, y204, y205, y206, y207, y208, y209, y210, y211, y212, y213, y214, y215, y216, y217, y218, y219, y220, y221, y222, y223, y224, y225, y226, y227, y228, y229, y230, y231, y232, y233, y234, y235, y236, y237, y238, y239, y240, y241, y242, y243, y244, y245, y246, y247, y248, y249, y250, y251, y252, y253, y254, y255, y256, y257, y258, y259, y260, y261, y262, y263, y264, y265, y266, x267, x268, x269, x270, x271, x272, x273, x274, x275, x276, x277, x278, x279, x280, x281, x282, x283, x284, x285, x286, x287, x288, x289, x290, x291, x292, x293, x294, x295, x296, x297, x298, x299, x300, x301, x302, x303, x304, x305, x306, x307, x308, x309, x310, x311, x312, x313, x314, x315, x316, x317, x318, x319, x320, x321, x322, x323, x324, x325, x326, x327, x328, x329, x330, x331, x332, x333, x334, x335, x336, x337, x338, x339, x340, x341, x342, x343, x344, x345, x346, x347, x348, x349, x350, x351, x352, x353, x354, x355, x356, x357, x358, x359, x360, x361, x362, x363, x364, x365, x366, x367, x368, x369, x370, x371, x372, x373, x374, x375, x376], defers := ds } WZ) :
    ((((Code.region 44 #[{ dst := some 195, op := Op.move (Operand.tmp 18), type := 3, pos := "l07_linear.go:117", after := #[], guard := none }, { dst := some 196, op := Op.move (Operand.tmp 8), type := 3, pos := "l07_linear.go:117", after := #[], guard := none }, { dst := some 197, op := Op.binOp BinOp.lss 3 (Operand.tmp 195) (Operand.tmp 196) 3, type := 4, pos := "l07_linear.go:117", after := #[{ on := 0, ground := Ground.data }, { on := 1, ground := Ground.data }], guard := none }] false).seq (Code.cond (Operand.tmp 197) Code.skip (Code.exit 8))).seq ((Code.block 9 ((Code.region 46 #[{ dst := some 200, op := Op.move (Operand.tmp 18), type := 3, pos := "l07_linear.go:118", after := #[], guard := none }, { dst := some 201, op := Op.binOp BinOp.add 3 (Operand.tmp 200) (Operand.const (Value.int IntKind.i64 1)) 3, type := 3, pos := "l07_linear.go:118", after := #[{ on := 0, ground := Ground.data }], guard := none }, { dst := some 19, op := Op.assign (Operand.tmp 201), type := 3, pos := "l07_linear.go:118", after := #[{ on := 1, ground := Ground.data }, { on := 0, ground := Ground.phase }, { on := 1, ground := Ground.phase }], guard := none }] false).seq (Code.block 10 (((Code.region 47 #[{ dst := some 202, op := Op.move (Operand.tmp 19), type := 3, pos := "l07_linear.go:118", after := #[], guard := none }, { dst := some 203, op := Op.move (Operand.tmp 8), type := 3, pos := "l07_linear.go:118", after := #[], guard := none }, { dst := some 204, op := Op.binOp BinOp.lss 3 (Operand.tmp 202) (Operand.tmp 203) 3, type := 4, pos := "l07_linear.go:118", after := #[{ on := 0, ground := Ground.data }, { on := 1, ground := Ground.data }], guard := none }, { dst := some 205, op := Op.move (Operand.tmp 204), type := 4, pos := "l07_linear.go:118", after := #[{ on := 2, ground := Ground.data }], guard := none }, { dst := some 206, op := Op.move (Operand.tmp 4), type := 57, pos := "l07_linear.go:118", after := #[{ on := 3, ground := Ground.guard }], guard := some (3, true) }, { dst := some 207, op := Op.nilCheck (Operand.tmp 206), type := 0, pos := "l07_linear.go:118", after := #[{ on := 4, ground := Ground.data }, { on := 3, ground := Ground.guard }], guard := some (3, true) }, { dst := some 208, op := Op.fieldAddr 59 (Operand.tmp 207) 0, type := 0, pos := "l07_linear.go:118", after := #[{ on := 5, ground := Ground.data }, { on := 3, ground := Ground.guard }], guard := some (3, true) }, { dst := some 209, op := Op.load 2 (Operand.tmp 208), type := 2, pos := "l07_linear.go:118", after := #[{ on := 6, ground := Ground.data }, { on := 3, ground := Ground.guard }], guard := some (3, true) }, { dst := some 210, op := Op.binOp BinOp.eql 2 (Operand.tmp 209) (Operand.const (Value.int IntKind.i64 0)) 2, type := 4, pos := "l07_linear.go:118", after := #[{ on := 7, ground := Ground.data }, { on := 3, ground := Ground.guard }], guard := some (3, true) }, { dst := some 211, op := Op.pick (Operand.tmp 205) (Operand.tmp 210) (Operand.const (Value.bool false)), type := 4, pos := "l07_linear.go:118", after := #[{ on := 3, ground := Ground.data }, { on := 8, ground := Ground.data }], guard := none }] false).seq (Code.cond (Operand.tmp 211) Code.skip (Code.exit 10))).seq ((Code.block 11 ((Code.region 49 #[{ dst := some 214, op := Op.move (Operand.tmp 4), type := 57, pos := "l07_linear.go:119", after := #[], guard := none }, { dst := some 215, op := Op.move (Operand.tmp 9), type := 62, pos := "l07_linear.go:119", after := #[], guard := none }, { dst := some 216, op := Op.move (Operand.tmp 19), type := 3, pos := "l07_linear.go:119", after := #[], guard := none }, { dst := some 217, op := Op.indexAddr 62 (Operand.tmp 215) (Operand.tmp 216), type := 0, pos := "l07_linear.go:119", after := #[{ on := 1, ground := Ground.data }, { on := 2, ground := Ground.data }], guard := none }, { dst := some 218, op := Op.load 29 (Operand.tmp 217), type := 29, pos := "l07_linear.go:119", after := #[{ on := 3, ground := Ground.data }], guard := none }, { dst := some 219, op := Op.move (Operand.tmp 18), type := 3, pos := "l07_linear.go:119", after := #[], guard := none }, { dst := some 220, op := Op.indexAddr 29 (Operand.tmp 218) (Operand.tmp 219), type := 0, pos := "l07_linear.go:119", after := #[{ on := 4, ground := Ground.data }, { on := 5, ground := Ground.data }], guard := none }, { dst := some 221, op := Op.load 35 (Operand.tmp 220), type := 35, pos := "l07_linear.go:119", after := #[{ on := 6, ground := Ground.data }], guard := none }, { dst := some 222, op := Op.move (Operand.tmp 9), type := 62, pos := "l07_linear.go:119", after := #[], guard := none }, { dst := some 223, op := Op.move (Operand.tmp 18), type := 3, pos := "l07_linear.go:119", after := #[], guard := none }, { dst := some 224, op := Op.indexAddr 62 (Operand.tmp 222) (Operand.tmp 223), type := 0, pos := "l07_linear.go:119", after := #[{ on := 8, ground := Ground.data }, { on := 9, ground := Ground.data }], guard := none }, { dst := some 225, op := Op.load 29 (Operand.tmp 224), type := 29, pos := "l07_linear.go:119", after := #[{ on := 10, ground := Ground.data }], guard := none }, { dst := some 226, op := Op.move (Operand.tmp 18), type := 3, pos := "l07_linear.go:119", after := #[], guard := none }, { dst := some 227, op := Op.indexAddr 29 (Operand.tmp 225) (Operand.tmp 226), type := 0, pos := "l07_linear.go:119", after := #[{ on := 11, ground := Ground.data }, { on := 12, ground := Ground.data }], guard := none }, { dst := some 228, op := Op.load 35 (Operand.tmp 227), type := 35, pos := "l07_linear.go:119", after := #[{ on := 13, ground := Ground.data }], guard := none }, { dst := some 229, op := Op.call { callee := Callee.value (Operand.func 27), args := #[Operand.tmp 221, Operand.tmp 228], argTypes := #[35, 35] }, type := 65, pos := "l07_linear.go:119", after := #[{ on := 7, ground := Ground.data }, { on := 14, ground := Ground.data }], guard := none }, { dst := some 230, op := Op.call { callee := Callee.value (Operand.func 24), args := #[Operand.tmp 214, Operand.tmp 229], argTypes := #[57, 65] }, type := 35, pos := "l07_linear.go:119", after := #[{ on := 0, ground := Ground.data }, { on := 15, ground := Ground.data }, { on := 15, ground := Ground.chain }], guard := none }, { dst := some 20, op := Op.alloc 35, type := 0, pos := "l07_linear.go:119", after := #[], guard := none }, { dst := none, op := Op.store 35 (Operand.tmp 20) (Operand.tmp 230), type := 0, pos := "l07_linear.go:119", after := #[{ on := 17, ground := Ground.data }, { on := 16, ground := Ground.data }, { on := 16, ground := Ground.chain }, { on := 0, ground := Ground.phase }, { on := 1, ground := Ground.phase }, { on := 2, ground := Ground.phase }, { on := 3, ground := Ground.phase }, { on := 4, ground := Ground.phase }, { on := 5, ground := Ground.phase }, { on := 6, ground := Ground.phase }, { on := 7, ground := Ground.phase }, { on := 8, ground := Ground.phase }, { on := 9, ground := Ground.phase }, { on := 10, ground := Ground.phase }, { on := 11, ground := Ground.phase }, { on := 12, ground := Ground.phase }, { on := 13, ground := Ground.phase }, { on := 14, ground := Ground.phase }, { on := 15, ground := Ground.phase }, { on := 16, ground := Ground.phase }, { on := 17, ground := Ground.phase }], guard := none }] true).seq (((Code.region 50 #[{ dst := some 231, op := Op.fieldAddr 35 (Operand.tmp 20) 0, type := 0, pos := "l07_linear.go:120", after := #[], guard := none }, { dst := some 232, op := Op.load 2 (Operand.tmp 231), type := 2, pos := "l07_linear.go:120", after := #[{ on := 0, ground := Ground.data }], guard := none }, { dst := some 233, op := Op.binOp BinOp.eql 2 (Operand.tmp 232) (Operand.const (Value.int IntKind.i64 0)) 2, type := 4, pos := "l07_linear.go:120", after := #[{ on := 1, ground := Ground.data }], guard := none }] false).seq (Code.cond (Operand.tmp 233) (Code.exit 11) Code.skip)).seq ((Code.region 51 #[{ dst := some 234, op := Op.move (Operand.tmp 18), type := 3, pos := "l07_linear.go:123", after := #[], guard := none }, { dst := some 21, op := Op.assign (Operand.tmp 234), type := 3, pos := "l07_linear.go:123", after := #[{ on := 0, ground := Ground.data }, { on := 0, ground := Ground.phase }], guard := none }] false).seq (Code.block 12 (((Code.region 52 #[{ dst := some 235, op := Op.move (Operand.tmp 21), type := 3, pos := "l07_linear.go:123", after := #[], guard := none }, { dst := some 236, op := Op.move (Operand.tmp 8), type := 3, pos := "l07_linear.go:123", after := #[], guard := none }, { dst := some 237, op := Op.binOp BinOp.leq 3 (Operand.tmp 235) (Operand.tmp 236) 3, type := 4, pos := "l07_linear.go:123", after := #[{ on := 0, ground := Ground.data }, { on := 1, ground := Ground.data }], guard := none }] false).seq (Code.cond (Operand.tmp 237) Code.skip (Code.exit 12))).seq ((Code.block 13 (Code.region 54 #[{ dst := some 240, op := Op.move (Operand.tmp 9), type := 62, pos := "l07_linear.go:124", after := #[], guard := none }, { dst := some 241, op := Op.move (Operand.tmp 19), type := 3, pos := "l07_linear.go:124", after := #[], guard := none }, { dst := some 242, op := Op.indexAddr 62 (Operand.tmp 240) (Operand.tmp 241), type := 0, pos := "l07_linear.go:124", after := #[{ on := 0, ground := Ground.data }, { on := 1, ground := Ground.data }], guard := none }, { dst := some 243, op := Op.load 29 (Operand.tmp 242), type := 29, pos := "l07_linear.go:124", after := #[{ on := 2, ground := Ground.data }], guard := none }, { dst := some 244, op := Op.move (Operand.tmp 21), type := 3, pos := "l07_linear.go:124", after := #[], guard := none }, { dst := some 245, op := Op.move (Operand.tmp 4), type := 57, pos := "l07_linear.go:124", after := #[], guard := none }, { dst := some 246, op := Op.move (Operand.tmp 9), type := 62, pos := "l07_linear.go:124", after := #[], guard := none }, { dst := some 247, op := Op.move (Operand.tmp 19), type := 3, pos := "l07_linear.go:124", after := #[], guard := none }, { dst := some 248, op := Op.indexAddr 62 (Operand.tmp 246) (Operand.tmp 247), type := 0, pos := "l07_linear.go:124", after := #[{ on := 6, ground := Ground.data }, { on := 7, ground := Ground.data }], guard := none }, { dst := some 249, op := Op.load 29 (Operand.tmp 248), type := 29, pos := "l07_linear.go:124", after := #[{ on := 8, ground := Ground.data }], guard := none }, { dst := some 250, op := Op.move (Operand.tmp 21), type := 3, pos := "l07_linear.go:124", after := #[], guard := none }, { dst := some 251, op := Op.indexAddr 29 (Operand.tmp 249) (Operand.tmp 250), type := 0, pos := "l07_linear.go:124", after := #[{ on := 9, ground := Ground.data }, { on := 10, ground := Ground.data }], guard := none }, { dst := some 252, op := Op.load 35 (Operand.tmp 251), type := 35, pos := "l07_linear.go:124", after := #[{ on := 11, ground := Ground.data }], guard := none }, { dst := some 253, op := Op.move (Operand.tmp 4), type := 57, pos := "l07_linear.go:124", after := #[], guard := none }, { dst := some 254, op := Op.load 35 (Operand.tmp 20), type := 35, pos := "l07_linear.go:124", after := #[], guard := none }, { dst := some 255, op := Op.move (Operand.tmp 9), type := 62, pos := "l07_linear.go:124", after := #[], guard := none }, { dst := some 256, op := Op.move (Operand.tmp 18), type := 3, pos := "l07_linear.go:124", after := #[], guard := none }, { dst := some 257, op := Op.indexAddr 62 (Operand.tmp 255) (Operand.tmp 256), type := 0, pos := "l07_linear.go:124", after := #[{ on := 15, ground := Ground.data }, { on := 16, ground := Ground.data }], guard := none }, { dst := some 258, op := Op.load 29 (Operand.tmp 257), type := 29, pos := "l07_linear.go:124", after := #[{ on := 17, ground := Ground.data }], guard := none }, { dst := some 259, op := Op.move (Operand.tmp 21), type := 3, pos := "l07_linear.go:124", after := #[], guard := none }, { dst := some 260, op := Op.indexAddr 29 (Operand.tmp 258) (Operand.tmp 259), type := 0, pos := "l07_linear.go:124", after := #[{ on := 18, ground := Ground.data }, { on := 19, ground := Ground.data }], guard := none }, { dst := some 261, op := Op.load 35 (Operand.tmp 260), type := 35, pos := "l07_linear.go:124", after := #[{ on := 20, ground := Ground.data }], guard := none }, { dst := some 262, op := Op.call { callee := Callee.value (Operand.func 29), args := #[Operand.tmp 254, Operand.tmp 261], argTypes := #[35, 35] }, type := 65, pos := "l07_linear.go:124", after := #[{ on := 14, ground := Ground.data }, { on := 21, ground := Ground.data }], guard := none }, { dst := some 263, op := Op.call { callee := Callee.value (Operand.func 24), args := #[Operand.tmp 253, Operand.tmp 262], argTypes := #[57, 65] }, type := 35, pos := "l07_linear.go:124", after := #[{ on := 13, ground := Ground.data }, { on := 22, ground := Ground.data }, { on := 22, ground := Ground.chain }], guard := none }, { dst := some 264, op := Op.call { callee := Callee.value (Operand.func 28), args := #[Operand.tmp 252, Operand.tmp 263], argTypes := #[35, 35] }, type := 65, pos := "l07_linear.go:124", after := #[{ on := 12, ground := Ground.data }, { on := 23, ground := Ground.data }, { on := 23, ground := Ground.chain }], guard := none }, { dst := some 265, op := Op.call { callee := Callee.value (Operand.func 24), args := #[Operand.tmp 245, Operand.tmp 264], argTypes := #[57, 65] }, type := 35, pos := "l07_linear.go:124", after := #[{ on := 5, ground := Ground.data }, { on := 24, ground := Ground.data }, { on := 24, ground := Ground.chain }], guard := none }, { dst := some 266, op := Op.indexAddr 29 (Operand.tmp 243) (Operand.tmp 244), type := 0, pos := "l07_linear.go:124", after := #[{ on := 3, ground := Ground.data }, { on := 4, ground := Ground.data }, { on := 0, ground := Ground.phase }, { on := 1, ground := Ground.phase }, { on := 2, ground := Ground.phase }, { on := 3, ground := Ground.phase }, { on := 4, ground := Ground.phase }, { on := 5, ground := Ground.phase }, { on := 6, ground := Ground.phase }, { on := 7, ground := Ground.phase }, { on := 8, ground := Ground.phase }, { on := 9, ground := Ground.phase }, { on := 10, ground := Ground.phase }, { on := 11, ground := Ground.phase }, { on := 12, ground := Ground.phase }, { on := 13, ground := Ground.phase }, { on := 14, ground := Ground.phase }, { on := 15, ground := Ground.phase }, { on := 16, ground := Ground.phase }, { on := 17, ground := Ground.phase }, { on := 18, ground := Ground.phase }, { on := 19, ground := Ground.phase }, { on := 20, ground := Ground.phase }, { on := 21, ground := Ground.phase }, { on := 22, ground := Ground.phase }, { on := 23, ground := Ground.phase }, { on := 24, ground := Ground.phase }, { on := 25, ground := Ground.phase }], guard := none }, { dst := none, op := Op.store 35 (Operand.tmp 266) (Operand.tmp 265), type := 0, pos := "l07_linear.go:124", after := #[{ on := 26, ground := Ground.data }, { on := 25, ground := Ground.data }, { on := 25, ground := Ground.chain }, { on := 0, ground := Ground.phase }, { on := 1, ground := Ground.phase }, { on := 2, ground := Ground.phase }, { on := 3, ground := Ground.phase }, { on := 4, ground := Ground.phase }, { on := 5, ground := Ground.phase }, { on := 6, ground := Ground.phase }, { on := 7, ground := Ground.phase }, { on := 8, ground := Ground.phase }, { on := 9, ground := Ground.phase }, { on := 10, ground := Ground.phase }, { on := 11, ground := Ground.phase }, { on := 12, ground := Ground.phase }, { on := 13, ground := Ground.phase }, { on := 14, ground := Ground.phase }, { on := 15, ground := Ground.phase }, { on := 16, ground := Ground.phase }, { on := 17, ground := Ground.phase }, { on := 18, ground := Ground.phase }, { on := 19, ground := Ground.phase }, { on := 20, ground := Ground.phase }, { on := 21, ground := Ground.phase }, { on := 22, ground := Ground.phase }, { on := 23, ground := Ground.phase }, { on := 24, ground := Ground.phase }, { on := 25, ground := Ground.phase }], guard := none }] true)).seq (Code.region 53 #[{ dst := some 238, op := Op.move (Operand.tmp 21), type := 3, pos := "l07_linear.go:123", after := #[], guard := none }, { dst := some 239, op := Op.binOp BinOp.add 3 (Operand.tmp 238) (Operand.const (Value.int IntKind.i64 1)) 3, type := 3, pos := "l07_linear.go:123", after := #[{ on := 0, ground := Ground.data }], guard := none }, { dst := some 21, op := Op.assign (Operand.tmp 239), type := 3, pos := "l07_linear.go:123", after := #[{ on := 1, ground := Ground.data }, { on := 0, ground := Ground.phase }, { on := 1, ground := Ground.phase }], guard := none }] false))).loop))))).seq (Code.region 48 #[{ dst := some 212, op := Op.move (Operand.tmp 19), type := 3, pos := "l07_linear.go:118", after := #[], guard := none }, { dst := some 213, op := Op.binOp BinOp.add 3 (Operand.tmp 212) (Operand.const (Value.int IntKind.i64 1)) 3, type := 3, pos := "l07_linear.go:118", after := #[{ on := 0, ground := Ground.data }], guard := none }, { dst := some 19, op := Op.assign (Operand.tmp 213), type := 3, pos := "l07_linear.go:118", after := #[{ on := 1, ground := Ground.data }, { on := 0, ground := Ground.phase }, { on := 1, ground := Ground.phase }], guard := none }] false))).loop))).seq (Code.region 45 #[{ dst := some 198, op := Op.move (Operand.tmp 18), type := 3, pos := "l07_linear.go:117", after := #[], guard := none }, { dst := some 199, op := Op.binOp BinOp.add 3 (Operand.tmp 198) (Operand.const (Value.int IntKind.i64 1)) 3, type := 3, pos := "l07_linear.go:117", after := #[{ on := 0, ground := Ground.data }], guard := none }, { dst := some 18, op := Op.assign (Operand.tmp 199), type := 3, pos := "l07_linear.go:117", after := #[{ on := 1, ground := Ground.data }, { on := 0, ground := Ground.phase }, { on := 1, ground := Ground.phase }], guard := none }] false))).loop).wp Tryz.prog Q { tmps := #[x0, x1, x2, x3, (.pointer (some ⟨gc, 0, none⟩)), x5, x6, x7, (.int .i64 m), (.slice ra m rk), x10, x11, x12, x13, x14, x15, x16, x17, (.int .i64 0), x19, x20, x21, x22, x23, x24, x25, x26, x27, x28, x29, x30, x31, x32, x33, x34, x35, x36, x37, x38, x39, x40, x41, x42, x43, x44, x45, x46, x47, x48, x49, x50, x51, x52, x53, x54, x55, x56, x57, x58, x59, x60, x61, x62, x63, x64, x65, x66, x67, x68, x69, x70, x71, x72, x73, x74, x75, x76, x77, x78, x79, x80, x81, x82, x83, x84, x85, x86, x87, x88, x89, x90, x91, x92, x93, x94, x95, x96, x97, x98, x99, x100, x101, x102, x103, x104, x105, x106, x107, x108, x109, x110, x111, x112, x113, x114, x115, x116, x117, x118, x119, x120, x121, x122, x123, x124, x125, x126, x127, x128, x129, x130, x131, x132, x133, x134, x135, x136, x137, x138, x139, x140, x141, x142, x143, x144, x145, x146, x147, x148, x149, x150, x151, x152, x153, x154, x155, x156, x157, x158, x159, x160, x161, x162, x163, x164, x165, x166, x167, x168, x169, x170, x171, x172, x173, x174, x175, x176, x177, x178, x179, x180, x181, x182, x183, x184, x185, x186, x187, x188, x189, x190, x191, x192, x193, x194, x195, x196, x197, x198, x199, x200, x201, x202, x203, x204, x205, x206, x207, x208, x209, x210, x211, x212, x213, x214, x215, x216, x217, x218, x219, x220, x221, x222, x223, x224, x225, x226, x227, x228, x229, x230, x231, x232, x233, x234, x235, x236, x237, x238, x239, x240, x241, x242, x243, x244, x245, x246, x247, x248, x249, x250, x251, x252, x253, x254, x255, x256, x257, x258, x259, x260, x261, x262, x263, x264, x265, x266, x267, x268, x269, x270, x271, x272, x273, x274, x275, x276, x277, x278, x279, x280, x281, x282, x283, x284, x285, x286, x287, x288, x289, x290, x291, x292, x293, x294, x295, x296, x297, x298, x299, x300, x301, x302, x303, x304, x305, x306, x307, x308, x309, x310, x311, x312, x313, x314, x315, x316, x317, x318, x319, x320, x321, x322, x323, x324, x325, x326, x327, x328, x329, x330, x331, x332, x333, x334, x335, x336, x337, x338, x339, x340, x341, x342, x343, x344, x345, x346, x347, x348, x349, x350, x351, x352, x353, x354, x355, x356, x357, x358, x359, x360, x361, x362, x363, x364, x365, x366, x367, x368, x369, x370, x371, x372, x373, x374, x375, x376], defers := ds } W0 := by
  dsimp only
  go_loopw [18] (fun kv wr => ∃ (k : Nat) (z : Int) (M : El.Mx), kv = .int .i64 k ∧ k ≤ m ∧ Hid (El.Ek m U Z k (k + 1) z M) ∧ Hid (Es hi gc gr g c m M z w wr)) (fun kv _ => m - (intOf kv).toNat)
  case atStart => exact ⟨0, z, M, rfl, Nat.zero_le _, HK, HE⟩
  case round =>
    obtain ⟨k, z, M, rfl, hkm, hK, hE⟩ := hrel
    clear HK HE
    obtain ⟨W1, hW1⟩ : ∃ W, W = wr := ⟨_, rfl⟩
    rw [← hW1] at hE ⊢
    clear hW1
    have HK := hK
    have HE := hE
    clear hK hE
    by_cases hlt : k < m
    · have hltz : (k : Int) < (m : Int) := by omega
      obtain rfl := hra (by omega)
      go_wp2_with fail
      go_loopw [19] (fun rv wr => ∃ (r : Nat) (z : Int) (M : El.Mx), rv = .int .i64 r ∧ k < r ∧ r ≤ m ∧ Hid (El.Ek m U Z k r z M) ∧ Hid (Es hi gc gr g c m M z w wr)) (fun rv _ => m - (intOf rv).toNat)
      case atStart => exact ⟨k + 1, z, M, by go_num, by omega, by omega, HK, HE⟩
      case round =>
        obtain ⟨r, z, M, rfl, hkr, hrm, hK, hE⟩ := hrel
        clear HK HE
        obtain ⟨W2, hW2⟩ : ∃ W, W = wr := ⟨_, rfl⟩
        rw [← hW2] at hE ⊢
        clear hW2
        have HK := hK
        have HE := hE
        clear hK hE
        by_cases hr : r < m
        · have hrz : (r : Int) < (m : Int) := by omega
          have c0 := HE.out.rc.cell (i := 0) (by omega)
          simp only [rowN, List.getD_cons_zero] at c0
          by_cases hz : z = 0
          · subst hz
            go_wp2_with fail
            clear c0
            apply sreg49 (HE := HE) (HRM := HK.out.ar) (hk := hlt) (hr := hr) (hP := fun c a o v w h => by exact hP c a o v w h)
            intro y214 y215 y216 y217 y218 y219 y220 y221 y222 y223 y224 y225 y226 y227 y228 y229 y230 W3 gf p hp HE1 HB1
            clear HE
            obtain ⟨hA, hB⟩ := HK.out.fac hlt hr hkr HZ.out hp
            obtain ⟨f, hf⟩ : ∃ f, f = Fq.tkv p := ⟨_, rfl⟩
            obtain ⟨zz, hzz⟩ : ∃ f, f = Fq.tkz p 0 := ⟨_, rfl⟩
            rw [← hf, ← hzz] at hA hB
            rw [← hzz] at HE1
            rw [← hf] at HB1
            have HA := Lib.hid hA
            have HBB := Lib.hid hB
            clear hA hB hf hzz hp HK
            obtain ⟨b0, _⟩ := frN2 HB1.out.row
            by_cases hf0 : f.1 = 0
            · have HK1 := Lib.hid (HA.out hf0)
              clear HA HBB
              have hf1 : (f.1 == 0) = true := by simpa using hf0
              clear hf0
              go_wp2_with fail
              go_roundw
              case rel => exact ⟨r + 1, zz, M, by go_num, by omega, by omega, HK1, HE1⟩
              case measure => simp [intOf]; omega
            · have HJ := Lib.hid (HBB.out hf0)
              clear HA HBB
              have hf1 : (f.1 == 0) = false := by simpa using hf0
              clear hf0
              go_wp2_with fail
              clear b0 hf1
              go_loopw [21] (fun jv wr => ∃ (j : Nat) (z : Int) (M : El.Mx), jv = .int .i64 j ∧ k ≤ j ∧ j ≤ m + 1 ∧ Hid (El.Ej m U Z k r j f z M) ∧ Hid (Es hi gc gr g c m M z w wr) ∧ Hid (Bx hi gr g m gf f wr)) (fun jv _ => m + 1 - (intOf jv).toNat)
              case atStart => exact ⟨k, zz, M, rfl, by omega, by omega, HJ, HE1, HB1⟩
              case round =>
                obtain ⟨j, z, M, rfl, hkj, hjm, hJ, hE, hB⟩ := hrel
                clear HJ HE1 HB1
                obtain ⟨W4, hW4⟩ : ∃ W, W = wr := ⟨_, rfl⟩
                rw [← hW4] at hE hB ⊢
                clear hW4
                have HJ := hJ
                have HE := hE
                have HB := hB
                clear hJ hE hB
                by_cases hj : j ≤ m
                · have hjz : (j : Int) ≤ (m : Int) := by omega
                  go_wp2_with fail
                  apply sreg54 (HE := HE) (HB := HB) (HRM := HJ.out.ar) (HRf := HJ.out.rf) (hk := hlt) (hr := hr) (hj := hj) (hP := fun c a o v w h => by exact hP c a o v w h)
                  intro y240 y241 y242 y243 y244 y245 y246 y247 y248 y249 y250 y251 y252 y253 y254 y255 y256 y257 y258 y259 y260 y261 y262 y263 y264 y265 y266 W5 p1 p2 hp1 hp2 HE2 HB2
                  have HJ2 := Lib.hid (HJ.out.step hlt hr hkr hkj hj HZ.out hp1 hp2)
                  clear HE HB HJ hp1 hp2
                  go_wp2_with fail
                  go_roundw
                  case rel => exact ⟨j + 1, _, _, by go_num, by omega, by omega, HJ2, HE2, HB2⟩
                  case measure => simp [intOf]; omega
                · obtain rfl : j = m + 1 := by omega
                  have hjz : ¬ ((m + 1 : Nat) : Int) ≤ (m : Int) := by omega
                  have HK2 := Lib.hid (HJ.out.done hkr)
                  clear HJ HB
                  go_wp2_with fail
                  go_roundw
                  case rel => exact ⟨r + 1, z, M, by go_num, by omega, by omega, HK2, HE⟩
                  case measure => simp [intOf]; omega
          · have hz2 : (z == 0) = false := by simpa using hz
            have HK2 := Lib.hid (HK.out.next (fun e => absurd e hz))
            clear HK hz
            go_wp2_with fail
            go_roundw
            case rel => exact ⟨k + 1, z, M, by go_num, by omega, HK2, HE⟩
            case measure => simp [intOf]; omega
        · obtain rfl : r = m := by omega
          have HK2 := Lib.hid (HK.out.next (fun _ => rfl))
          clear HK
          go_wp2_with fail
          go_roundw
          case rel => exact ⟨k + 1, z, M, by go_num, by omega, HK2, HE⟩
          case measure => simp [intOf]; omega
    · obtain rfl : k = m := by omega
      go_wp2_with fail
      exact hQ _ _ _ _ _ _ _ _ _ _ _ _ _ _ _ _ _ _ _ _ _ _ _ _ _ _ _ _ _ _ _ _ _ _ _ _ _ _ _ _ _ _ _ _ _ _ _ _ _ _ _ _ _ _ _ _ _ _ _ _ _ _ _ _ _ _ _ _ _ _ _ _ _ _ _ _ _ M z HK HE
end Go.Proofs.YtkaokfmaecdkiaaGreatDoor
namespace Go.Proofs.YtkaokfmaecdkiaaGreatDoor
open Go Go.RowKit Go.Deep

set_option maxRecDepth 100000 in
set_option maxHeartbeats 32000000 in
theorem sreg63 {w : World} (hi gc gr : Nat) (g c : Nat → Nat) (m rk : Nat) (M : El.Mx) (z : Int) (v : Int × Int) (h : Nat → Int × Int) (gf gh r j : Nat) (x0 x1 x2 x3 x5 x6 x7 x8 x10 x11 x12 x13 x14 x15 x16 x17 x18 x19 x20 x21 x26 x27 x28 x29 x30 x31 x32 x33 x34 x35 x36 x37 x38 x39 x40 x41 x42 x43 x44 x45 x46 x47 x48 x49 x50 x51 x52 x53 x54 x55 x56 x57 x58 x59 x60 x61 x62 x63 x64 x65 x66 x67 x68 x69 x70 x71 x72 x73 x74 x75 x76 x77 x78 x79 x80 x81 x82 x83 x84 x85 x86 x87 x88 x89 x90 x91 x92 x93 x94 x95 x96 x97 x98 x99 x100 x101 x102 x103 x104 x105 x106 x107 x108 x109 x110 x111 x112 x113 x114 x115 x116 x117 x118 x119 x120 x121 x122 x123 x124 x125 x126 x127 x128 x129 x130 x131 x132 x133 x134 x135 x136 x137 x138 x139 x140 x141 x142 x143 x144 x145 x146 x147 x148 x149 x150 x151 x152 x153 x154 x155 x156 x157 x158 x159 x160 x161 x162 x163 x164 x165 x166 x167 x168 x169 x170 x171 x172 x173 x174 x175 x176 x177 x178 x179 x180 x181 x182 x183 x184 x185 x186 x187 x188 x189 x190 x191 x192 x193 x194 x195 x196 x197 x198 x199 x200 x201 x202 x203 x204 x205 x206 x207 x208 x209 x210 x211 x212 x213 x214 x215 x216 x217 x218 x219 x220 x221 x222 x223 x224 x225 x226 x227 x228 x229 x230 x231 x232 x233 x234 x235 x236 x237 x238 x239 x240 x241 x242 x243 x244 x245 x246 x247 x248 x249 x250 x251 x252 x253 x254 x255 x256 x257 x258 x259 x260 x261 x262 x263 x264 x265 x266 x267 x268 x269 x270 x271 x272 x273 x274 x275 x276 x277 x278 x279 x280 x281 x282 x283 x284 x285 x286 x287 x288 x289 x290 x291 x292 x293 x294 x295 x296 x297 x298 x299 x300 x301 x302 x303 x304 x305 x306 x307 x308 x309 x310 x311 x312 x313 x314 x315 x316 x317 x318 x319 x320 x321 x322 x323 x324 x325 x326 x327 x328 x329 x330 x331 x332 x333 x334 x335 x336 x337 x338 x339 x340 x341 x342 x343 x344 x345 x346 x347 x348 x349 x350 x351 x352 x353 x354 x355 x356 x357 x358 x359 x360 x361 x362 x363 x364 x365 x366 x367 x368 x369 x370 x371 x372 x373 x374 x375 x376 : Value) (ds : _) (Q : Exit → Act → World → Prop) (W0 : World)
    (HE : Hid (Es hi gc gr g c m M z w W0)) (HB : Hid (Bx hi gr g m gf v W0)) (HH : Hid (Hx hi gr g m gh h W0)) (hgh : gh ≠ gf) (HRM : Hid (El.AllR m M)) (HRv : Hid (Fq.R v)) (HRh : Hid (Fq.R (h j))) (hr : r < m) (hj : j < m) (hP : ∀ c (a : Act) o v w, Q (.panic c) (a.put o v) w → Q (.panic c) a w)
    (hQ : ∀ (y296 y297 y298 y299 y300 y301 y302 y303 y304 y305 y306 y307 y308 y309 y310 y311 y312 y313 : Value) (WZ : World) (q1 q2 : Int × Int), q1 = Fq.mul (M r j) (h j) → q2 = Fq.sub v (Fq.tkv q1) → Hid (Es hi gc gr g c m M (Fq.tkz q2 (Fq.tkz q1 z)) w WZ) → Hid (Bx hi gr g m gf (Fq.tkv q2) WZ) → Hid (Hx hi gr g m gh h WZ) → Q .normal { tmps := #[x0, x1, x2, x3, (.pointer (some ⟨gc, 0, none⟩)), x5, x6, x7, x8, (.slice (some ⟨gr, 0, none⟩) m rk), x10, x11, x12, x13, x14, x15, x16, x17, x18, x19, x20, x21, (.slice (some ⟨gh, 0, none⟩) m m), (.int .i64 r), (.pointer (some ⟨gf, 0, none⟩)), (.int .i64 j), x26, x27, x28, x29, x30, x31, x32, x33, x34, x35, x36, x37, x38, x39, x40, x41, x42, x43, x44, x45, x46, x47, x48, x49, x50, x51, x52, x53, x54, x55, x56, x57, x58, x59, x60, x61, x62, x63, x64, x65, x66, x67, x68, x69, x70, x71, x72, x73, x74, x75, x76, x77, x78, x79, x80, x81, x82, x83, x84, x85, x86, x87, x88, x89, x90, x91, x92, x93, x94, x95, x96, x97, x98, x99, x100, x101, x102, x103, x104, x105, x106, x107, x108, x109, x110, x111, x112, x113, x114, x115, x116, x117, x118, x119, x120, x121, x122, x123, x124, x125, x126, x127, x128, x129, x130, x131, x132, x133, x134, x135, x136, x137, x138, x139, x140, x141, x142, x143, x144, x145, x146, x147, x148, x149, x150, x151, x152, x153, x154, x155, x156, x157, x158, x159, x160, x161, x162, x163, x164, x165, x166, x167, x168, x169, x170, x171, x172, x173, x174, x175, x176, x177, x178, x179, x180, x181, x182, x183, x184, x185, x186, x187, x188, x189, x190, x191, x192, x193, x194, x195, x196, x197, x198, x199, x200, x201, x202, x203, x204, x205, x206, x207, x208, x209, x210, x211, x212, x213, x214, x215, x216, x217, x218, x219, x220, x221, x222, x223, x224, x225, x226, x227, x228, x229, x230, x231, x232, x233, x234, x235, x236, x237, x238, x239, x240, x241, x242, x243, x244, x245, x246, x247, x248, x249, x250, x251, x252, x253, x254, x255, x256, x257, x258, x259, x260, x261, x262, x263, x264, x265, x266, x267, x268, x269, x270, x271, x272, x273, x274, x275, x276, x277, x278, x279, x280, x281, x282, x283, x284, x285, x286, x287, x288, x289, x290, x291, x292, x293, x294, x295, y296, y297, y298, y299, y300, y301, y302, y303, y304, y305, y306, y307, y308, y309, y310, y311, y312, y313, x314, x315, x316, x317, x318, x319, x320, x321, x322, x323, x324, x325, x326, x327, x328, x329, x330, x331, x332, x333, x334, x335, x336, x337, x338, x339, x340, x341, x342, x343, x344, x345, x346, x347, x348, x349, x350, x351, x352, x353, x354, x355, x356, x357, x358, x359, x360, x361, x362, x363, x364, x365, x366, x367, x368, x369, x370, x371, x372, x373, x374, x375, x376], defers := ds } WZ) :
    (Code.region 63 #[{ dst := some 296, op := Op.move (Operand.tmp 4), type := 57, pos := "l07_linear.go:132", after := #[], guard := none }, { dst := some 297, op := Op.load 35 (Operand.tmp 24), type := 35, pos := "l07_linear.go:132", after := #[], guard := none }, { dst := some 298, op := Op.move (Operand.tmp 4), type := 57, pos := "l07_linear.go:132", after := #[], guard := none }, { dst := some 299, op := Op.move (Operand.tmp 9), type := 62, pos := "l07_linear.go:132", after := #[], guard := none }, { dst := some 300, op := Op.move (Operand.tmp 23), type := 3, pos := "l07_linear.go:132", after := #[], guard := none }, { dst := some 301, op := Op.indexAddr 62 (Operand.tmp 299) (Operand.tmp 300), type := 0, pos := "l07_linear.go:132", after := #[{ on := 3, ground := Ground.data }, { on := 4, ground := Ground.data }], guard := none }, { dst := some 302, op := Op.load 29 (Operand.tmp 301), type := 29, pos := "l07_linear.go:132", after := #[{ on := 5, ground := Ground.data }], guard := none }, { dst := some 303, op := Op.move (Operand.tmp 25), type := 3, pos := "l07_linear.go:132", after := #[], guard := none }, { dst := some 304, op := Op.indexAddr 29 (Operand.tmp 302) (Operand.tmp 303), type := 0, pos := "l07_linear.go:132", after := #[{ on := 6, ground := Ground.data }, { on := 7, ground := Ground.data }], guard := none }, { dst := some 305, op := Op.load 35 (Operand.tmp 304), type := 35, pos := "l07_linear.go:132", after := #[{ on := 8, ground := Ground.data }], guard := none }, { dst := some 306, op := Op.move (Operand.tmp 22), type := 29, pos := "l07_linear.go:132", after := #[], guard := none }, { dst := some 307, op := Op.move (Operand.tmp 25), type := 3, pos := "l07_linear.go:132", after := #[], guard := none }, { dst := some 308, op := Op.indexAddr 29 (Operand.tmp 306) (Operand.tmp 307), type := 0, pos := "l07_linear.go:132", after := #[{ on := 10, ground := Ground.data }, { on := 11, ground := Ground.data }], guard := none }, { dst := some 309, op := Op.load 35 (Operand.tmp 308), type := 35, pos := "l07_linear.go:132", after := #[{ on := 12, ground := Ground.data }], guard := none }, { dst := some 310, op := Op.call { callee := Callee.value (Operand.func 29), args := #[Operand.tmp 305, Operand.tmp 309], argTypes := #[35, 35] }, type := 65, pos := "l07_linear.go:132", after := #[{ on := 9, ground := Ground.data }, { on := 13, ground := Ground.data }], guard := none }, { dst := some 311, op := Op.call { callee := Callee.value (Operand.func 24), args := #[Operand.tmp 298, Operand.tmp 310], argTypes := #[57, 65] }, type := 35, pos := "l07_linear.go:132", after := #[{ on := 2, ground := Ground.data }, { on := 14, ground := Ground.data }, { on := 14, ground := Ground.chain }], guard := none }, { dst := some 312, op := Op.call { callee := Callee.value (Operand.func 28), args := #[Operand.tmp 297, Operand.tmp 311], argTypes := #[35, 35] }, type := 65, pos := "l07_linear.go:132", after := #[{ on := 1, ground := Ground.data }, { on := 15, ground := Ground.data }, { on := 15, ground := Ground.chain }], guard := none }, { dst := some 313, op := Op.call { callee := Callee.value (Operand.func 24), args := #[Operand.tmp 296, Operand.tmp 312], argTypes := #[57, 65] }, type := 35, pos := "l07_linear.go:132", after := #[{ on := 0, ground := Ground.data }, { on := 16, ground := Ground.data }, { on := 16, ground := Ground.chain }], guard := none }, { dst := none, op := Op.store 35 (Operand.tmp 24) (Operand.tmp 313), type := 0, pos := "l07_linear.go:132", after := #[{ on := 17, ground := Ground.data }, { on := 17, ground := Ground.chain }, { on := 0, ground := Ground.phase }, { on := 1, ground := Ground.phase }, { on := 2, ground := Ground.phase }, { on := 3, ground := Ground.phase }, { on := 4, ground := Ground.phase }, { on := 5, ground := Ground.phase }, { on := 6, ground := Ground.phase }, { on := 7, ground := Ground.phase }, { on := 8, ground := Ground.phase }, { on := 9, ground := Ground.phase }, { on := 10, ground := Ground.phase }, { on := 11, ground := Ground.phase }, { on := 12, ground := Ground.phase }, { on := 13, ground := Ground.phase }, { on := 14, ground := Ground.phase }, { on := 15, ground := Ground.phase }, { on := 16, ground := Ground.phase }, { on := 17, ground := Ground.phase }], guard := none }] true).wp Tryz.prog Q { tmps := #[x0, x1, x2, x3, (.pointer (some ⟨gc, 0, none⟩)), x5, x6, x7, x8, (.slice (some ⟨gr, 0, none⟩) m rk), x10, x11, x12, x13, x14, x15, x16, x17, x18, x19, x20, x21, (.slice (some ⟨gh, 0, none⟩) m m), (.int .i64 r), (.pointer (some ⟨gf, 0, none⟩)), (.int .i64 j), x26, x27, x28, x29, x30, x31, x32, x33, x34, x35, x36, x37, x38, x39, x40, x41, x42, x43, x44, x45, x46, x47, x48, x49, x50, x51, x52, x53, x54, x55, x56, x57, x58, x59, x60, x61, x62, x63, x64, x65, x66, x67, x68, x69, x70, x71, x72, x73, x74, x75, x76, x77, x78, x79, x80, x81, x82, x83, x84, x85, x86, x87, x88, x89, x90, x91, x92, x93, x94, x95, x96, x97, x98, x99, x100, x101, x102, x103, x104, x105, x106, x107, x108, x109, x110, x111, x112, x113, x114, x115, x116, x117, x118, x119, x120, x121, x122, x123, x124, x125, x126, x127, x128, x129, x130, x131, x132, x133, x134, x135, x136, x137, x138, x139, x140, x141, x142, x143, x144, x145, x146, x147, x148, x149, x150, x151, x152, x153, x154, x155, x156, x157, x158, x159, x160, x161, x162, x163, x164, x165, x166, x167, x168, x169, x170, x171, x172, x173, x174, x175, x176, x177, x178, x179, x180, x181, x182, x183, x184, x185, x186, x187, x188, x189, x190, x191, x192, x193, x194, x195, x196, x197, x198, x199, x200, x201, x202, x203, x204, x205, x206, x207, x208, x209, x210, x211, x212, x213, x214, x215, x216, x217, x218, x219, x220, x221, x222, x223, x224, x225, x226, x227, x228, x229, x230, x231, x232, x233, x234, x235, x236, x237, x238, x239, x240, x241, x242, x243, x244, x245, x246, x247, x248, x249, x250, x251, x252, x253, x254, x255, x256, x257, x258, x259, x260, x261, x262, x263, x264, x265, x266, x267, x268, x269, x270, x271, x272, x273, x274, x275, x276, x277, x278, x279, x280, x281, x282, x283, x284, x285, x286, x287, x288, x289, x290, x291, x292, x293, x294, x295, x296, x297, x298, x299, x300, x301, x302, x303, x304, x305, x306, x307, x308, x309, x310, x311, x312, x313, x314, x315, x316, x317, x318, x319, x320, x321, x322, x323, x324, x325, x326, x327, x328, x329, x330, x331, x332, x333, x334, x335, x336, x337, x338, x339, x340, x341, x342, x343, x344, x345, x346, x347, x348, x349, x350, x351, x352, x353, x354, x355, x356, x357, x358, x359, x360, x361, x362, x363, x364, x365, x366, x367, x368, x369, x370, x371, x372, x373, x374, x375, x376], defers := ds } W0 := by
  have hrz : (r : Int) < (m : Int) := by omega
  have hjz : (j : Int) < (m : Int) := by omega
  have hjy : (j : Int) < (m : Int) + 1 := by omega
  refine region_L (fun V => Mt hi gr g c m M V ∧ Bx hi gr g m gf v V ∧ Hx hi gr g m gh h V) 18 (by kernel_rfl) ⟨HE.out.mt.below (Below.refl _ _).drew, HB.out.below (Below.refl _ _).drew, HH.out.below (Below.refl _ _).drew⟩ (fun hHeld => ?_)
  obtain ⟨Z, hZ⟩ : ∃ Z, Z = W0.drew := ⟨_, rfl⟩
  replace HE := Lib.hid (HE.out.below (Below.refl _ _).drew)
  replace HB := Lib.hid (HB.out.below (Below.refl _ _).drew)
  replace HH := Lib.hid (HH.out.below (Below.refl _ _).drew)
  rw [← hZ] at hHeld HE HB HH ⊢
  clear hZ
  refine takeL_do (i := 0) (v := (.pointer (some ⟨gc, 0, none⟩))) rfl (by kernel_rfl) (by kernel_rfl) (by kernel_rfl) (by kernel_rfl) (fun _ _ _ h => hP _ _ _ _ _ h) (by rfl) ?_ (by assumption) ?_
  · intro w hSw
    skip
    go_simp
  simp only [Act.put, List.setIfInBounds_toArray, List.set_cons_zero, List.set_cons_succ]
  refine takeL_do (i := 1) (v := (frV v)) rfl (by kernel_rfl) (by kernel_rfl) (by kernel_rfl) (by kernel_rfl) (fun _ _ _ h => hP _ _ _ _ _ h) (by rfl) ?_ (by assumption) ?_
  · intro w hSw
    obtain ⟨l0, l1⟩ := frN2 hSw.2.1.row
    go_simp
  simp only [Act.put, List.setIfInBounds_toArray, List.set_cons_zero, List.set_cons_succ]
  refine takeL_do (i := 2) (v := (.pointer (some ⟨gc, 0, none⟩))) rfl (by kernel_rfl) (by kernel_rfl) (by kernel_rfl) (by kernel_rfl) (fun _ _ _ h => hP _ _ _ _ _ h) (by rfl) ?_ (by assumption) ?_
  · intro w hSw
    skip
    go_simp
  simp only [Act.put, List.setIfInBounds_toArray, List.set_cons_zero, List.set_cons_succ]
  refine takeL_do (i := 3) (v := (.slice (some ⟨gr, 0, none⟩) m rk)) rfl (by kernel_rfl) (by kernel_rfl) (by kernel_rfl) (by kernel_rfl) (fun _ _ _ h => hP _ _ _ _ _ h) (by rfl) ?_ (by assumption) ?_
  · intro w hSw
    skip
    go_simp
  simp only [Act.put, List.setIfInBounds_toArray, List.set_cons_zero, List.set_cons_succ]
  refine takeL_do (i := 4) (v := (.int .i64 r)) rfl (by kernel_rfl) (by kernel_rfl) (by kernel_rfl) (by kernel_rfl) (fun _ _ _ h => hP _ _ _ _ _ h) (by rfl) ?_ (by assumption) ?_
  · intro w hSw
    skip
    go_simp
  simp only [Act.put, List.setIfInBounds_toArray, List.set_cons_zero, List.set_cons_succ]
  refine takeL_do (i := 5) (v := (.pointer (some ⟨gr, r, none⟩))) rfl (by kernel_rfl) (by kernel_rfl) (by kernel_rfl) (by kernel_rfl) (fun _ _ _ h => hP _ _ _ _ _ h) (by rfl) ?_ (by assumption) ?_
  · intro w hSw
    skip
    go_simp
  simp only [Act.put, List.setIfInBounds_toArray, List.set_cons_zero, List.set_cons_succ]
  refine takeL_do (i := 6) (v := (.slice (some ⟨g r, 0, none⟩) (m + 1) (c r))) rfl (by kernel_rfl) (by kernel_rfl) (by kernel_rfl) (by kernel_rfl) (fun _ _ _ h => hP _ _ _ _ _ h) (by rfl) ?_ (by assumption) ?_
  · intro w hSw
    have l0 := hSw.1.list r hr
    go_simp
  simp only [Act.put, List.setIfInBounds_toArray, List.set_cons_zero, List.set_cons_succ]
  refine takeL_do (i := 7) (v := (.int .i64 j)) rfl (by kernel_rfl) (by kernel_rfl) (by kernel_rfl) (by kernel_rfl) (fun _ _ _ h => hP _ _ _ _ _ h) (by rfl) ?_ (by assumption) ?_
  · intro w hSw
    skip
    go_simp
  simp only [Act.put, List.setIfInBounds_toArray, List.set_cons_zero, List.set_cons_succ]
  refine takeL_do (i := 8) (v := (.pointer (some ⟨g r, j * 2, none⟩))) rfl (by kernel_rfl) (by kernel_rfl) (by kernel_rfl) (by kernel_rfl) (fun _ _ _ h => hP _ _ _ _ _ h) (by rfl) ?_ (by assumption) ?_
  · intro w hSw
    skip
    go_simp
  simp only [Act.put, List.setIfInBounds_toArray, List.set_cons_zero, List.set_cons_succ]
  refine takeL_do (i := 9) (v := (frV (M r j))) rfl (by kernel_rfl) (by kernel_rfl) (by kernel_rfl) (by kernel_rfl) (fun _ _ _ h => hP _ _ _ _ _ h) (by rfl) ?_ (by assumption) ?_
  · intro w hSw
    obtain ⟨l0, l1⟩ := hSw.1.cell0 (r := r) (j := j) hr (by omega)
    go_simp
  simp only [Act.put, List.setIfInBounds_toArray, List.set_cons_zero, List.set_cons_succ]
  refine takeL_do (i := 10) (v := (.slice (some ⟨gh, 0, none⟩) m m)) rfl (by kernel_rfl) (by kernel_rfl) (by kernel_rfl) (by kernel_rfl) (fun _ _ _ h => hP _ _ _ _ _ h) (by rfl) ?_ (by assumption) ?_
  · intro w hSw
    skip
    go_simp
  simp only [Act.put, List.setIfInBounds_toArray, List.set_cons_zero, List.set_cons_succ]
  refine takeL_do (i := 11) (v := (.int .i64 j)) rfl (by kernel_rfl) (by kernel_rfl) (by kernel_rfl) (by kernel_rfl) (fun _ _ _ h => hP _ _ _ _ _ h) (by rfl) ?_ (by assumption) ?_
  · intro w hSw
    skip
    go_simp
  simp only [Act.put, List.setIfInBounds_toArray, List.set_cons_zero, List.set_cons_succ]
  refine takeL_do (i := 12) (v := (.pointer (some ⟨gh, j * 2, none⟩))) rfl (by kernel_rfl) (by kernel_rfl) (by kernel_rfl) (by kernel_rfl) (fun _ _ _ h => hP _ _ _ _ _ h) (by rfl) ?_ (by assumption) ?_
  · intro w hSw
    skip
    go_simp
  simp only [Act.put, List.setIfInBounds_toArray, List.set_cons_zero, List.set_cons_succ]
  refine takeL_do (i := 13) (v := (frV (h j))) rfl (by kernel_rfl) (by kernel_rfl) (by kernel_rfl) (by kernel_rfl) (fun _ _ _ h => hP _ _ _ _ _ h) (by rfl) ?_ (by assumption) ?_
  · intro w hSw
    obtain ⟨l0, l1⟩ := hSw.2.2.cell hj
    go_simp
  simp only [Act.put, List.setIfInBounds_toArray, List.set_cons_zero, List.set_cons_succ]
  obtain ⟨q1, hq1⟩ : ∃ q, q = Fq.mul (M r j) (h j) := ⟨_, rfl⟩
  have HCq1 := Lib.hid (fun (V : World) => nspecMul (M r j) (h j) V (HRM.out r j hr (by omega)) HRh.out)
  rw [← hq1] at HCq1
  have Hq1 := Lib.hid hq1
  clear hq1
  refine takeL_call (i := 14) rfl (by kernel_rfl) (fun K2 hK => ?_)
  go_simp
  refine (HCq1.out _).mono ?_
  rintro e Z5 ⟨rfl, hb⟩
  replace HE := Lib.hid (HE.out.below hb)
  replace HB := Lib.hid (HB.out.below hb)
  replace HH := Lib.hid (HH.out.below hb)
  clear hb HCq1
  go_wp2_with fail
  refine hK.out _ _ ⟨HE.out.mt, HB.out, HH.out⟩ (fun hHeld2 => ?_)
  clear hK hHeld
  have hHeld := hHeld2
  clear hHeld2
  obtain ⟨p1, hp1⟩ : ∃ v, v = Fq.tkv q1 := ⟨_, rfl⟩
  obtain ⟨z1, hz1⟩ : ∃ v, v = Fq.tkz q1 z := ⟨_, rfl⟩
  have HCp1 := Lib.hid (take_any gc q1 z _ HE.out.rc)
  rw [← hp1, ← hz1] at HCp1
  have Hp1 := Lib.hid hp1
  have Hz1 := Lib.hid hz1
  clear hp1 hz1
  refine takeL_call (i := 15) rfl (by kernel_rfl) (fun K2 hK => ?_)
  go_simp
  refine HCp1.out.mono ?_
  rintro e Z6 ⟨rfl, hrz, hon⟩
  replace HB := Lib.hid (HB.out.only hon HE.out.gl)
  replace HH := Lib.hid (HH.out.only hon HE.out.gl)
  replace HE := Lib.hid (HE.out.take hrz hon)
  clear hrz hon HCp1
  go_wp2_with fail
  refine hK.out _ _ ⟨HE.out.mt, HB.out, HH.out⟩ (fun hHeld2 => ?_)
  clear hK hHeld
  have hHeld := hHeld2
  clear hHeld2
  have HRp : Hid (Fq.R p1) := by show Fq.R _; rw [Hp1.out, Hq1.out]; exact Fq.tkv_right (Fq.mul_fit (HRM.out r j hr (by omega)) HRh.out)
  obtain ⟨q2, hq2⟩ : ∃ q, q = Fq.sub v p1 := ⟨_, rfl⟩
  have HCq2 := Lib.hid (fun (V : World) => nspecSub v p1 V HRv.out HRp.out)
  rw [← hq2] at HCq2
  have Hq2 := Lib.hid hq2
  clear hq2
  refine takeL_call (i := 16) rfl (by kernel_rfl) (fun K2 hK => ?_)
  go_simp
  refine (HCq2.out _).mono ?_
  rintro e Z7 ⟨rfl, hb⟩
  replace HE := Lib.hid (HE.out.below hb)
  replace HB := Lib.hid (HB.out.below hb)
  replace HH := Lib.hid (HH.out.below hb)
  clear hb HCq2
  go_wp2_with fail
  refine hK.out _ _ ⟨HE.out.mt, HB.out, HH.out⟩ (fun hHeld2 => ?_)
  clear hK hHeld
  have hHeld := hHeld2
  clear hHeld2
  obtain ⟨p2, hp2⟩ : ∃ v, v = Fq.tkv q2 := ⟨_, rfl⟩
  obtain ⟨z2, hz2⟩ : ∃ v, v = Fq.tkz q2 z1 := ⟨_, rfl⟩
  have HCp2 := Lib.hid (take_any gc q2 z1 _ HE.out.rc)
  rw [← hp2, ← hz2] at HCp2
  have Hp2 := Lib.hid hp2
  have Hz2 := Lib.hid hz2
  clear hp2 hz2
  refine takeL_call (i := 17) rfl (by kernel_rfl) (fun K2 hK => ?_)
  go_simp
  refine HCp2.out.mono ?_
  rintro e Z8 ⟨rfl, hrz, hon⟩
  replace HB := Lib.hid (HB.out.only hon HE.out.gl)
  replace HH := Lib.hid (HH.out.only hon HE.out.gl)
  replace HE := Lib.hid (HE.out.take hrz hon)
  clear hrz hon HCp2
  go_wp2_with fail
  refine hK.out _ _ ⟨HE.out.mt, HB.out, HH.out⟩ (fun hHeld2 => ?_)
  clear hK hHeld
  have hHeld := hHeld2
  clear hHeld2
  obtain ⟨o0, o1⟩ := frN2 HB.out.row
  have z0 := HB.out.row.frozen 0
  have z1' := HB.out.row.frozen 1
  have l0 := HB.out.row.lt
  obtain ⟨WZ, hWZ⟩ : ∃ WZ, WZ = (Z8.setCell ⟨gf, 0, none⟩ (.int .i64 p2.1)).setCell ⟨gf, 1, none⟩ (.int .i64 p2.2) := ⟨_, rfl⟩
  have HE2 := Lib.hid ((HE.out.box (y := p2) HB.out).1)
  have HB2 := Lib.hid ((HE.out.box (y := p2) HB.out).2)
  have HH2 := Lib.hid (HH.out.box hgh 0 1 (.int .i64 p2.1) (.int .i64 p2.2))
  rw [← hWZ] at HE2 HB2 HH2
  have HWZ := Lib.hid hWZ
  clear hWZ
  refine takeL_last rfl (by kernel_rfl) (by kernel_rfl) (fun K2 hK => ?_)
  go_simp
  rw [← HWZ.out]
  refine hK.out _ _ ?_
  clear hK hHeld HWZ o0 o1 z0 z1' l0 HE HB HH
  exact hQ _ _ _ _ _ _ _ _ _ _ _ _ _ _ _ _ _ _ _ q1 q2 Hq1.out (by rw [Hq2.out, Hp1.out]) (by rw [Hz2.out, Hz1.out] at HE2; exact HE2) (by rw [Hp2.out] at HB2; exact HB2) HH2
end Go.Proofs.YtkaokfmaecdkiaaGreatDoor
namespace Go.Proofs.YtkaokfmaecdkiaaGreatDoor
open Go Go.RowKit Go.Deep

set_option maxRecDepth 100000 in
set_option maxHeartbeats 32000000 in
theorem sreg64 {w : World} (hi gc gr : Nat) (g c : Nat → Nat) (m rk : Nat) (M : El.Mx) (z : Int) (v : Int × Int) (h : Nat → Int × Int) (gf gh r : Nat) (x0 x1 x2 x3 x5 x6 x7 x8 x10 x11 x12 x13 x14 x15 x16 x17 x18 x19 x20 x21 x25 x26 x27 x28 x29 x30 x31 x32 x33 x34 x35 x36 x37 x38 x39 x40 x41 x42 x43 x44 x45 x46 x47 x48 x49 x50 x51 x52 x53 x54 x55 x56 x57 x58 x59 x60 x61 x62 x63 x64 x65 x66 x67 x68 x69 x70 x71 x72 x73 x74 x75 x76 x77 x78 x79 x80 x81 x82 x83 x84 x85 x86 x87 x88 x89 x90 x91 x92 x93 x94 x95 x96 x97 x98 x99 x100 x101 x102 x103 x104 x105 x106 x107 x108 x109 x110 x111 x112 x113 x114 x115 x116 x117 x118 x119 x120 x121 x122 x123 x124 x125 x126 x127 x128 x129 x130 x131 x132 x133 x134 x135 x136 x137 x138 x139 x140 x141 x142 x143 x144 x145 x146 x147 x148 x149 x150 x151 x152 x153 x154 x155 x156 x157 x158 x159 x160 x161 x162 x163 x164 x165 x166 x167 x168 x169 x170 x171 x172 x173 x174 x175 x176 x177 x178 x179 x180 x181 x182 x183 x184 x185 x186 x187 x188 x189 x190 x191 x192 x193 x194 x195 x196 x197 x198 x199 x200 x201 x202 x203 x204 x205 x206 x207 x208 x209 x210 x211 x212 x213 x214 x215 x216 x217 x218 x219 x220 x221 x222 x223 x224 x225 x226 x227 x228 x229 x230 x231 x232 x233 x234 x235 x236 x237 x238 x239 x240 x241 x242 x243 x244 x245 x246 x247 x248 x249 x250 x251 x252 x253 x254 x255 x256 x257 x258 x259 x260 x261 x262 x263 x264 x265 x266 x267 x268 x269 x270 x271 x272 x273 x274 x275 x276 x277 x278 x279 x280 x281 x282 x283 x284 x285 x286 x287 x288 x289 x290 x291 x292 x293 x294 x295 x296 x297 x298 x299 x300 x301 x302 x303 x304 x305 x306 x307 x308 x309 x310 x311 x312 x313 x314 x315 x316 x317 x318 x319 x320 x321 x322 x323 x324 x325 x326 x327 x328 x329 x330 x331 x332 x333 x334 x335 x336 x337 x338 x339 x340 x341 x342 x343 x344 x345 x346 x347 x348 x349 x350 x351 x352 x353 x354 x355 x356 x357 x358 x359 x360 x361 x362 x363 x364 x365 x366 x367 x368 x369 x370 x371 x372 x373 x374 x375 x376 : Value) (ds : _) (Q : Exit → Act → World → Prop) (W0 : World)
    (HE : Hid (Es hi gc gr g c m M z w W0)) (HB : Hid (Bx hi gr g m gf v W0)) (HH : Hid (Hx hi gr g m gh h W0)) (hgh : gh ≠ gf) (HRM : Hid (El.AllR m M)) (HRv : Hid (Fq.R v)) (hr : r < m) (hP : ∀ c (a : Act) o v w, Q (.panic c) (a.put o v) w → Q (.panic c) a w)
    (hQ : ∀ (y314 y315 y316 y317 y318 y319 y320 y321 y322 y323 y324 y325 y326 y327 : Value) (WZ : World) (q1 : Int × Int), q1 = Fq.div v (M r r) → Hid (Es hi gc gr g c m M (Fq.tkz q1 z) w WZ) → Hid (Hx hi gr g m gh (El.updF h r (Fq.tkv q1)) WZ) → Q .normal { tmps := #[x0, x1, x2, x3, (.pointer (some ⟨gc, 0, none⟩)), x5, x6, x7, x8, (.slice (some ⟨gr, 0, none⟩) m rk), x10, x11, x12, x13, x14, x15, x16, x17, x18, x19, x20, x21, (.slice (some ⟨gh, 0, none⟩) m m), (.int .i64 r), (.pointer (some ⟨gf, 0, none⟩)), x25, x26, x27, x28, x29, x30, x31, x32, x33, x34, x35, x36, x37, x38, x39, x40, x41, x42, x43, x44, x45, x46, x47, x48, x49, x50, x51, x52, x53, x54, x55, x56, x57, x58, x59, x60, x61, x62, x63, x64, x65, x66, x67, x68, x69, x70, x71, x72, x73, x74, x75, x76, x77, x78, x79, x80, x81, x82, x83, x84, x85, x86, x87, x88, x89, x90, x91, x92, x93, x94, x95, x96, x97, x98, x99, x100, x101, x102, x103, x104, x105, x106, x107, x108, x109, x110, x111, x112, x113, x114, x115, x116, x117, x118, x119, x120, x121, x122, x123, x124, x125, x126, x127, x128, x129, x130, x131, x132, x133, x134, x135, x136, x137, x138, x139, x140, x141, x142, x143, x144, x145, x146, x147, x148, x149, x150, x151, x152, x153, x154, x155, x156, x157, x158, x159, x160, x161, x162, x163, x164, x165, x166, x167, x168, x169, x170, x171, x172, x173, x174, x175, x176, x177, x178, x179, x180, x181, x182, x183, x184, x185, x186, x187, x188, x189, x190, x191, x192, x193, x194, x195, x196, x197, x198, x199, x200, x201, x202, x203, x204, x205, x206, x207, x208, x209, x210, x211, x212, x213, x214, x215, x216, x217, x218, x219, x220, x221, x222, x223, x224, x225, x226, x227, x228, x229, x230, x231, x232, x233, x234, x235, x236, x237, x238, x239, x240, x241, x242, x243, x244, x245, x246, x247, x248, x249, x250, x251, x252, x253, x254, x255, x256, x257, x258, x259, x260, x261, x262, x263, x264, x265, x266, x267, x268, x269, x270, x271, x272, x273, x274, x275, x276, x277, x278, x279, x280, x281, x282, x283, x284, x285, x286, x287, x288, x289, x290, x291, x292, x293, x294, x295, x296, x297, x298, x299, x300, x301, x302, x303, x304, x305, x306, x307, x308, x309, x310, x311, x312, x313, y314, y315, y316, y317, y318, y319, y320, y321, y322, y323, y324, y325, y326, y327, x328, x329, x330, x331, x332, x333, x334, x335, x336, x337, x338, x339, x340, x341, x342, x343, x344, x345, x346, x347, x348, x349, x350, x351, x352, x353, x354, x355, x356, x357, x358, x359, x360, x361, x362, x363, x364, x365, x366, x367, x368, x369, x370, x371, x372, x373, x374, x375, x376], defers := ds } WZ) :
    (Code.region 64 #[{ dst := some 314, op := Op.move (Operand.tmp 22), type := 29, pos := "l07_linear.go:134", after := #[], guard := none }, { dst := some 315, op := Op.move (Operand.tmp 23), type := 3, pos := "l07_linear.go:134", after := #[], guard := none }, { dst := some 316, op := Op.move (Operand.tmp 4), type := 57, pos := "l07_linear.go:134", after := #[], guard := none }, { dst := some 317, op := Op.load 35 (Operand.tmp 24), type := 35, pos := "l07_linear.go:134", after := #[], guard := none }, { dst := some 318, op := Op.move (Operand.tmp 9), type := 62, pos := "l07_linear.go:134", after := #[], guard := none }, { dst := some 319, op := Op.move (Operand.tmp 23), type := 3, pos := "l07_linear.go:134", after := #[], guard := none }, { dst := some 320, op := Op.indexAddr 62 (Operand.tmp 318) (Operand.tmp 319), type := 0, pos := "l07_linear.go:134", after := #[{ on := 4, ground := Ground.data }, { on := 5, ground := Ground.data }], guard := none }, { dst := some 321, op := Op.load 29 (Operand.tmp 320), type := 29, pos := "l07_linear.go:134", after := #[{ on := 6, ground := Ground.data }], guard := none }, { dst := some 322, op := Op.move (Operand.tmp 23), type := 3, pos := "l07_linear.go:134", after := #[], guard := none }, { dst := some 323, op := Op.indexAddr 29 (Operand.tmp 321) (Operand.tmp 322), type := 0, pos := "l07_linear.go:134", after := #[{ on := 7, ground := Ground.data }, { on := 8, ground := Ground.data }], guard := none }, { dst := some 324, op := Op.load 35 (Operand.tmp 323), type := 35, pos := "l07_linear.go:134", after := #[{ on := 9, ground := Ground.data }], guard := none }, { dst := some 325, op := Op.call { callee := Callee.value (Operand.func 27), args := #[Operand.tmp 317, Operand.tmp 324], argTypes := #[35, 35] }, type := 65, pos := "l07_linear.go:134", after := #[{ on := 3, ground := Ground.data }, { on := 10, ground := Ground.data }], guard := none }, { dst := some 326, op := Op.call { callee := Callee.value (Operand.func 24), args := #[Operand.tmp 316, Operand.tmp 325], argTypes := #[57, 65] }, type := 35, pos := "l07_linear.go:134", after := #[{ on := 2, ground := Ground.data }, { on := 11, ground := Ground.data }, { on := 11, ground := Ground.chain }], guard := none }, { dst := some 327, op := Op.indexAddr 29 (Operand.tmp 314) (Operand.tmp 315), type := 0, pos := "l07_linear.go:134", after := #[{ on := 0, ground := Ground.data }, { on := 1, ground := Ground.data }, { on := 0, ground := Ground.phase }, { on := 1, ground := Ground.phase }, { on := 2, ground := Ground.phase }, { on := 3, ground := Ground.phase }, { on := 4, ground := Ground.phase }, { on := 5, ground := Ground.phase }, { on := 6, ground := Ground.phase }, { on := 7, ground := Ground.phase }, { on := 8, ground := Ground.phase }, { on := 9, ground := Ground.phase }, { on := 10, ground := Ground.phase }, { on := 11, ground := Ground.phase }, { on := 12, ground := Ground.phase }], guard := none }, { dst := none, op := Op.store 35 (Operand.tmp 327) (Operand.tmp 326), type := 0, pos := "l07_linear.go:134", after := #[{ on := 13, ground := Ground.data }, { on := 12, ground := Ground.data }, { on := 12, ground := Ground.chain }, { on := 0, ground := Ground.phase }, { on := 1, ground := Ground.phase }, { on := 2, ground := Ground.phase }, { on := 3, ground := Ground.phase }, { on := 4, ground := Ground.phase }, { on := 5, ground := Ground.phase }, { on := 6, ground := Ground.phase }, { on := 7, ground := Ground.phase }, { on := 8, ground := Ground.phase }, { on := 9, ground := Ground.phase }, { on := 10, ground := Ground.phase }, { on := 11, ground := Ground.phase }, { on := 12, ground := Ground.phase }], guard := none }] true).wp Tryz.prog Q { tmps := #[x0, x1, x2, x3, (.pointer (some ⟨gc, 0, none⟩)), x5, x6, x7, x8, (.slice (some ⟨gr, 0, none⟩) m rk), x10, x11, x12, x13, x14, x15, x16, x17, x18, x19, x20, x21, (.slice (some ⟨gh, 0, none⟩) m m), (.int .i64 r), (.pointer (some ⟨gf, 0, none⟩)), x25, x26, x27, x28, x29, x30, x31, x32, x33, x34, x35, x36, x37, x38, x39, x40, x41, x42, x43, x44, x45, x46, x47, x48, x49, x50, x51, x52, x53, x54, x55, x56, x57, x58, x59, x60, x61, x62, x63, x64, x65, x66, x67, x68, x69, x70, x71, x72, x73, x74, x75, x76, x77, x78, x79, x80, x81, x82, x83, x84, x85, x86, x87, x88, x89, x90, x91, x92, x93, x94, x95, x96, x97, x98, x99, x100, x101, x102, x103, x104, x105, x106, x107, x108, x109, x110, x111, x112, x113, x114, x115, x116, x117, x118, x119, x120, x121, x122, x123, x124, x125, x126, x127, x128, x129, x130, x131, x132, x133, x134, x135, x136, x137, x138, x139, x140, x141, x142, x143, x144, x145, x146, x147, x148, x149, x150, x151, x152, x153, x154, x155, x156, x157, x158, x159, x160, x161, x162, x163, x164, x165, x166, x167, x168, x169, x170, x171, x172, x173, x174, x175, x176, x177, x178, x179, x180, x181, x182, x183, x184, x185, x186, x187, x188, x189, x190, x191, x192, x193, x194, x195, x196, x197, x198, x199, x200, x201, x202, x203, x204, x205, x206, x207, x208, x209, x210, x211, x212, x213, x214, x215, x216, x217, x218, x219, x220, x221, x222, x223, x224, x225, x226, x227, x228, x229, x230, x231, x232, x233, x234, x235, x236, x237, x238, x239, x240, x241, x242, x243, x244, x245, x246, x247, x248, x249, x250, x251, x252, x253, x254, x255, x256, x257, x258, x259, x260, x261, x262, x263, x264, x265, x266, x267, x268, x269, x270, x271, x272, x273, x274, x275, x276, x277, x278, x279, x280, x281, x282, x283, x284, x285, x286, x287, x288, x289, x290, x291, x292, x293, x294, x295, x296, x297, x298, x299, x300, x301, x302, x303, x304, x305, x306, x307, x308, x309, x310, x311, x312, x313, x314, x315, x316, x317, x318, x319, x320, x321, x322, x323, x324, x325, x326, x327, x328, x329, x330, x331, x332, x333, x334, x335, x336, x337, x338, x339, x340, x341, x342, x343, x344, x345, x346, x347, x348, x349, x350, x351, x352, x353, x354, x355, x356, x357, x358, x359, x360, x361, x362, x363, x364, x365, x366, x367, x368, x369, x370, x371, x372, x373, x374, x375, x376], defers := ds } W0 := by
  have hrz : (r : Int) < (m : Int) := by omega
  have hry : (r : Int) < (m : Int) + 1 := by omega
  refine region_L (fun V => Mt hi gr g c m M V ∧ Bx hi gr g m gf v V ∧ Hx hi gr g m gh h V) 14 (by kernel_rfl) ⟨HE.out.mt.below (Below.refl _ _).drew, HB.out.below (Below.refl _ _).drew, HH.out.below (Below.refl _ _).drew⟩ (fun hHeld => ?_)
  obtain ⟨Z, hZ⟩ : ∃ Z, Z = W0.drew := ⟨_, rfl⟩
  replace HE := Lib.hid (HE.out.below (Below.refl _ _).drew)
  replace HB := Lib.hid (HB.out.below (Below.refl _ _).drew)
  replace HH := Lib.hid (HH.out.below (Below.refl _ _).drew)
  rw [← hZ] at hHeld HE HB HH ⊢
  clear hZ
  refine takeL_do (i := 0) (v := (.slice (some ⟨gh, 0, none⟩) m m)) rfl (by kernel_rfl) (by kernel_rfl) (by kernel_rfl) (by kernel_rfl) (fun _ _ _ h => hP _ _ _ _ _ h) (by rfl) ?_ (by assumption) ?_
  · intro w hSw
    skip
    go_simp
  simp only [Act.put, List.setIfInBounds_toArray, List.set_cons_zero, List.set_cons_succ]
  refine takeL_do (i := 1) (v := (.int .i64 r)) rfl (by kernel_rfl) (by kernel_rfl) (by kernel_rfl) (by kernel_rfl) (fun _ _ _ h => hP _ _ _ _ _ h) (by rfl) ?_ (by assumption) ?_
  · intro w hSw
    skip
    go_simp
  simp only [Act.put, List.setIfInBounds_toArray, List.set_cons_zero, List.set_cons_succ]
  refine takeL_do (i := 2) (v := (.pointer (some ⟨gc, 0, none⟩))) rfl (by kernel_rfl) (by kernel_rfl) (by kernel_rfl) (by kernel_rfl) (fun _ _ _ h => hP _ _ _ _ _ h) (by rfl) ?_ (by assumption) ?_
  · intro w hSw
    skip
    go_simp
  simp only [Act.put, List.setIfInBounds_toArray, List.set_cons_zero, List.set_cons_succ]
  refine takeL_do (i := 3) (v := (frV v)) rfl (by kernel_rfl) (by kernel_rfl) (by kernel_rfl) (by kernel_rfl) (fun _ _ _ h => hP _ _ _ _ _ h) (by rfl) ?_ (by assumption) ?_
  · intro w hSw
    obtain ⟨l0, l1⟩ := frN2 hSw.2.1.row
    go_simp
  simp only [Act.put, List.setIfInBounds_toArray, List.set_cons_zero, List.set_cons_succ]
  refine takeL_do (i := 4) (v := (.slice (some ⟨gr, 0, none⟩) m rk)) rfl (by kernel_rfl) (by kernel_rfl) (by kernel_rfl) (by kernel_rfl) (fun _ _ _ h => hP _ _ _ _ _ h) (by rfl) ?_ (by assumption) ?_
  · intro w hSw
    skip
    go_simp
  simp only [Act.put, List.setIfInBounds_toArray, List.set_cons_zero, List.set_cons_succ]
  refine takeL_do (i := 5) (v := (.int .i64 r)) rfl (by kernel_rfl) (by kernel_rfl) (by kernel_rfl) (by kernel_rfl) (fun _ _ _ h => hP _ _ _ _ _ h) (by rfl) ?_ (by assumption) ?_
  · intro w hSw
    skip
    go_simp
  simp only [Act.put, List.setIfInBounds_toArray, List.set_cons_zero, List.set_cons_succ]
  refine takeL_do (i := 6) (v := (.pointer (some ⟨gr, r, none⟩))) rfl (by kernel_rfl) (by kernel_rfl) (by kernel_rfl) (by kernel_rfl) (fun _ _ _ h => hP _ _ _ _ _ h) (by rfl) ?_ (by assumption) ?_
  · intro w hSw
    skip
    go_simp
  simp only [Act.put, List.setIfInBounds_toArray, List.set_cons_zero, List.set_cons_succ]
  refine takeL_do (i := 7) (v := (.slice (some ⟨g r, 0, none⟩) (m + 1) (c r))) rfl (by kernel_rfl) (by kernel_rfl) (by kernel_rfl) (by kernel_rfl) (fun _ _ _ h => hP _ _ _ _ _ h) (by rfl) ?_ (by assumption) ?_
  · intro w hSw
    have l0 := hSw.1.list r hr
    go_simp
  simp only [Act.put, List.setIfInBounds_toArray, List.set_cons_zero, List.set_cons_succ]
  refine takeL_do (i := 8) (v := (.int .i64 r)) rfl (by kernel_rfl) (by kernel_rfl) (by kernel_rfl) (by kernel_rfl) (fun _ _ _ h => hP _ _ _ _ _ h) (by rfl) ?_ (by assumption) ?_
  · intro w hSw
    skip
    go_simp
  simp only [Act.put, List.setIfInBounds_toArray, List.set_cons_zero, List.set_cons_succ]
  refine takeL_do (i := 9) (v := (.pointer (some ⟨g r, r * 2, none⟩))) rfl (by kernel_rfl) (by kernel_rfl) (by kernel_rfl) (by kernel_rfl) (fun _ _ _ h => hP _ _ _ _ _ h) (by rfl) ?_ (by assumption) ?_
  · intro w hSw
    skip
    go_simp
  simp only [Act.put, List.setIfInBounds_toArray, List.set_cons_zero, List.set_cons_succ]
  refine takeL_do (i := 10) (v := (frV (M r r))) rfl (by kernel_rfl) (by kernel_rfl) (by kernel_rfl) (by kernel_rfl) (fun _ _ _ h => hP _ _ _ _ _ h) (by rfl) ?_ (by assumption) ?_
  · intro w hSw
    obtain ⟨l0, l1⟩ := hSw.1.cell0 (r := r) (j := r) hr (by omega)
    go_simp
  simp only [Act.put, List.setIfInBounds_toArray, List.set_cons_zero, List.set_cons_succ]
  obtain ⟨q1, hq1⟩ : ∃ q, q = Fq.div v (M r r) := ⟨_, rfl⟩
  have HCq1 := Lib.hid (fun (V : World) => nspecDiv v (M r r) V HRv.out (HRM.out r r hr (by omega)))
  rw [← hq1] at HCq1
  have Hq1 := Lib.hid hq1
  clear hq1
  refine takeL_call (i := 11) rfl (by kernel_rfl) (fun K2 hK => ?_)
  go_simp
  refine (HCq1.out _).mono ?_
  rintro e Z9 ⟨rfl, hb⟩
  replace HE := Lib.hid (HE.out.below hb)
  replace HB := Lib.hid (HB.out.below hb)
  replace HH := Lib.hid (HH.out.below hb)
  clear hb HCq1
  go_wp2_with fail
  refine hK.out _ _ ⟨HE.out.mt, HB.out, HH.out⟩ (fun hHeld2 => ?_)
  clear hK hHeld
  have hHeld := hHeld2
  clear hHeld2
  obtain ⟨p2, hp2⟩ : ∃ v, v = Fq.tkv q1 := ⟨_, rfl⟩
  obtain ⟨z2, hz2⟩ : ∃ v, v = Fq.tkz q1 z := ⟨_, rfl⟩
  have HCp2 := Lib.hid (take_any gc q1 z _ HE.out.rc)
  rw [← hp2, ← hz2] at HCp2
  have Hp2 := Lib.hid hp2
  have Hz2 := Lib.hid hz2
  clear hp2 hz2
  refine takeL_call (i := 12) rfl (by kernel_rfl) (fun K2 hK => ?_)
  go_simp
  refine HCp2.out.mono ?_
  rintro e Z10 ⟨rfl, hrz, hon⟩
  replace HB := Lib.hid (HB.out.only hon HE.out.gl)
  replace HH := Lib.hid (HH.out.only hon HE.out.gl)
  replace HE := Lib.hid (HE.out.take hrz hon)
  clear hrz hon HCp2
  go_wp2_with fail
  refine hK.out _ _ ⟨HE.out.mt, HB.out, HH.out⟩ (fun hHeld2 => ?_)
  clear hK hHeld
  have hHeld := hHeld2
  clear hHeld2
  refine takeL_do (i := 13) (v := (.pointer (some ⟨gh, r * 2, none⟩))) rfl (by kernel_rfl) (by kernel_rfl) (by kernel_rfl) (by kernel_rfl) (fun _ _ _ h => hP _ _ _ _ _ h) (by rfl) ?_ (by assumption) ?_
  · intro w hSw
    skip
    go_simp
  simp only [Act.put, List.setIfInBounds_toArray, List.set_cons_zero, List.set_cons_succ]
  obtain ⟨o0, o1⟩ := HH.out.cell hr
  have z0 := HH.out.blk.frozen (r * 2)
  have z1' := HH.out.blk.frozen (r * 2 + 1)
  have l0 := HH.out.blk.lt
  obtain ⟨WZ, hWZ⟩ : ∃ WZ, WZ = (Z10.setCell ⟨gh, r * 2, none⟩ (.int .i64 p2.1)).setCell ⟨gh, r * 2 + 1, none⟩ (.int .i64 p2.2) := ⟨_, rfl⟩
  have HE2 := Lib.hid (HE.out.other HH.out.lo HH.out.ne (r * 2) (r * 2 + 1) (.int .i64 p2.1) (.int .i64 p2.2))
  have HB2 := Lib.hid (HB.out.other (Ne.symm hgh) (r * 2) (r * 2 + 1) (.int .i64 p2.1) (.int .i64 p2.2))
  have HH2 := Lib.hid (HH.out.put r p2)
  rw [← hWZ] at HE2 HB2 HH2
  have HWZ := Lib.hid hWZ
  clear hWZ
  refine takeL_last rfl (by kernel_rfl) (by kernel_rfl) (fun K2 hK => ?_)
  go_simp
  rw [← HWZ.out]
  refine hK.out _ _ ?_
  clear hK hHeld HWZ o0 o1 z0 z1' l0 HE HB HH
  exact hQ _ _ _ _ _ _ _ _ _ _ _ _ _ _ _ q1 Hq1.out (by rw [Hz2.out] at HE2; exact HE2) (by rw [Hp2.out] at HH2; exact HH2)
end Go.Proofs.YtkaokfmaecdkiaaGreatDoor
namespace Go.Proofs.YtkaokfmaecdkiaaGreatDoor
open Go Go.RowKit Go.Deep

set_option maxRecDepth 100000 in
set_option maxHeartbeats 32000000 in
theorem sloop8 {w : World} (hi gc gr gh : Nat) (g c : Nat → Nat) (m rk : Nat) (ra : Option Addr) (V M : El.Mx) (Z : Prop) (z : Int) (h : Nat → Int × Int) (x0 x1 x2 x3 x5 x6 x7 x10 x11 x12 x13 x14 x15 x16 x17 x18 x19 x20 x21 x24 x25 x26 x27 x28 x29 x30 x31 x32 x33 x34 x35 x36 x37 x38 x39 x40 x41 x42 x43 x44 x45 x46 x47 x48 x49 x50 x51 x52 x53 x54 x55 x56 x57 x58 x59 x60 x61 x62 x63 x64 x65 x66 x67 x68 x69 x70 x71 x72 x73 x74 x75 x76 x77 x78 x79 x80 x81 x82 x83 x84 x85 x86 x87 x88 x89 x90 x91 x92 x93 x94 x95 x96 x97 x98 x99 x100 x101 x102 x103 x104 x105 x106 x107 x108 x109 x110 x111 x112 x113 x114 x115 x116 x117 x118 x119 x120 x121 x122 x123 x124 x125 x126 x127 x128 x129 x130 x131 x132 x133 x134 x135 x136 x137 x138 x139 x140 x141 x142 x143 x144 x145 x146 x147 x148 x149 x150 x151 x152 x153 x154 x155 x156 x157 x158 x159 x160 x161 x162 x163 x164 x165 x166 x167 x168 x169 x170 x171 x172 x173 x174 x175 x176 x177 x178 x179 x180 x181 x182 x183 x184 x185 x186 x187 x188 x189 x190 x191 x192 x193 x194 x195 x196 x197 x198 x199 x200 x201 x202 x203 x204 x205 x206 x207 x208 x209 x210 x211 x212 x213 x214 x215 x216 x217 x218 x219 x220 x221 x222 x223 x224 x225 x226 x227 x228 x229 x230 x231 x232 x233 x234 x235 x236 x237 x238 x239 x240 x241 x242 x243 x244 x245 x246 x247 x248 x249 x250 x251 x252 x253 x254 x255 x256 x257 x258 x259 x260 x261 x262 x263 x264 x265 x266 x267 x268 x269 x270 x271 x272 x273 x274 x275 x276 x277 x278 x279 x280 x281 x282 x283 x284 x285 x286 x287 x288 x289 x290 x291 x292 x293 x294 x295 x296 x297 x298 x299 x300 x301 x302 x303 x304 x305 x306 x307 x308 x309 x310 x311 x312 x313 x314 x315 x316 x317 x318 x319 x320 x321 x322 x323 x324 x325 x326 x327 x328 x329 x330 x331 x332 x333 x334 x335 x336 x337 x338 x339 x340 x341 x342 x343 x344 x345 x346 x347 x348 x349 x350 x351 x352 x353 x354 x355 x356 x357 x358 x359 x360 x361 x362 x363 x364 x365 x366 x367 x368 x369 x370 x371 x372 x373 x374 x375 x376 : Value) (ds : _) (Q : Exit → Act → World → Prop) (W0 : World)
    (HE : Hid (Es hi gc gr g c m M z w W0)) (HH : Hid (Hx hi gr g m gh h W0)) (HK : Hid (El.Hk m V Z M 0 z h)) (HRM : Hid (El.AllR m M)) (HZ : Hid (Z → El.HdOk m V m)) (hra : 0 < m → ra = some ⟨gr, 0, none⟩) (hm : m ≤ 100)
    (hP : ∀ c (a : Act) o v w, Q (.panic c) (a.put o v) w → Q (.panic c) a w)
    (hQ : ∀ (y23 y24 y25 y271 y272 y273 y274 y275 y276 y277 y278 y279 y280 y281 y282 y283 y284 y285 y286 y287 y288 y289 y290 y291 y292 y293 y294 y295 y296 y297 y298 y299 y300 y301 y302 y303 y304 y305 y306 y307 y308 y309 y310 y311 y312 y313 y314 y315 y316 y317 y318 y319 y320 y321 y322 y323 y324 y325 y326 y327 : Value) (WZ : World) (h : Nat → Int × Int) (z : Int) (s : Nat), Hid (El.Hk m V Z M s z h) → (z = 0 → s = m) → Hid (Es hi gc gr g c m M z w WZ) → Hid (Hx hi gr g m gh h WZ) → Q (.exit 14) { tmps := #[x0, x1, x2, x3, (.pointer (some ⟨gc, 0, none⟩)), x5, x6, x7, (.int .i64 m), (.slice ra m rk), x10, x11, x12, x13, x14, x15, x16, x17, x18, x19, x20, x21, (.slice (some ⟨gh, 0, none⟩) m m), y23, y24, y25, x26, x27, x28, x29, x30, x31, x32, x33, x34, x35, x36, x37, x38, x39, x40, x41, x42, x43, x44, x45, x46, x47, x48, x49, x50, x51, x52, x53, x54, x55, x56, x57, x58, x59, x60, x61, x62, x63, x64, x65, x66, x67, x68, x69, x70, x71, x72, x73, x74, x75, x76, x77, x78, x79, x80, x81, x82, x83, x84, x85, x86, x87, x88, x89, x90, x91, x92, x93, x94, x95, x96, x97, x98, x99, x100, x101, x102, x103, x104, x105, x106, x107, x108, x109, x110, x111, x112, x113, x114, x115, x116, x117, x118, x119, x120, x121, x122, x123, x124, x125, x126, x127, x128, x129, x130, x131, x132, x133, x134, x135, x136, x137, x138, x139, x140, x141, x142, x143, x144, x145, x146, x147, x148, x149, x150, x151, x152, x153, x154, x155, x156, x157, x158, x159, x160, x161, x162, x163, x164, x165, x166, x167, x168, x169, x170, x171, x172, x173, x174, x175, x176, x177, x178, x179, x180, x181, x182, x183, x184, x185, x186, x187, x188, x189, x190, x191, x192, x193, x194, x195, x196, x197, x198, x199, x200, x201, x202, x203, x204, x205, x206, x207, x208, x209, x210, x211, x212, x213, x214, x215, x216, x217, x218, x219, x220, x221, x222, x223, x224, x225, x226, x227, x228, x229, x230, x231, x232, x233, x234, x235, x236, x237, x238, x239, x240, x241, x242, x243, x244, x245, x246, x247, x248, x249, x250, x251, x252, x253, x254, x255, x256, x257, x258, x259, x260, x261, x262, x263, x264, x265, x266, x267, x268, x269, x270, y271, y272, y273, y274, y275, y276, y277, y278, y279, y280, y281, y282, y283, y284, y285, y286, y287, y288, y289, y290, y291, y292, y293, y294, y295, y296, y297, y298, y299, y300, y301, y302, y303, y304, y305, y306, y307, y308, y309, y310, y311, y312, y313, y314, y315, y316, y317, y318, y319, y320, y321, y322, y323, y324, y325, y326, y327, x328, x329, x330, x331, x332, x333, x334, x335, x336, x337, x338, x339, x340, x341, x342, x343, x344, x345, x346, x347, x348, x349, x350, x351, x352, x353, x354, x355, x356, x357, x358, x359, x360, x361, x362, x363, x364, x365, x366, x367, x368, x369, x370, x371, x372, x373, x374, x375, x376], defers := ds } WZ) :
    ((((Code.region 57 #[{ dst := some 271, op := Op.move (Operand.tmp 23), type := 3, pos := "l07_linear.go:129", after := #[], guard := none }, { dst := some 272, op := Op.binOp BinOp.geq 3 (Operand.tmp 271) (Operand.const (Value.int IntKind.i64 0)) 3, type := 4, pos := "l07_linear.go:129", after := #[{ on := 0, ground := Ground.data }], guard := none }, { dst := some 273, op := Op.move (Operand.tmp 272), type := 4, pos := "l07_linear.go:129", after := #[{ on := 1, ground := Ground.data }], guard := none }, { dst := some 274, op := Op.move (Operand.tmp 4), type := 57, pos := "l07_linear.go:129", after := #[{ on := 2, ground := Ground.guard }], guard := some (2, true) }, { dst := some 275, op := Op.nilCheck (Operand.tmp 274), type := 0, pos := "l07_linear.go:129", after := #[{ on := 3, ground := Ground.data }, { on := 2, ground := Ground.guard }], guard := some (2, true) }, { dst := some 276, op := Op.fieldAddr 59 (Operand.tmp 275) 0, type := 0, pos := "l07_linear.go:129", after := #[{ on := 4, ground := Ground.data }, { on := 2, ground := Ground.guard }], guard := some (2, true) }, { dst := some 277, op := Op.load 2 (Operand.tmp 276), type := 2, pos := "l07_linear.go:129", after := #[{ on := 5, ground := Ground.data }, { on := 2, ground := Ground.guard }], guard := some (2, true) }, { dst := some 278, op := Op.binOp BinOp.eql 2 (Operand.tmp 277) (Operand.const (Value.int IntKind.i64 0)) 2, type := 4, pos := "l07_linear.go:129", after := #[{ on := 6, ground := Ground.data }, { on := 2, ground := Ground.guard }], guard := some (2, true) }, { dst := some 279, op := Op.pick (Operand.tmp 273) (Operand.tmp 278) (Operand.const (Value.bool false)), type := 4, pos := "l07_linear.go:129", after := #[{ on := 2, ground := Ground.data }, { on := 7, ground := Ground.data }], guard := none }] false).seq (Code.cond (Operand.tmp 279) Code.skip (Code.exit 14))).seq ((Code.block 15 ((Code.region 59 #[{ dst := some 282, op := Op.move (Operand.tmp 9), type := 62, pos := "l07_linear.go:130", after := #[], guard := none }, { dst := some 283, op := Op.move (Operand.tmp 23), type := 3, pos := "l07_linear.go:130", after := #[], guard := none }, { dst := some 284, op := Op.indexAddr 62 (Operand.tmp 282) (Operand.tmp 283), type := 0, pos := "l07_linear.go:130", after := #[{ on := 0, ground := Ground.data }, { on := 1, ground := Ground.data }], guard := none }, { dst := some 285, op := Op.load 29 (Operand.tmp 284), type := 29, pos := "l07_linear.go:130", after := #[{ on := 2, ground := Ground.data }], guard := none }, { dst := some 286, op := Op.move (Operand.tmp 8), type := 3, pos := "l07_linear.go:130", after := #[], guard := none }, { dst := some 287, op := Op.indexAddr 29 (Operand.tmp 285) (Operand.tmp 286), type := 0, pos := "l07_linear.go:130", after := #[{ on := 3, ground := Ground.data }, { on := 4, ground := Ground.data }], guard := none }, { dst := some 288, op := Op.load 35 (Operand.tmp 287), type := 35, pos := "l07_linear.go:130", after := #[{ on := 5, ground := Ground.data }], guard := none }, { dst := some 24, op := Op.alloc 35, type := 0, pos := "l07_linear.go:130", after := #[], guard := none }, { dst := none, op := Op.store 35 (Operand.tmp 24) (Operand.tmp 288), type := 0, pos := "l07_linear.go:130", after := #[{ on := 7, ground := Ground.data }, { on := 6, ground := Ground.data }, { on := 0, ground := Ground.phase }, { on := 1, ground := Ground.phase }, { on := 2, ground := Ground.phase }, { on := 3, ground := Ground.phase }, { on := 4, ground := Ground.phase }, { on := 5, ground := Ground.phase }, { on := 6, ground := Ground.phase }, { on := 7, ground := Ground.phase }], guard := none }] false).seq (((Code.region 60 #[{ dst := some 289, op := Op.move (Operand.tmp 23), type := 3, pos := "l07_linear.go:131", after := #[], guard := none }, { dst := some 290, op := Op.binOp BinOp.add 3 (Operand.tmp 289) (Operand.const (Value.int IntKind.i64 1)) 3, type := 3, pos := "l07_linear.go:131", after := #[{ on := 0, ground := Ground.data }], guard := none }, { dst := some 25, op := Op.assign (Operand.tmp 290), type := 3, pos := "l07_linear.go:131", after := #[{ on := 1, ground := Ground.data }, { on := 0, ground := Ground.phase }, { on := 1, ground := Ground.phase }], guard := none }] false).seq (Code.block 16 (((Code.region 61 #[{ dst := some 291, op := Op.move (Operand.tmp 25), type := 3, pos := "l07_linear.go:131", after := #[], guard := none }, { dst := some 292, op := Op.move (Operand.tmp 8), type := 3, pos := "l07_linear.go:131", after := #[], guard := none }, { dst := some 293, op := Op.binOp BinOp.lss 3 (Operand.tmp 291) (Operand.tmp 292) 3, type := 4, pos := "l07_linear.go:131", after := #[{ on := 0, ground := Ground.data }, { on := 1, ground := Ground.data }], guard := none }] false).seq (Code.cond (Operand.tmp 293) Code.skip (Code.exit 16))).seq ((Code.block 17 (Code.region 63 #[{ dst := some 296, op := Op.move (Operand.tmp 4), type := 57, pos := "l07_linear.go:132", after := #[], guard := none }, { dst := some 297, op := Op.load 35 (Operand.tmp 24), type := 35, pos := "l07_linear.go:132", after := #[], guard := none }, { dst := some 298, op := Op.move (Operand.tmp 4), type := 57, pos := "l07_linear.go:132", after := #[], guard := none }, { dst := some 299, op := Op.move (Operand.tmp 9), type := 62, pos := "l07_linear.go:132", after := #[], guard := none }, { dst := some 300, op := Op.move (Operand.tmp 23), type := 3, pos := "l07_linear.go:132", after := #[], guard := none }, { dst := some 301, op := Op.indexAddr 62 (Operand.tmp 299) (Operand.tmp 300), type := 0, pos := "l07_linear.go:132", after := #[{ on := 3, ground := Ground.data }, { on := 4, ground := Ground.data }], guard := none }, { dst := some 302, op := Op.load 29 (Operand.tmp 301), type := 29, pos := "l07_linear.go:132", after := #[{ on := 5, ground := Ground.data }], guard := none }, { dst := some 303, op := Op.move (Operand.tmp 25), type := 3, pos := "l07_linear.go:132", after := #[], guard := none }, { dst := some 304, op := Op.indexAddr 29 (Operand.tmp 302) (Operand.tmp 303), type := 0, pos := "l07_linear.go:132", after := #[{ on := 6, ground := Ground.data }, { on := 7, ground := Ground.data }], guard := none }, { dst := some 305, op := Op.load 35 (Operand.tmp 304), type := 35, pos := "l07_linear.go:132", after := #[{ on := 8, ground := Ground.data }], guard := none }, { dst := some 306, op := Op.move (Operand.tmp 22), type := 29, pos := "l07_linear.go:132", after := #[], guard := none }, { dst := some 307, op := Op.move (Operand.tmp 25), type := 3, pos := "l07_linear.go:132", after := #[], guard := none }, { dst := some 308, op := Op.indexAddr 29 (Operand.tmp 306) (Operand.tmp 307), type := 0, pos := "l07_linear.go:132", after := #[{ on := 10, ground := Ground.data }, { on := 11, ground := Ground.data }], guard := none }, { dst := some 309, op := Op.load 35 (Operand.tmp 308), type := 35, pos := "l07_linear.go:132", after := #[{ on := 12, ground := Ground.data }], guard := none }, { dst := some 310, op := Op.call { callee := Callee.value (Operand.func 29), args := #[Operand.tmp 305, Operand.tmp 309], argTypes := #[35, 35] }, type := 65, pos := "l07_linear.go:132", after := #[{ on := 9, ground := Ground.data }, { on := 13, ground := Ground.data }], guard := none }, { dst := some 311, op := Op.call { callee := Callee.value (Operand.func 24), args := #[Operand.tmp 298, Operand.tmp 310], argTypes := #[57, 65] }, type := 35, pos := "l07_linear.go:132", after := #[{ on := 2, ground := Ground.data }, { on := 14, ground := Ground.data }, { on := 14, ground := Ground.chain }], guard := none }, { dst := some 312, op := Op.call { callee := Callee.value (Operand.func 28), args := #[Operand.tmp 297, Operand.tmp 311], argTypes := #[35, 35] }, type := 65, pos := "l07_linear.go:132", after := #[{ on := 1, ground := Ground.data }, { on := 15, ground := Ground.data }, { on := 15, ground := Ground.chain }], guard := none }, { dst := some 313, op := Op.call { callee := Callee.value (Operand.func 24), args := #[Operand.tmp 296, Operand.tmp 312], argTypes := #[57, 65] }, type := 35, pos := "l07_linear.go:132", after := #[{ on := 0, ground := Ground.data }, { on := 16, ground := Ground.data }, { on := 16, ground := Ground.chain }], guard := none }, { dst := none, op := Op.store 35 (Operand.tmp 24) (Operand.tmp 313), type := 0, pos := "l07_linear.go:132", after := #[{ on := 17, ground := Ground.data }, { on := 17, ground := Ground.chain }, { on := 0, ground := Ground.phase }, { on := 1, ground := Ground.phase }, { on := 2, ground := Ground.phase }, { on := 3, ground := Ground.phase }, { on := 4, ground := Ground.phase }, { on := 5, ground := Ground.phase }, { on := 6, ground := Ground.phase }, { on := 7, ground := Ground.phase }, { on := 8, ground := Ground.phase }, { on := 9, ground := Ground.phase }, { on := 10, ground := Ground.phase }, { on := 11, ground := Ground.phase }, { on := 12, ground := Ground.phase }, { on := 13, ground := Ground.phase }, { on := 14, ground := Ground.phase }, { on := 15, ground := Ground.phase }, { on := 16, ground := Ground.phase }, { on := 17, ground := Ground.phase }], guard := none }] true)).seq (Code.region 62 #[{ dst := some 294, op := Op.move (Operand.tmp 25), type := 3, pos := "l07_linear.go:131", after := #[], guard := none }, { dst := some 295, op := Op.binOp BinOp.add 3 (Operand.tmp 294) (Operand.const (Value.int IntKind.i64 1)) 3, type := 3, pos := "l07_linear.go:131", after := #[{ on := 0, ground := Ground.data }], guard := none }, { dst := some 25, op := Op.assign (Operand.tmp 295), type := 3, pos := "l07_linear.go:131", after := #[{ on := 1, ground := Ground.data }, { on := 0, ground := Ground.phase }, { on := 1, ground := Ground.phase }], guard := none }] false))).loop)).seq (Code.region 64 #[{ dst := some 314, op := Op.move (Operand.tmp 22), type := 29, pos := "l07_linear.go:134", after := #[], guard := none }, { dst := some 315, op := Op.move (Operand.tmp 23), type := 3, pos := "l07_linear.go:134", after := #[], guard := none }, { dst := some 316, op := Op.move (Operand.tmp 4), type := 57, pos := "l07_linear.go:134", after := #[], guard := none }, { dst := some 317, op := Op.load 35 (Operand.tmp 24), type := 35, pos := "l07_linear.go:134", after := #[], guard := none }, { dst := some 318, op := Op.move (Operand.tmp 9), type := 62, pos := "l07_linear.go:134", after := #[], guard := none }, { dst := some 319, op := Op.move (Operand.tmp 23), type := 3, pos := "l07_linear.go:134", after := #[], guard := none }, { dst := some 320, op := Op.indexAddr 62 (Operand.tmp 318) (Operand.tmp 319), type := 0, pos := "l07_linear.go:134", after := #[{ on := 4, ground := Ground.data }, { on := 5, ground := Ground.data }], guard := none }, { dst := some 321, op := Op.load 29 (Operand.tmp 320), type := 29, pos := "l07_linear.go:134", after := #[{ on := 6, ground := Ground.data }], guard := none }, { dst := some 322, op := Op.move (Operand.tmp 23), type := 3, pos := "l07_linear.go:134", after := #[], guard := none }, { dst := some 323, op := Op.indexAddr 29 (Operand.tmp 321) (Operand.tmp 322), type := 0, pos := "l07_linear.go:134", after := #[{ on := 7, ground := Ground.data }, { on := 8, ground := Ground.data }], guard := none }, { dst := some 324, op := Op.load 35 (Operand.tmp 323), type := 35, pos := "l07_linear.go:134", after := #[{ on := 9, ground := Ground.data }], guard := none }, { dst := some 325, op := Op.call { callee := Callee.value (Operand.func 27), args := #[Operand.tmp 317, Operand.tmp 324], argTypes := #[35, 35] }, type := 65, pos := "l07_linear.go:134", after := #[{ on := 3, ground := Ground.data }, { on := 10, ground := Ground.data }], guard := none }, { dst := some 326, op := Op.call { callee := Callee.value (Operand.func 24), args := #[Operand.tmp 316, Operand.tmp 325], argTypes := #[57, 65] }, type := 35, pos := "l07_linear.go:134", after := #[{ on := 2, ground := Ground.data }, { on := 11, ground := Ground.data }, { on := 11, ground := Ground.chain }], guard := none }, { dst := some 327, op := Op.indexAddr 29 (Operand.tmp 314) (Operand.tmp 315), type := 0, pos := "l07_linear.go:134", after := #[{ on := 0, ground := Ground.data }, { on := 1, ground := Ground.data }, { on := 0, ground := Ground.phase }, { on := 1, ground := Ground.phase }, { on := 2, ground := Ground.phase }, { on := 3, ground := Ground.phase }, { on := 4, ground := Ground.phase }, { on := 5, ground := Ground.phase }, { on := 6, ground := Ground.phase }, { on := 7, ground := Ground.phase }, { on := 8, ground := Ground.phase }, { on := 9, ground := Ground.phase }, { on := 10, ground := Ground.phase }, { on := 11, ground := Ground.phase }, { on := 12, ground := Ground.phase }], guard := none }, { dst := none, op := Op.store 35 (Operand.tmp 327) (Operand.tmp 326), type := 0, pos := "l07_linear.go:134", after := #[{ on := 13, ground := Ground.data }, { on := 12, ground := Ground.data }, { on := 12, ground := Ground.chain }, { on := 0, ground := Ground.phase }, { on := 1, ground := Ground.phase }, { on := 2, ground := Ground.phase }, { on := 3, ground := Ground.phase }, { on := 4, ground := Ground.phase }, { on := 5, ground := Ground.phase }, { on := 6, ground := Ground.phase }, { on := 7, ground := Ground.phase }, { on := 8, ground := Ground.phase }, { on := 9, ground := Ground.phase }, { on := 10, ground := Ground.phase }, { on := 11, ground := Ground.phase }, { on := 12, ground := Ground.phase }], guard := none }] true)))).seq (Code.region 58 #[{ dst := some 280, op := Op.move (Operand.tmp 23), type := 3, pos := "l07_linear.go:129", after := #[], guard := none }, { dst := some 281, op := Op.binOp BinOp.sub 3 (Operand.tmp 280) (Operand.const (Value.int IntKind.i64 1)) 3, type := 3, pos := "l07_linear.go:129", after := #[{ on := 0, ground := Ground.data }], guard := none }, { dst := some 23, op := Op.assign (Operand.tmp 281), type := 3, pos := "l07_linear.go:129", after := #[{ on := 1, ground := Ground.data }, { on := 0, ground := Ground.phase }, { on := 1, ground := Ground.phase }], guard := none }] false))).loop).wp Tryz.prog Q { tmps := #[x0, x1, x2, x3, (.pointer (some ⟨gc, 0, none⟩)), x5, x6, x7, (.int .i64 m), (.slice ra m rk), x10, x11, x12, x13, x14, x15, x16, x17, x18, x19, x20, x21, (.slice (some ⟨gh, 0, none⟩) m m), (.int .i64 ((m : Int) - 1)), x24, x25, x26, x27, x28, x29, x30, x31, x32, x33, x34, x35, x36, x37, x38, x39, x40, x41, x42, x43, x44, x45, x46, x47, x48, x49, x50, x51, x52, x53, x54, x55, x56, x57, x58, x59, x60, x61, x62, x63, x64, x65, x66, x67, x68, x69, x70, x71, x72, x73, x74, x75, x76, x77, x78, x79, x80, x81, x82, x83, x84, x85, x86, x87, x88, x89, x90, x91, x92, x93, x94, x95, x96, x97, x98, x99, x100, x101, x102, x103, x104, x105, x106, x107, x108, x109, x110, x111, x112, x113, x114, x115, x116, x117, x118, x119, x120, x121, x122, x123, x124, x125, x126, x127, x128, x129, x130, x131, x132, x133, x134, x135, x136, x137, x138, x139, x140, x141, x142, x143, x144, x145, x146, x147, x148, x149, x150, x151, x152, x153, x154, x155, x156, x157, x158, x159, x160, x161, x162, x163, x164, x165, x166, x167, x168, x169, x170, x171, x172, x173, x174, x175, x176, x177, x178, x179, x180, x181, x182, x183, x184, x185, x186, x187, x188, x189, x190, x191, x192, x193, x194, x195, x196, x197, x198, x199, x200, x201, x202, x203, x204, x205, x206, x207, x208, x209, x210, x211, x212, x213, x214, x215, x216, x217, x218, x219, x220, x221, x222, x223, x224, x225, x226, x227, x228, x229, x230, x231, x232, x233, x234, x235, x236, x237, x238, x239, x240, x241, x242, x243, x244, x245, x246, x247, x248, x249, x250, x251, x252, x253, x254, x255, x256, x257, x258, x259, x260, x261, x262, x263, x264, x265, x266, x267, x268, x269, x270, x271, x272, x273, x274, x275, x276, x277, x278, x279, x280, x281, x282, x283, x284, x285, x286, x287, x288, x289, x290, x291, x292, x293, x294, x295, x296, x297, x298, x299, x300, x301, x302, x303, x304, x305, x306, x307, x308, x309, x310, x311, x312, x313, x314, x315, x316, x317, x318, x319, x320, x321, x322, x323, x324, x325, x326, x327, x328, x329, x330, x331, x332, x333, x334, x335, x336, x337, x338, x339, x340, x341, x342, x343, x344, x345, x346, x347, x348, x349, x350, x351, x352, x353, x354, x355, x356, x357, x358, x359, x360, x361, x362, x363, x364, x365, x366, x367, x368, x369, x370, x371, x372, x373, x374, x375, x376], defers := ds } W0 := by
  dsimp only
  go_loopw [23] (fun xv wr => ∃ (s : Nat) (x z : Int) (h : Nat → Int × Int), xv = .int .i64 x ∧ x = (m : Int) - 1 - s ∧ s ≤ m ∧ Hid (El.Hk m V Z M s z h) ∧ Hid (Es hi gc gr g c m M z w wr) ∧ Hid (Hx hi gr g m gh h wr)) (fun xv _ => (intOf xv + 1).toNat)
  case atStart => exact ⟨0, (m : Int) - 1, z, h, rfl, by simp, Nat.zero_le _, HK, HE, HH⟩
  case round =>
    obtain ⟨s, x, z, h, rfl, hx, hsm, hK, hE, hH⟩ := hrel
    clear HK HE HH
    obtain ⟨W1, hW1⟩ : ∃ W, W = wr := ⟨_, rfl⟩
    rw [← hW1] at hE hH ⊢
    clear hW1
    have HK := hK
    have HE := hE
    have HH := hH
    clear hK hE hH
    have c0 := HE.out.rc.cell (i := 0) (by omega)
    simp only [rowN, List.getD_cons_zero] at c0
    by_cases hs : s < m
    · obtain ⟨r, hr⟩ : ∃ r : Nat, r = m - 1 - s := ⟨_, rfl⟩
      obtain rfl : x = (r : Int) := by omega
      have hx2 := Lib.hid hx
      clear hx
      have hrm : r < m := by omega
      have hrz : (r : Int) < (m : Int) := by omega
      have hr0 : (0 : Int) ≤ (r : Int) := by omega
      have HR0 := Lib.hid hr
      clear hr
      by_cases hz : z = 0
      · subst hz
        obtain rfl := hra (by omega)
        have hmz : (m : Int) < (m : Int) + 1 := by omega
        have l0 := HE.out.mt.list r hrm
        obtain ⟨l1, l2⟩ := HE.out.mt.cell0 (r := r) (j := m) hrm (Nat.le_refl _)
        obtain ⟨v, hv⟩ : ∃ v, v = M r m := ⟨_, rfl⟩
        rw [← hv] at l1 l2
        obtain ⟨W2, hW2⟩ : ∃ W, W = W1.alloc (.cells #[.int .i64 v.1, .int .i64 v.2] 35) := ⟨_, rfl⟩
        obtain ⟨gf, hgf⟩ : ∃ x, x = W1.heap.size := ⟨_, rfl⟩
        have hb : Below W1.heap.size W1 W2 := by rw [hW2]; exact nbel_alloc _ _
        have HB : Hid (Bx hi gr g m gf v W2) := HE.out.fresh (by omega) (by rw [hW2, hgf]; exact rowN_alloc _ _ _) (by omega)
        have hgh : gh ≠ gf := by have := HH.out.blk.lt; omega
        have HT := Lib.hid (HK.out.start HRM.out hs)
        rw [← HR0.out, ← hv] at HT
        replace HE := Lib.hid (HE.out.below hb)
        replace HH := Lib.hid (HH.out.below hb)
        have HW2 := Lib.hid hW2
        have HGF := Lib.hid hgf
        clear hb hW2 hgf hv
        go_wp2_with fail
        rw [← HW2.out, ← HGF.out]
        clear HW2 HGF c0 l0 l1 l2
        go_loopw [25] (fun jv wr => ∃ (t j : Nat) (z : Int) (v : Int × Int), jv = .int .i64 j ∧ j = r + 1 + t ∧ t ≤ s ∧ Hid (El.Ht m V Z M s t z v) ∧ Hid (Es hi gc gr g c m M z w wr) ∧ Hid (Bx hi gr g m gf v wr) ∧ Hid (Hx hi gr g m gh h wr)) (fun jv _ => m - (intOf jv).toNat)
        case atStart => exact ⟨0, r + 1, 0, v, by go_num, rfl, Nat.zero_le _, HT, HE, HB, HH⟩
        case round =>
          obtain ⟨t, j, z, v, rfl, hj, hts, hT, hE, hB, hH⟩ := hrel
          clear HT HE HB HH
          obtain ⟨W3, hW3⟩ : ∃ W, W = wr := ⟨_, rfl⟩
          rw [← hW3] at hE hB hH ⊢
          clear hW3
          have HT := hT
          have HE := hE
          have HB := hB
          have HH := hH
          clear hT hE hB hH
          have HJ0 := Lib.hid hj
          by_cases htl : t < s
          · have hjm : j < m := by have := HR0.out; omega
            have hjz : (j : Int) < (m : Int) := by omega
            clear hj
            have HRh : Hid (Fq.R (h j)) := HK.out.hr j (by have := HR0.out; have := HJ0.out; omega) hjm
            go_wp2_with fail
            apply sreg63 (HE := HE) (HB := HB) (HH := HH) (hgh := hgh) (HRM := HRM) (HRv := HT.out.rv) (HRh := HRh) (hr := hrm) (hj := hjm) (hP := fun c a o v w h => by exact hP c a o v w h)
            intro y296 y297 y298 y299 y300 y301 y302 y303 y304 y305 y306 y307 y308 y309 y310 y311 y312 y313 W4 p q hp hq HE2 HB2 HH2
            have HT2 := Lib.hid (HT.out.step HK.out HRM.out hs htl HZ.out (p := p) (q := q) (by rw [← HR0.out, ← HJ0.out]; exact hp) hq)
            clear HE HB HH HT hp hq HRh
            go_wp2_with fail
            go_roundw
            case rel => exact ⟨t + 1, j + 1, _, _, by go_num, by have := HJ0.out; omega, by omega, HT2, HE2, HB2, HH2⟩
            case measure => simp [intOf]; omega
          · obtain rfl : t = s := by omega
            have hjm : ¬ (j : Int) < (m : Int) := by have := HR0.out; omega
            clear hj
            go_wp2_with fail
            apply sreg64 (HE := HE) (HB := HB) (HH := HH) (hgh := hgh) (HRM := HRM) (HRv := HT.out.rv) (hr := hrm) (hP := fun c a o v w h => by exact hP c a o v w h)
            intro y314 y315 y316 y317 y318 y319 y320 y321 y322 y323 y324 y325 y326 y327 W4 p hp HE2 HH2
            have HK2 := Lib.hid (HT.out.done HK.out HRM.out hs HZ.out (p := p) (by rw [← HR0.out]; exact hp))
            rw [← HR0.out] at HK2
            clear HE HB HH HT hp HK
            go_wp2_with fail
            go_roundw
            case rel => exact ⟨t + 1, (r : Int) - 1, _, _, by go_num, by have := hx2.out; omega, by omega, HK2, HE2, HH2⟩
            case measure => simp [intOf]
      · have hz2 : (z == 0) = false := by simpa using hz
        have hqz := Lib.hid (fun e : z = 0 => (absurd e hz : s = m))
        clear hz
        go_wp2_with fail
        exact hQ _ _ _ _ _ _ _ _ _ _ _ _ _ _ _ _ _ _ _ _ _ _ _ _ _ _ _ _ _ _ _ _ _ _ _ _ _ _ _ _ _ _ _ _ _ _ _ _ _ _ _ _ _ _ _ _ _ _ _ _ _ h z s HK hqz.out HE HH
    · have hr0 : ¬ (0 : Int) ≤ x := by omega
      have hsm2 : s = m := by omega
      go_wp2_with fail
      exact hQ _ _ _ _ _ _ _ _ _ _ _ _ _ _ _ _ _ _ _ _ _ _ _ _ _ _ _ _ _ _ _ _ _ _ _ _ _ _ _ _ _ _ _ _ _ _ _ _ _ _ _ _ _ _ _ _ _ _ _ _ _ h z s HK (fun _ => hsm2) HE HH
end Go.Proofs.YtkaokfmaecdkiaaGreatDoor
namespace Go.Proofs.YtkaokfmaecdkiaaGreatDoor
open Go Go.RowKit Go.Deep

set_option maxRecDepth 100000 in
set_option maxHeartbeats 32000000 in
theorem sreg72 {w : World} (n : Nt.Net) (la : Option Addr) (lk : Nat) (fa : Option Addr) (fk : Nat) (wa : Option Addr) (wk gc go k : Nat) (f : Nat → Int × Int) (va : Option Addr) (vk gn N gh m : Nat) (no : Nat → Int) (h : Nat → Int × Int) (r : Nat) (x0 x1 x2 x3 x4 x5 x7 x8 x9 x10 x11 x12 x13 x14 x15 x16 x17 x18 x19 x20 x21 x23 x24 x25 x28 x29 x30 x31 x32 x33 x34 x35 x36 x37 x38 x39 x40 x41 x42 x43 x44 x45 x46 x47 x48 x49 x50 x51 x52 x53 x54 x55 x56 x57 x58 x59 x60 x61 x62 x63 x64 x65 x66 x67 x68 x69 x70 x71 x72 x73 x74 x75 x76 x77 x78 x79 x80 x81 x82 x83 x84 x85 x86 x87 x88 x89 x90 x91 x92 x93 x94 x95 x96 x97 x98 x99 x100 x101 x102 x103 x104 x105 x106 x107 x108 x109 x110 x111 x112 x113 x114 x115 x116 x117 x118 x119 x120 x121 x122 x123 x124 x125 x126 x127 x128 x129 x130 x131 x132 x133 x134 x135 x136 x137 x138 x139 x140 x141 x142 x143 x144 x145 x146 x147 x148 x149 x150 x151 x152 x153 x154 x155 x156 x157 x158 x159 x160 x161 x162 x163 x164 x165 x166 x167 x168 x169 x170 x171 x172 x173 x174 x175 x176 x177 x178 x179 x180 x181 x182 x183 x184 x185 x186 x187 x188 x189 x190 x191 x192 x193 x194 x195 x196 x197 x198 x199 x200 x201 x202 x203 x204 x205 x206 x207 x208 x209 x210 x211 x212 x213 x214 x215 x216 x217 x218 x219 x220 x221 x222 x223 x224 x225 x226 x227 x228 x229 x230 x231 x232 x233 x234 x235 x236 x237 x238 x239 x240 x241 x242 x243 x244 x245 x246 x247 x248 x249 x250 x251 x252 x253 x254 x255 x256 x257 x258 x259 x260 x261 x262 x263 x264 x265 x266 x267 x268 x269 x270 x271 x272 x273 x274 x275 x276 x277 x278 x279 x280 x281 x282 x283 x284 x285 x286 x287 x288 x289 x290 x291 x292 x293 x294 x295 x296 x297 x298 x299 x300 x301 x302 x303 x304 x305 x306 x307 x308 x309 x310 x311 x312 x313 x314 x315 x316 x317 x318 x319 x320 x321 x322 x323 x324 x325 x326 x327 x328 x329 x330 x331 x332 x333 x334 x335 x336 x337 x338 x339 x340 x341 x342 x343 x344 x345 x346 x347 x348 x349 x350 x351 x352 x353 x354 x355 x356 x357 x358 x359 x360 x361 x362 x363 x364 x365 x366 x367 x368 x369 x370 x371 x372 x373 x374 x375 x376 : Value) (ds : _) (Q : Exit → Act → World → Prop) (W0 : World)
    (HO : Hid (Ou n la lk fa fk wa wk gc go k f (.slice va k vk) gn N gh m no h w W0)) (HAT : Hid (NtAt n la fa wa w)) (hk : k < N) (hN : N ≤ 100) (HNO : Hid (no k = (r : Int))) (hr : r < m) (HHF : Hid (h r = f k)) (hP : ∀ c (a : Act) o v w, Q (.panic c) (a.put o v) w → Q (.panic c) a w)
    (hQ : ∀ (y350 y351 y352 y353 y354 y355 y356 y357 y358 y359 y360 y361 : Value) (WZ : World) (a8 : Option Addr) (c8 : Nat), Hid (Ou n la lk fa fk wa wk gc go (k + 1) f (.slice a8 (k + 1) c8) gn N gh m no h w WZ) → Q .normal { tmps := #[x0, x1, x2, x3, x4, x5, (.slice (some ⟨gn, 0, none⟩) N N), x7, x8, x9, x10, x11, x12, x13, x14, x15, x16, x17, x18, x19, x20, x21, (.slice (some ⟨gh, 0, none⟩) m m), x23, x24, x25, (.pointer (some ⟨go, 0, none⟩)), (.int .i64 k), x28, x29, x30, x31, x32, x33, x34, x35, x36, x37, x38, x39, x40, x41, x42, x43, x44, x45, x46, x47, x48, x49, x50, x51, x52, x53, x54, x55, x56, x57, x58, x59, x60, x61, x62, x63, x64, x65, x66, x67, x68, x69, x70, x71, x72, x73, x74, x75, x76, x77, x78, x79, x80, x81, x82, x83, x84, x85, x86, x87, x88, x89, x90, x91, x92, x93, x94, x95, x96, x97, x98, x99, x100, x101, x102, x103, x104, x105, x106, x107, x108, x109, x110, x111, x112, x113, x114, x115, x116, x117, x118, x119, x120, x121, x122, x123, x124, x125, x126, x127, x128, x129, x130, x131, x132, x133, x134, x135, x136, x137, x138, x139, x140, x141, x142, x143, x144, x145, x146, x147, x148, x149, x150, x151, x152, x153, x154, x155, x156, x157, x158, x159, x160, x161, x162, x163, x164, x165, x166, x167, x168, x169, x170, x171, x172, x173, x174, x175, x176, x177, x178, x179, x180, x181, x182, x183, x184, x185, x186, x187, x188, x189, x190, x191, x192, x193, x194, x195, x196, x197, x198, x199, x200, x201, x202, x203, x204, x205, x206, x207, x208, x209, x210, x211, x212, x213, x214, x215, x216, x217, x218, x219, x220, x221, x222, x223, x224, x225, x226, x227, x228, x229, x230, x231, x232, x233, x234, x235, x236, x237, x238, x239, x240, x241, x242, x243, x244, x245, x246, x247, x248, x249, x250, x251, x252, x253, x254, x255, x256, x257, x258, x259, x260, x261, x262, x263, x264, x265, x266, x267, x268, x269, x270, x271, x272, x273, x274, x275, x276, x277, x278, x279, x280, x281, x282, x283, x284, x285, x286, x287, x288, x289, x290, x291, x292, x293, x294, x295, x296, x297, x298, x299, x300, x301, x302, x303, x304, x305, x306, x307, x308, x309, x310, x311, x312, x313, x314, x315, x316, x317, x318, x319, x320, x321, x322, x323, x324, x325, x326, x327, x328, x329, x330, x331, x332, x333, x334, x335, x336, x337, x338, x339, x340, x341, x342, x343, x344, x345, x346, x347, x348, x349, y350, y351, y352, y353, y354, y355, y356, y357, y358, y359, y360, y361, x362, x363, x364, x365, x366, x367, x368, x369, x370, x371, x372, x373, x374, x375, x376], defers := ds } WZ) :
    (Code.region 72 #[{ dst := some 350, op := Op.fieldAddr 31 (Operand.tmp 26) 0, type := 0, pos := "l07_linear.go:142", after := #[], guard := none }, { dst := some 351, op := Op.load 29 (Operand.tmp 350), type := 29, pos := "l07_linear.go:142", after := #[{ on := 0, ground := Ground.data }], guard := none }, { dst := some 352, op := Op.move (Operand.tmp 22), type := 29, pos := "l07_linear.go:142", after := #[], guard := none }, { dst := some 353, op := Op.move (Operand.tmp 6), type := 60, pos := "l07_linear.go:142", after := #[], guard := none }, { dst := some 354, op := Op.move (Operand.tmp 27), type := 2, pos := "l07_linear.go:142", after := #[], guard := none }, { dst := some 355, op := Op.indexAddr 60 (Operand.tmp 353) (Operand.tmp 354), type := 0, pos := "l07_linear.go:142", after := #[{ on := 3, ground := Ground.data }, { on := 4, ground := Ground.data }], guard := none }, { dst := some 356, op := Op.load 3 (Operand.tmp 355), type := 3, pos := "l07_linear.go:142", after := #[{ on := 5, ground := Ground.data }], guard := none }, { dst := some 357, op := Op.indexAddr 29 (Operand.tmp 352) (Operand.tmp 356), type := 0, pos := "l07_linear.go:142", after := #[{ on := 2, ground := Ground.data }, { on := 6, ground := Ground.data }], guard := none }, { dst := some 358, op := Op.load 35 (Operand.tmp 357), type := 35, pos := "l07_linear.go:142", after := #[{ on := 7, ground := Ground.data }], guard := none }, { dst := some 359, op := Op.buildSlice 29 1 #[(0, Operand.tmp 358)], type := 29, pos := "l07_linear.go:142", after := #[{ on := 8, ground := Ground.data }], guard := none }, { dst := some 360, op := Op.call { callee := Callee.builtin Builtin.append, args := #[Operand.tmp 351, Operand.tmp 359], argTypes := #[29, 29] }, type := 29, pos := "l07_linear.go:142", after := #[{ on := 1, ground := Ground.data }, { on := 9, ground := Ground.data }], guard := none }, { dst := some 361, op := Op.fieldAddr 31 (Operand.tmp 26) 0, type := 0, pos := "l07_linear.go:142", after := #[{ on := 0, ground := Ground.phase }, { on := 1, ground := Ground.phase }, { on := 2, ground := Ground.phase }, { on := 3, ground := Ground.phase }, { on := 4, ground := Ground.phase }, { on := 5, ground := Ground.phase }, { on := 6, ground := Ground.phase }, { on := 7, ground := Ground.phase }, { on := 8, ground := Ground.phase }, { on := 9, ground := Ground.phase }, { on := 10, ground := Ground.phase }], guard := none }, { dst := none, op := Op.store 29 (Operand.tmp 361) (Operand.tmp 360), type := 0, pos := "l07_linear.go:142", after := #[{ on := 11, ground := Ground.data }, { on := 10, ground := Ground.data }, { on := 10, ground := Ground.chain }, { on := 0, ground := Ground.phase }, { on := 1, ground := Ground.phase }, { on := 2, ground := Ground.phase }, { on := 3, ground := Ground.phase }, { on := 4, ground := Ground.phase }, { on := 5, ground := Ground.phase }, { on := 6, ground := Ground.phase }, { on := 7, ground := Ground.phase }, { on := 8, ground := Ground.phase }, { on := 9, ground := Ground.phase }, { on := 10, ground := Ground.phase }], guard := none }] true).wp Tryz.prog Q { tmps := #[x0, x1, x2, x3, x4, x5, (.slice (some ⟨gn, 0, none⟩) N N), x7, x8, x9, x10, x11, x12, x13, x14, x15, x16, x17, x18, x19, x20, x21, (.slice (some ⟨gh, 0, none⟩) m m), x23, x24, x25, (.pointer (some ⟨go, 0, none⟩)), (.int .i64 k), x28, x29, x30, x31, x32, x33, x34, x35, x36, x37, x38, x39, x40, x41, x42, x43, x44, x45, x46, x47, x48, x49, x50, x51, x52, x53, x54, x55, x56, x57, x58, x59, x60, x61, x62, x63, x64, x65, x66, x67, x68, x69, x70, x71, x72, x73, x74, x75, x76, x77, x78, x79, x80, x81, x82, x83, x84, x85, x86, x87, x88, x89, x90, x91, x92, x93, x94, x95, x96, x97, x98, x99, x100, x101, x102, x103, x104, x105, x106, x107, x108, x109, x110, x111, x112, x113, x114, x115, x116, x117, x118, x119, x120, x121, x122, x123, x124, x125, x126, x127, x128, x129, x130, x131, x132, x133, x134, x135, x136, x137, x138, x139, x140, x141, x142, x143, x144, x145, x146, x147, x148, x149, x150, x151, x152, x153, x154, x155, x156, x157, x158, x159, x160, x161, x162, x163, x164, x165, x166, x167, x168, x169, x170, x171, x172, x173, x174, x175, x176, x177, x178, x179, x180, x181, x182, x183, x184, x185, x186, x187, x188, x189, x190, x191, x192, x193, x194, x195, x196, x197, x198, x199, x200, x201, x202, x203, x204, x205, x206, x207, x208, x209, x210, x211, x212, x213, x214, x215, x216, x217, x218, x219, x220, x221, x222, x223, x224, x225, x226, x227, x228, x229, x230, x231, x232, x233, x234, x235, x236, x237, x238, x239, x240, x241, x242, x243, x244, x245, x246, x247, x248, x249, x250, x251, x252, x253, x254, x255, x256, x257, x258, x259, x260, x261, x262, x263, x264, x265, x266, x267, x268, x269, x270, x271, x272, x273, x274, x275, x276, x277, x278, x279, x280, x281, x282, x283, x284, x285, x286, x287, x288, x289, x290, x291, x292, x293, x294, x295, x296, x297, x298, x299, x300, x301, x302, x303, x304, x305, x306, x307, x308, x309, x310, x311, x312, x313, x314, x315, x316, x317, x318, x319, x320, x321, x322, x323, x324, x325, x326, x327, x328, x329, x330, x331, x332, x333, x334, x335, x336, x337, x338, x339, x340, x341, x342, x343, x344, x345, x346, x347, x348, x349, x350, x351, x352, x353, x354, x355, x356, x357, x358, x359, x360, x361, x362, x363, x364, x365, x366, x367, x368, x369, x370, x371, x372, x373, x374, x375, x376], defers := ds } W0 := by
  have hkz : (k : Int) < (N : Int) := by omega
  have hrz : (r : Int) < (m : Int) := by omega
  obtain ⟨i0, hi0, hi1, hi2, hi3⟩ := info_parts ninfo_fr
  refine region_L (fun V => Os2 n la lk fa fk wa wk go (.slice va k vk) gn N gh m no h w V) 12 (by kernel_rfl) ((HO.out.below (Below.refl _ _).drew).os HAT.out) (fun hHeld => ?_)
  obtain ⟨Z, hZ⟩ : ∃ Z, Z = W0.drew := ⟨_, rfl⟩
  replace HO := Lib.hid (HO.out.below (Below.refl _ _).drew)
  rw [← hZ] at hHeld HO ⊢
  clear hZ
  refine takeL_do (i := 0) (v := (.pointer (some ⟨go, 0, none⟩))) rfl (by kernel_rfl) (by kernel_rfl) (by kernel_rfl) (by kernel_rfl) (fun _ _ _ h => hP _ _ _ _ _ h) (by rfl) ?_ (by assumption) ?_
  · intro w hSw
    skip
    go_simp
  simp only [Act.put, List.setIfInBounds_toArray, List.set_cons_zero, List.set_cons_succ]
  refine takeL_do (i := 1) (v := (.slice va k vk)) rfl (by kernel_rfl) (by kernel_rfl) (by kernel_rfl) (by kernel_rfl) (fun _ _ _ h => hP _ _ _ _ _ h) (by rfl) ?_ (by assumption) ?_
  · intro w hSw
    obtain ⟨⟨x0, x1, x2⟩, _⟩ := rowN3 hSw.ro
    go_simp
  simp only [Act.put, List.setIfInBounds_toArray, List.set_cons_zero, List.set_cons_succ]
  refine takeL_do (i := 2) (v := (.slice (some ⟨gh, 0, none⟩) m m)) rfl (by kernel_rfl) (by kernel_rfl) (by kernel_rfl) (by kernel_rfl) (fun _ _ _ h => hP _ _ _ _ _ h) (by rfl) ?_ (by assumption) ?_
  · intro w hSw
    skip
    go_simp
  simp only [Act.put, List.setIfInBounds_toArray, List.set_cons_zero, List.set_cons_succ]
  refine takeL_do (i := 3) (v := (.slice (some ⟨gn, 0, none⟩) N N)) rfl (by kernel_rfl) (by kernel_rfl) (by kernel_rfl) (by kernel_rfl) (fun _ _ _ h => hP _ _ _ _ _ h) (by rfl) ?_ (by assumption) ?_
  · intro w hSw
    skip
    go_simp
  simp only [Act.put, List.setIfInBounds_toArray, List.set_cons_zero, List.set_cons_succ]
  refine takeL_do (i := 4) (v := (.int .i64 k)) rfl (by kernel_rfl) (by kernel_rfl) (by kernel_rfl) (by kernel_rfl) (fun _ _ _ h => hP _ _ _ _ _ h) (by rfl) ?_ (by assumption) ?_
  · intro w hSw
    skip
    go_simp
  simp only [Act.put, List.setIfInBounds_toArray, List.set_cons_zero, List.set_cons_succ]
  refine takeL_do (i := 5) (v := (.pointer (some ⟨gn, k, none⟩))) rfl (by kernel_rfl) (by kernel_rfl) (by kernel_rfl) (by kernel_rfl) (fun _ _ _ h => hP _ _ _ _ _ h) (by rfl) ?_ (by assumption) ?_
  · intro w hSw
    skip
    go_simp
  simp only [Act.put, List.setIfInBounds_toArray, List.set_cons_zero, List.set_cons_succ]
  refine takeL_do (i := 6) (v := (.int .i64 r)) rfl (by kernel_rfl) (by kernel_rfl) (by kernel_rfl) (by kernel_rfl) (fun _ _ _ h => hP _ _ _ _ _ h) (by rfl) ?_ (by assumption) ?_
  · intro w hSw
    have l0 := hSw.nu.cell (i := k) hk
    rw [HNO.out] at l0
    go_simp
  simp only [Act.put, List.setIfInBounds_toArray, List.set_cons_zero, List.set_cons_succ]
  refine takeL_do (i := 7) (v := (.pointer (some ⟨gh, r * 2, none⟩))) rfl (by kernel_rfl) (by kernel_rfl) (by kernel_rfl) (by kernel_rfl) (fun _ _ _ h => hP _ _ _ _ _ h) (by rfl) ?_ (by assumption) ?_
  · intro w hSw
    skip
    go_simp
  simp only [Act.put, List.setIfInBounds_toArray, List.set_cons_zero, List.set_cons_succ]
  refine takeL_do (i := 8) (v := (frV (h r))) rfl (by kernel_rfl) (by kernel_rfl) (by kernel_rfl) (by kernel_rfl) (fun _ _ _ h => hP _ _ _ _ _ h) (by rfl) ?_ (by assumption) ?_
  · intro w hSw
    obtain ⟨l0, l1⟩ := hSw.head hr
    go_simp
  simp only [Act.put, List.setIfInBounds_toArray, List.set_cons_zero, List.set_cons_succ]
  refine takeL_call (i := 9) rfl (by kernel_rfl) (fun K2 hK => ?_)
  obtain ⟨Z1, hZ1⟩ : ∃ ZZ, ZZ = Z.alloc (.cells #[.int .i64 (h r).1, .int .i64 (h r).2] 35) := ⟨_, rfl⟩
  have hb : Below Z.heap.size Z Z1 := by rw [hZ1]; exact nbel_alloc _ _
  obtain ⟨gs, hgs⟩ : ∃ gs, gs = Z.heap.size := ⟨_, rfl⟩
  have HL : Hid (∀ j u, [Value.int .i64 (h r).1, .int .i64 (h r).2][j]? = some u → Z1.cell? ((⟨gs, 0, none⟩ : Addr).add j) = some u) := by
    rw [hZ1, hgs]; exact ncells2 _ _ _ _
  replace HO := Lib.hid (HO.out.below hb)
  go_simp
  rw [← hZ1, ← hgs]
  refine hK.out _ _ (HO.out.os HAT.out) (fun hHeld2 => ?_)
  clear hK hHeld
  have hHeld := hHeld2
  clear hHeld2
  clear hb hZ1 hgs
  refine takeL_call (i := 10) rfl (by kernel_rfl) (fun K2 hK => ?_)
  refine mdap rfl (.tmp 351) (.tmp 359) 29 rfl (go + 1) 35 i0 (.agg #[.int .i64 0, .int .i64 0]) 2 16 Tryz.underlying29 hi0 hi1 hi2 hi3 rfl (by decide) _ k _ rfl HO.out.s.own ⟨gs, 0, none⟩ 1 1 [.int .i64 (h r).1, .int .i64 (h r).2] rfl rfl HL.out ?_ (by unfold maxLen; omega) (by omega) (by have := HO.out.s.ro.lt; omega) ?_
  · intro u hu; simp at hu; rcases hu with rfl | rfl <;> rfl
  intro v' Z2 hown hgrow
  obtain ⟨a8, c8, rfl⟩ := lpown_shape hown
  have HO2 := Lib.hid (HO.out.grow HHF.out hown hgrow)
  have l0 : go < Z2.heap.size := by have := hgrow.size; have := HO.out.s.ro.lt; omega
  have hro : Z2.rowIs go 31 3 (rowN [(.slice va k vk), .int .i64 0, .int .i64 0]) := HO.out.s.ro.of_block (hgrow.block _ HO.out.s.ro.lt (fun e => by have := (HO.out.s.own.lt go e.symm).1; omega))
  have o0 := hro.cell (i := 0) (by omega)
  have z0 := hro.frozen 0
  have HS3 := Lib.hid (HO.out.os2 HAT.out hgrow)
  refine hK.out _ _ HS3.out (fun hHeld2 => ?_)
  clear hK hHeld HL hro HS3 hown hgrow HO
  have hHeld := hHeld2
  clear hHeld2
  simp only [Act.put, List.setIfInBounds_toArray, List.set_cons_zero, List.set_cons_succ]
  refine takeL_do (i := 11) (v := (.pointer (some ⟨go, 0, none⟩))) rfl (by kernel_rfl) (by kernel_rfl) (by kernel_rfl) (by kernel_rfl) (fun _ _ _ h => hP _ _ _ _ _ h) (by rfl) ?_ (by assumption) ?_
  · intro w hSw
    skip
    go_simp
  simp only [Act.put, List.setIfInBounds_toArray, List.set_cons_zero, List.set_cons_succ]
  obtain ⟨Z3, hZ3⟩ : ∃ WZ, WZ = Z2.setCell ⟨go, 0, none⟩ (.slice a8 (k + 1) c8) := ⟨_, rfl⟩
  rw [← hZ3] at HO2
  have HWZ := Lib.hid hZ3
  clear hZ3
  refine takeL_last rfl (by kernel_rfl) (by kernel_rfl) (fun K2 hK => ?_)
  go_simp
  rw [← HWZ.out]
  refine hK.out _ _ ?_
  clear hK hHeld HWZ o0 z0 l0
  exact hQ _ _ _ _ _ _ _ _ _ _ _ _ _ a8 c8 HO2
end Go.Proofs.YtkaokfmaecdkiaaGreatDoor
namespace Go.Proofs.YtkaokfmaecdkiaaGreatDoor
open Go Go.RowKit Go.Deep

set_option maxRecDepth 100000 in
set_option maxHeartbeats 32000000 in
theorem sreg73 {w : World} (n : Nt.Net) (la : Option Addr) (lk : Nat) (fa : Option Addr) (fk : Nat) (wa : Option Addr) (wk gc go k : Nat) (f : Nat → Int × Int) (va : Option Addr) (vk gn N gh m : Nat) (no : Nat → Int) (h : Nat → Int × Int) (x0 x2 x3 x4 x5 x6 x7 x8 x9 x10 x11 x12 x13 x14 x15 x16 x17 x18 x19 x20 x21 x22 x23 x24 x25 x28 x29 x30 x31 x32 x33 x34 x35 x36 x37 x38 x39 x40 x41 x42 x43 x44 x45 x46 x47 x48 x49 x50 x51 x52 x53 x54 x55 x56 x57 x58 x59 x60 x61 x62 x63 x64 x65 x66 x67 x68 x69 x70 x71 x72 x73 x74 x75 x76 x77 x78 x79 x80 x81 x82 x83 x84 x85 x86 x87 x88 x89 x90 x91 x92 x93 x94 x95 x96 x97 x98 x99 x100 x101 x102 x103 x104 x105 x106 x107 x108 x109 x110 x111 x112 x113 x114 x115 x116 x117 x118 x119 x120 x121 x122 x123 x124 x125 x126 x127 x128 x129 x130 x131 x132 x133 x134 x135 x136 x137 x138 x139 x140 x141 x142 x143 x144 x145 x146 x147 x148 x149 x150 x151 x152 x153 x154 x155 x156 x157 x158 x159 x160 x161 x162 x163 x164 x165 x166 x167 x168 x169 x170 x171 x172 x173 x174 x175 x176 x177 x178 x179 x180 x181 x182 x183 x184 x185 x186 x187 x188 x189 x190 x191 x192 x193 x194 x195 x196 x197 x198 x199 x200 x201 x202 x203 x204 x205 x206 x207 x208 x209 x210 x211 x212 x213 x214 x215 x216 x217 x218 x219 x220 x221 x222 x223 x224 x225 x226 x227 x228 x229 x230 x231 x232 x233 x234 x235 x236 x237 x238 x239 x240 x241 x242 x243 x244 x245 x246 x247 x248 x249 x250 x251 x252 x253 x254 x255 x256 x257 x258 x259 x260 x261 x262 x263 x264 x265 x266 x267 x268 x269 x270 x271 x272 x273 x274 x275 x276 x277 x278 x279 x280 x281 x282 x283 x284 x285 x286 x287 x288 x289 x290 x291 x292 x293 x294 x295 x296 x297 x298 x299 x300 x301 x302 x303 x304 x305 x306 x307 x308 x309 x310 x311 x312 x313 x314 x315 x316 x317 x318 x319 x320 x321 x322 x323 x324 x325 x326 x327 x328 x329 x330 x331 x332 x333 x334 x335 x336 x337 x338 x339 x340 x341 x342 x343 x344 x345 x346 x347 x348 x349 x350 x351 x352 x353 x354 x355 x356 x357 x358 x359 x360 x361 x362 x363 x364 x365 x366 x367 x368 x369 x370 x371 x372 x373 x374 x375 x376 : Value) (ds : _) (Q : Exit → Act → World → Prop) (W0 : World)
    (HO : Hid (Ou n la lk fa fk wa wk gc go k f (.slice va k vk) gn N gh m no h w W0)) (HAT : Hid (NtAt n la fa wa w)) (hk : k < N) (hN : N ≤ 100) (HRT : Hid (Nt.Right n)) (hfix : Nt.fixed n k = true) (hhf : Nt.kh n n.fn k = f k) (hP : ∀ c (a : Act) o v w, Q (.panic c) (a.put o v) w → Q (.panic c) a w)
    (hQ : ∀ (y362 y363 y364 y365 y366 y367 y368 y369 y370 y371 y372 y373 y374 y375 : Value) (WZ : World) (a8 : Option Addr) (c8 : Nat), Hid (Ou n la lk fa fk wa wk gc go (k + 1) f (.slice a8 (k + 1) c8) gn N gh m no h w WZ) → Q .normal { tmps := #[x0, (.pointer (some ⟨w.heap.size, 0, none⟩)), x2, x3, x4, x5, x6, x7, x8, x9, x10, x11, x12, x13, x14, x15, x16, x17, x18, x19, x20, x21, x22, x23, x24, x25, (.pointer (some ⟨go, 0, none⟩)), (.int .i64 k), x28, x29, x30, x31, x32, x33, x34, x35, x36, x37, x38, x39, x40, x41, x42, x43, x44, x45, x46, x47, x48, x49, x50, x51, x52, x53, x54, x55, x56, x57, x58, x59, x60, x61, x62, x63, x64, x65, x66, x67, x68, x69, x70, x71, x72, x73, x74, x75, x76, x77, x78, x79, x80, x81, x82, x83, x84, x85, x86, x87, x88, x89, x90, x91, x92, x93, x94, x95, x96, x97, x98, x99, x100, x101, x102, x103, x104, x105, x106, x107, x108, x109, x110, x111, x112, x113, x114, x115, x116, x117, x118, x119, x120, x121, x122, x123, x124, x125, x126, x127, x128, x129, x130, x131, x132, x133, x134, x135, x136, x137, x138, x139, x140, x141, x142, x143, x144, x145, x146, x147, x148, x149, x150, x151, x152, x153, x154, x155, x156, x157, x158, x159, x160, x161, x162, x163, x164, x165, x166, x167, x168, x169, x170, x171, x172, x173, x174, x175, x176, x177, x178, x179, x180, x181, x182, x183, x184, x185, x186, x187, x188, x189, x190, x191, x192, x193, x194, x195, x196, x197, x198, x199, x200, x201, x202, x203, x204, x205, x206, x207, x208, x209, x210, x211, x212, x213, x214, x215, x216, x217, x218, x219, x220, x221, x222, x223, x224, x225, x226, x227, x228, x229, x230, x231, x232, x233, x234, x235, x236, x237, x238, x239, x240, x241, x242, x243, x244, x245, x246, x247, x248, x249, x250, x251, x252, x253, x254, x255, x256, x257, x258, x259, x260, x261, x262, x263, x264, x265, x266, x267, x268, x269, x270, x271, x272, x273, x274, x275, x276, x277, x278, x279, x280, x281, x282, x283, x284, x285, x286, x287, x288, x289, x290, x291, x292, x293, x294, x295, x296, x297, x298, x299, x300, x301, x302, x303, x304, x305, x306, x307, x308, x309, x310, x311, x312, x313, x314, x315, x316, x317, x318, x319, x320, x321, x322, x323, x324, x325, x326, x327, x328, x329, x330, x331, x332, x333, x334, x335, x336, x337, x338, x339, x340, x341, x342, x343, x344, x345, x346, x347, x348, x349, x350, x351, x352, x353, x354, x355, x356, x357, x358, x359, x360, x361, y362, y363, y364, y365, y366, y367, y368, y369, y370, y371, y372, y373, y374, y375, x376], defers := ds } WZ) :
    (Code.region 73 #[{ dst := some 362, op := Op.fieldAddr 31 (Operand.tmp 26) 0, type := 0, pos := "l07_linear.go:144", after := #[], guard := none }, { dst := some 363, op := Op.load 29 (Operand.tmp 362), type := 29, pos := "l07_linear.go:144", after := #[{ on := 0, ground := Ground.data }], guard := none }, { dst := some 364, op := Op.fieldAddr 27 (Operand.tmp 1) 2, type := 0, pos := "l07_linear.go:144", after := #[], guard := none }, { dst := some 365, op := Op.load 24 (Operand.tmp 364), type := 24, pos := "l07_linear.go:144", after := #[{ on := 2, ground := Ground.data }], guard := none }, { dst := some 366, op := Op.load 27 (Operand.tmp 1), type := 27, pos := "l07_linear.go:144", after := #[], guard := none }, { dst := some 367, op := Op.move (Operand.tmp 27), type := 2, pos := "l07_linear.go:144", after := #[], guard := none }, { dst := some 368, op := Op.call { callee := Callee.value (Operand.func 23), args := #[Operand.tmp 366, Operand.tmp 367], argTypes := #[27, 2] }, type := 3, pos := "l07_linear.go:144", after := #[{ on := 4, ground := Ground.data }, { on := 5, ground := Ground.data }], guard := none }, { dst := some 369, op := Op.indexAddr 24 (Operand.tmp 365) (Operand.tmp 368), type := 0, pos := "l07_linear.go:144", after := #[{ on := 3, ground := Ground.data }, { on := 6, ground := Ground.data }], guard := none }, { dst := some 370, op := Op.fieldAddr 39 (Operand.tmp 369) 1, type := 0, pos := "l07_linear.go:144", after := #[{ on := 7, ground := Ground.data }], guard := none }, { dst := some 371, op := Op.load 2 (Operand.tmp 370), type := 2, pos := "l07_linear.go:144", after := #[{ on := 8, ground := Ground.data }], guard := none }, { dst := some 372, op := Op.build 35 #[(0, Operand.tmp 371), (1, Operand.const (Value.int IntKind.i64 1))], type := 35, pos := "l07_linear.go:144", after := #[{ on := 9, ground := Ground.data }], guard := none }, { dst := some 373, op := Op.buildSlice 29 1 #[(0, Operand.tmp 372)], type := 29, pos := "l07_linear.go:144", after := #[{ on := 10, ground := Ground.data }], guard := none }, { dst := some 374, op := Op.call { callee := Callee.builtin Builtin.append, args := #[Operand.tmp 363, Operand.tmp 373], argTypes := #[29, 29] }, type := 29, pos := "l07_linear.go:144", after := #[{ on := 1, ground := Ground.data }, { on := 11, ground := Ground.data }, { on := 6, ground := Ground.chain }], guard := none }, { dst := some 375, op := Op.fieldAddr 31 (Operand.tmp 26) 0, type := 0, pos := "l07_linear.go:144", after := #[{ on := 0, ground := Ground.phase }, { on := 1, ground := Ground.phase }, { on := 2, ground := Ground.phase }, { on := 3, ground := Ground.phase }, { on := 4, ground := Ground.phase }, { on := 5, ground := Ground.phase }, { on := 6, ground := Ground.phase }, { on := 7, ground := Ground.phase }, { on := 8, ground := Ground.phase }, { on := 9, ground := Ground.phase }, { on := 10, ground := Ground.phase }, { on := 11, ground := Ground.phase }, { on := 12, ground := Ground.phase }], guard := none }, { dst := none, op := Op.store 29 (Operand.tmp 375) (Operand.tmp 374), type := 0, pos := "l07_linear.go:144", after := #[{ on := 13, ground := Ground.data }, { on := 12, ground := Ground.data }, { on := 12, ground := Ground.chain }, { on := 0, ground := Ground.phase }, { on := 1, ground := Ground.phase }, { on := 2, ground := Ground.phase }, { on := 3, ground := Ground.phase }, { on := 4, ground := Ground.phase }, { on := 5, ground := Ground.phase }, { on := 6, ground := Ground.phase }, { on := 7, ground := Ground.phase }, { on := 8, ground := Ground.phase }, { on := 9, ground := Ground.phase }, { on := 10, ground := Ground.phase }, { on := 11, ground := Ground.phase }, { on := 12, ground := Ground.phase }], guard := none }] true).wp Tryz.prog Q { tmps := #[x0, (.pointer (some ⟨w.heap.size, 0, none⟩)), x2, x3, x4, x5, x6, x7, x8, x9, x10, x11, x12, x13, x14, x15, x16, x17, x18, x19, x20, x21, x22, x23, x24, x25, (.pointer (some ⟨go, 0, none⟩)), (.int .i64 k), x28, x29, x30, x31, x32, x33, x34, x35, x36, x37, x38, x39, x40, x41, x42, x43, x44, x45, x46, x47, x48, x49, x50, x51, x52, x53, x54, x55, x56, x57, x58, x59, x60, x61, x62, x63, x64, x65, x66, x67, x68, x69, x70, x71, x72, x73, x74, x75, x76, x77, x78, x79, x80, x81, x82, x83, x84, x85, x86, x87, x88, x89, x90, x91, x92, x93, x94, x95, x96, x97, x98, x99, x100, x101, x102, x103, x104, x105, x106, x107, x108, x109, x110, x111, x112, x113, x114, x115, x116, x117, x118, x119, x120, x121, x122, x123, x124, x125, x126, x127, x128, x129, x130, x131, x132, x133, x134, x135, x136, x137, x138, x139, x140, x141, x142, x143, x144, x145, x146, x147, x148, x149, x150, x151, x152, x153, x154, x155, x156, x157, x158, x159, x160, x161, x162, x163, x164, x165, x166, x167, x168, x169, x170, x171, x172, x173, x174, x175, x176, x177, x178, x179, x180, x181, x182, x183, x184, x185, x186, x187, x188, x189, x190, x191, x192, x193, x194, x195, x196, x197, x198, x199, x200, x201, x202, x203, x204, x205, x206, x207, x208, x209, x210, x211, x212, x213, x214, x215, x216, x217, x218, x219, x220, x221, x222, x223, x224, x225, x226, x227, x228, x229, x230, x231, x232, x233, x234, x235, x236, x237, x238, x239, x240, x241, x242, x243, x244, x245, x246, x247, x248, x249, x250, x251, x252, x253, x254, x255, x256, x257, x258, x259, x260, x261, x262, x263, x264, x265, x266, x267, x268, x269, x270, x271, x272, x273, x274, x275, x276, x277, x278, x279, x280, x281, x282, x283, x284, x285, x286, x287, x288, x289, x290, x291, x292, x293, x294, x295, x296, x297, x298, x299, x300, x301, x302, x303, x304, x305, x306, x307, x308, x309, x310, x311, x312, x313, x314, x315, x316, x317, x318, x319, x320, x321, x322, x323, x324, x325, x326, x327, x328, x329, x330, x331, x332, x333, x334, x335, x336, x337, x338, x339, x340, x341, x342, x343, x344, x345, x346, x347, x348, x349, x350, x351, x352, x353, x354, x355, x356, x357, x358, x359, x360, x361, x362, x363, x364, x365, x366, x367, x368, x369, x370, x371, x372, x373, x374, x375, x376], defers := ds } W0 := by
  have hkz : (k : Int) < (N : Int) := by omega
  obtain ⟨i0, hi0, hi1, hi2, hi3⟩ := info_parts ninfo_fr
  refine region_L (fun V => Os2 n la lk fa fk wa wk go (.slice va k vk) gn N gh m no h w V) 14 (by kernel_rfl) ((HO.out.below (Below.refl _ _).drew).os HAT.out) (fun hHeld => ?_)
  obtain ⟨Z, hZ⟩ : ∃ Z, Z = W0.drew := ⟨_, rfl⟩
  replace HO := Lib.hid (HO.out.below (Below.refl _ _).drew)
  rw [← hZ] at hHeld HO ⊢
  clear hZ
  refine takeL_do (i := 0) (v := (.pointer (some ⟨go, 0, none⟩))) rfl (by kernel_rfl) (by kernel_rfl) (by kernel_rfl) (by kernel_rfl) (fun _ _ _ h => hP _ _ _ _ _ h) (by rfl) ?_ (by assumption) ?_
  · intro w hSw
    skip
    go_simp
  simp only [Act.put, List.setIfInBounds_toArray, List.set_cons_zero, List.set_cons_succ]
  refine takeL_do (i := 1) (v := (.slice va k vk)) rfl (by kernel_rfl) (by kernel_rfl) (by kernel_rfl) (by kernel_rfl) (fun _ _ _ h => hP _ _ _ _ _ h) (by rfl) ?_ (by assumption) ?_
  · intro w hSw
    obtain ⟨⟨x0, x1, x2⟩, _⟩ := rowN3 hSw.ro
    go_simp
  simp only [Act.put, List.setIfInBounds_toArray, List.set_cons_zero, List.set_cons_succ]
  refine takeL_do (i := 2) (v := (.pointer (some ⟨w.heap.size, 2, none⟩))) rfl (by kernel_rfl) (by kernel_rfl) (by kernel_rfl) (by kernel_rfl) (fun _ _ _ h => hP _ _ _ _ _ h) (by rfl) ?_ (by assumption) ?_
  · intro w hSw
    skip
    go_simp
  simp only [Act.put, List.setIfInBounds_toArray, List.set_cons_zero, List.set_cons_succ]
  refine takeL_do (i := 3) (v := (.slice fa n.fn fk)) rfl (by kernel_rfl) (by kernel_rfl) (by kernel_rfl) (by kernel_rfl) (fun _ _ _ h => hP _ _ _ _ _ h) (by rfl) ?_ (by assumption) ?_
  · intro w hSw
    obtain ⟨⟨x0, x1, x2, x3⟩, _⟩ := rowN4 hSw.row
    go_simp
  simp only [Act.put, List.setIfInBounds_toArray, List.set_cons_zero, List.set_cons_succ]
  refine takeL_do (i := 4) (v := (ntV n la lk fa fk wa wk)) rfl (by kernel_rfl) (by kernel_rfl) (by kernel_rfl) (by kernel_rfl) (fun _ _ _ h => hP _ _ _ _ _ h) (by rfl) ?_ (by assumption) ?_
  · intro w hSw
    obtain ⟨⟨x0, x1, x2, x3⟩, _⟩ := rowN4 hSw.row
    go_simp
  simp only [Act.put, List.setIfInBounds_toArray, List.set_cons_zero, List.set_cons_succ]
  refine takeL_do (i := 5) (v := (.int .i64 k)) rfl (by kernel_rfl) (by kernel_rfl) (by kernel_rfl) (by kernel_rfl) (fun _ _ _ h => hP _ _ _ _ _ h) (by rfl) ?_ (by assumption) ?_
  · intro w hSw
    skip
    go_simp
  simp only [Act.put, List.setIfInBounds_toArray, List.set_cons_zero, List.set_cons_succ]
  refine takeL_call (i := 6) rfl (by kernel_rfl) (fun K2 hK => ?_)
  go_simp
  refine (sfixed_any n la lk fa fk wa wk k _ (HAT.out.below HO.out.s.old) HRT.out).mono ?_
  rintro e Z4 ⟨⟨zf, rfl, hfx⟩, hb⟩
  replace HO := Lib.hid (HO.out.below hb)
  clear hb
  go_wp2_with fail
  refine hK.out _ _ (HO.out.os HAT.out) (fun hHeld2 => ?_)
  clear hK hHeld
  have hHeld := hHeld2
  clear hHeld2
  obtain ⟨j, hj, hjk, rfl⟩ : ∃ j, j < n.fn ∧ Nt.fx n j = k ∧ zf = (j : Int) := by
    rcases hfx with ⟨h1, _⟩ | h1
    · rw [hfix] at h1; cases h1
    · exact h1
  clear hfx
  have hjz : (j : Int) < (n.fn : Int) := by omega
  have HKP := Lib.hid (Nt.kh_place HRT.out hj hjk)
  clear hjk
  obtain ⟨fb, rfl⟩ : ∃ fb, fa = some ⟨fb, 0, none⟩ := by
    obtain ⟨b, e, _⟩ := HAT.out.f.at2 hj
    exact ⟨b, e⟩
  obtain ⟨X, hX⟩ : ∃ X : Int × Int, X = (n.F (j * 2 + 1), 1) := ⟨_, rfl⟩
  have HX1 : Hid (n.F (j * 2 + 1) = X.1) := by rw [hX]; exact rfl
  have HX2 : Hid ((1 : Int) = X.2) := by rw [hX]; exact rfl
  have HXF : Hid (X = f k) := by show _ = _; rw [hX, ← hhf]; exact HKP.out.symm
  clear hX
  refine takeL_do (i := 7) (v := (.pointer (some ⟨fb, j * 2, none⟩))) rfl (by kernel_rfl) (by kernel_rfl) (by kernel_rfl) (by kernel_rfl) (fun _ _ _ h => hP _ _ _ _ _ h) (by rfl) ?_ (by assumption) ?_
  · intro w hSw
    skip
    go_simp
  simp only [Act.put, List.setIfInBounds_toArray, List.set_cons_zero, List.set_cons_succ]
  refine takeL_do (i := 8) (v := (.pointer (some ⟨fb, j * 2 + 1, none⟩))) rfl (by kernel_rfl) (by kernel_rfl) (by kernel_rfl) (by kernel_rfl) (fun _ _ _ h => hP _ _ _ _ _ h) (by rfl) ?_ (by assumption) ?_
  · intro w hSw
    skip
    go_simp
  simp only [Act.put, List.setIfInBounds_toArray, List.set_cons_zero, List.set_cons_succ]
  refine takeL_do (i := 9) (v := (.int .i64 X.1)) rfl (by kernel_rfl) (by kernel_rfl) (by kernel_rfl) (by kernel_rfl) (fun _ _ _ h => hP _ _ _ _ _ h) (by rfl) ?_ (by assumption) ?_
  · intro w hSw
    obtain ⟨b9, e9, _, l0⟩ := hSw.at_.f.at2 hj
    cases e9
    rw [HX1.out] at l0
    go_simp
  simp only [Act.put, List.setIfInBounds_toArray, List.set_cons_zero, List.set_cons_succ]
  refine takeL_do (i := 10) (v := (frV X)) rfl (by kernel_rfl) (by kernel_rfl) (by kernel_rfl) (by kernel_rfl) (fun _ _ _ h => hP _ _ _ _ _ h) (by rfl) ?_ (by assumption) ?_
  · intro w hSw
    rw [show frV X = .agg #[.int .i64 X.1, .int .i64 1] by rw [HX2.out]]
    go_simp
  simp only [Act.put, List.setIfInBounds_toArray, List.set_cons_zero, List.set_cons_succ]
  refine takeL_call (i := 11) rfl (by kernel_rfl) (fun K2 hK => ?_)
  obtain ⟨Z5, hZ5⟩ : ∃ ZZ, ZZ = Z4.alloc (.cells #[.int .i64 X.1, .int .i64 X.2] 35) := ⟨_, rfl⟩
  have hb : Below Z4.heap.size Z4 Z5 := by rw [hZ5]; exact nbel_alloc _ _
  obtain ⟨gs, hgs⟩ : ∃ gs, gs = Z4.heap.size := ⟨_, rfl⟩
  have HL : Hid (∀ j u, [Value.int .i64 X.1, .int .i64 X.2][j]? = some u → Z5.cell? ((⟨gs, 0, none⟩ : Addr).add j) = some u) := by
    rw [hZ5, hgs]; exact ncells2 _ _ _ _
  replace HO := Lib.hid (HO.out.below hb)
  go_simp
  rw [← hZ5, ← hgs]
  refine hK.out _ _ (HO.out.os HAT.out) (fun hHeld2 => ?_)
  clear hK hHeld
  have hHeld := hHeld2
  clear hHeld2
  clear hb hZ5 hgs
  refine takeL_call (i := 12) rfl (by kernel_rfl) (fun K2 hK => ?_)
  refine mdap rfl (.tmp 363) (.tmp 373) 29 rfl (go + 1) 35 i0 (.agg #[.int .i64 0, .int .i64 0]) 2 16 Tryz.underlying29 hi0 hi1 hi2 hi3 rfl (by decide) _ k _ rfl HO.out.s.own ⟨gs, 0, none⟩ 1 1 [.int .i64 X.1, .int .i64 X.2] rfl rfl HL.out ?_ (by unfold maxLen; omega) (by omega) (by have := HO.out.s.ro.lt; omega) ?_
  · intro u hu; simp at hu; rcases hu with rfl | rfl <;> rfl
  intro v' Z6 hown hgrow
  obtain ⟨a8, c8, rfl⟩ := lpown_shape hown
  have HO2 := Lib.hid (HO.out.grow HXF.out hown hgrow)
  have l0 : go < Z6.heap.size := by have := hgrow.size; have := HO.out.s.ro.lt; omega
  have hro : Z6.rowIs go 31 3 (rowN [(.slice va k vk), .int .i64 0, .int .i64 0]) := HO.out.s.ro.of_block (hgrow.block _ HO.out.s.ro.lt (fun e => by have := (HO.out.s.own.lt go e.symm).1; omega))
  have o0 := hro.cell (i := 0) (by omega)
  have z0 := hro.frozen 0
  have HS3 := Lib.hid (HO.out.os2 HAT.out hgrow)
  refine hK.out _ _ HS3.out (fun hHeld2 => ?_)
  clear hK hHeld HL hro HS3 hown hgrow HO
  have hHeld := hHeld2
  clear hHeld2
  simp only [Act.put, List.setIfInBounds_toArray, List.set_cons_zero, List.set_cons_succ]
  refine takeL_do (i := 13) (v := (.pointer (some ⟨go, 0, none⟩))) rfl (by kernel_rfl) (by kernel_rfl) (by kernel_rfl) (by kernel_rfl) (fun _ _ _ h => hP _ _ _ _ _ h) (by rfl) ?_ (by assumption) ?_
  · intro w hSw
    skip
    go_simp
  simp only [Act.put, List.setIfInBounds_toArray, List.set_cons_zero, List.set_cons_succ]
  obtain ⟨Z7, hZ7⟩ : ∃ WZ, WZ = Z6.setCell ⟨go, 0, none⟩ (.slice a8 (k + 1) c8) := ⟨_, rfl⟩
  rw [← hZ7] at HO2
  have HWZ := Lib.hid hZ7
  clear hZ7
  refine takeL_last rfl (by kernel_rfl) (by kernel_rfl) (fun K2 hK => ?_)
  go_simp
  rw [← HWZ.out]
  refine hK.out _ _ ?_
  clear hK hHeld HWZ o0 z0 l0
  exact hQ _ _ _ _ _ _ _ _ _ _ _ _ _ _ _ a8 c8 HO2
end Go.Proofs.YtkaokfmaecdkiaaGreatDoor
namespace Go.Proofs.YtkaokfmaecdkiaaGreatDoor
open Go Go.RowKit Go.Deep

set_option maxRecDepth 100000 in
set_option maxHeartbeats 32000000 in
theorem sloop10 {w : World} (n : Nt.Net) (la : Option Addr) (lk : Nat) (fa : Option Addr) (fk : Nat) (wa : Option Addr) (wk gc go : Nat) (f : Nat → Int × Int) (gn N gh m : Nat) (no : Nat → Int) (h : Nat → Int × Int) (x0 x2 x3 x4 x5 x7 x8 x9 x10 x11 x12 x13 x14 x15 x16 x17 x18 x19 x20 x21 x23 x24 x25 x28 x29 x30 x31 x32 x33 x34 x35 x36 x37 x38 x39 x40 x41 x42 x43 x44 x45 x46 x47 x48 x49 x50 x51 x52 x53 x54 x55 x56 x57 x58 x59 x60 x61 x62 x63 x64 x65 x66 x67 x68 x69 x70 x71 x72 x73 x74 x75 x76 x77 x78 x79 x80 x81 x82 x83 x84 x85 x86 x87 x88 x89 x90 x91 x92 x93 x94 x95 x96 x97 x98 x99 x100 x101 x102 x103 x104 x105 x106 x107 x108 x109 x110 x111 x112 x113 x114 x115 x116 x117 x118 x119 x120 x121 x122 x123 x124 x125 x126 x127 x128 x129 x130 x131 x132 x133 x134 x135 x136 x137 x138 x139 x140 x141 x142 x143 x144 x145 x146 x147 x148 x149 x150 x151 x152 x153 x154 x155 x156 x157 x158 x159 x160 x161 x162 x163 x164 x165 x166 x167 x168 x169 x170 x171 x172 x173 x174 x175 x176 x177 x178 x179 x180 x181 x182 x183 x184 x185 x186 x187 x188 x189 x190 x191 x192 x193 x194 x195 x196 x197 x198 x199 x200 x201 x202 x203 x204 x205 x206 x207 x208 x209 x210 x211 x212 x213 x214 x215 x216 x217 x218 x219 x220 x221 x222 x223 x224 x225 x226 x227 x228 x229 x230 x231 x232 x233 x234 x235 x236 x237 x238 x239 x240 x241 x242 x243 x244 x245 x246 x247 x248 x249 x250 x251 x252 x253 x254 x255 x256 x257 x258 x259 x260 x261 x262 x263 x264 x265 x266 x267 x268 x269 x270 x271 x272 x273 x274 x275 x276 x277 x278 x279 x280 x281 x282 x283 x284 x285 x286 x287 x288 x289 x290 x291 x292 x293 x294 x295 x296 x297 x298 x299 x300 x301 x302 x303 x304 x305 x306 x307 x308 x309 x310 x311 x312 x313 x314 x315 x316 x317 x318 x319 x320 x321 x322 x323 x324 x325 x326 x327 x328 x329 x330 x331 x332 x333 x334 x335 x336 x337 x338 x339 x340 x341 x342 x343 x344 x345 x346 x347 x348 x349 x350 x351 x352 x353 x354 x355 x356 x357 x358 x359 x360 x361 x362 x363 x364 x365 x366 x367 x368 x369 x370 x371 x372 x373 x374 x375 x376 : Value) (ds : _) (Q : Exit → Act → World → Prop) (W0 : World)
    (HO : Hid (Ou n la lk fa fk wa wk gc go 0 f (.slice none 0 0) gn N gh m no h w W0)) (HAT : Hid (NtAt n la fa wa w)) (HRT : Hid (Nt.Right n)) (HNN : Hid (n.nodes = (N : Int))) (hN : N ≤ 100)
    (HNO : Hid (∀ k, k < N → (Nt.fixed n k = true ∧ no k = -1 ∧ Nt.kh n n.fn k = f k) ∨ ∃ r : Nat, r < m ∧ no k = (r : Int) ∧ h r = f k))
    (hP : ∀ c (a : Act) o v w, Q (.panic c) (a.put o v) w → Q (.panic c) a w)
    (hQ : ∀ (y27 y339 y340 y341 y342 y343 y344 y345 y346 y347 y348 y349 y350 y351 y352 y353 y354 y355 y356 y357 y358 y359 y360 y361 y362 y363 y364 y365 y366 y367 y368 y369 y370 y371 y372 y373 y374 y375 : Value) (WZ : World) (va : Option Addr) (vk : Nat), Hid (Ou n la lk fa fk wa wk gc go N f (.slice va N vk) gn N gh m no h w WZ) → Q (.exit 18) { tmps := #[x0, (.pointer (some ⟨w.heap.size, 0, none⟩)), x2, x3, x4, x5, (.slice (some ⟨gn, 0, none⟩) N N), x7, x8, x9, x10, x11, x12, x13, x14, x15, x16, x17, x18, x19, x20, x21, (.slice (some ⟨gh, 0, none⟩) m m), x23, x24, x25, (.pointer (some ⟨go, 0, none⟩)), y27, x28, x29, x30, x31, x32, x33, x34, x35, x36, x37, x38, x39, x40, x41, x42, x43, x44, x45, x46, x47, x48, x49, x50, x51, x52, x53, x54, x55, x56, x57, x58, x59, x60, x61, x62, x63, x64, x65, x66, x67, x68, x69, x70, x71, x72, x73, x74, x75, x76, x77, x78, x79, x80, x81, x82, x83, x84, x85, x86, x87, x88, x89, x90, x91, x92, x93, x94, x95, x96, x97, x98, x99, x100, x101, x102, x103, x104, x105, x106, x107, x108, x109, x110, x111, x112, x113, x114, x115, x116, x117, x118, x119, x120, x121, x122, x123, x124, x125, x126, x127, x128, x129, x130, x131, x132, x133, x134, x135, x136, x137, x138, x139, x140, x141, x142, x143, x144, x145, x146, x147, x148, x149, x150, x151, x152, x153, x154, x155, x156, x157, x158, x159, x160, x161, x162, x163, x164, x165, x166, x167, x168, x169, x170, x171, x172, x173, x174, x175, x176, x177, x178, x179, x180, x181, x182, x183, x184, x185, x186, x187, x188, x189, x190, x191, x192, x193, x194, x195, x196, x197, x198, x199, x200, x201, x202, x203, x204, x205, x206, x207, x208, x209, x210, x211, x212, x213, x214, x215, x216, x217, x218, x219, x220, x221, x222, x223, x224, x225, x226, x227, x228, x229, x230, x231, x232, x233, x234, x235, x236, x237, x238, x239, x240, x241, x242, x243, x244, x245, x246, x247, x248, x249, x250, x251, x252, x253, x254, x255, x256, x257, x258, x259, x260, x261, x262, x263, x264, x265, x266, x267, x268, x269, x270, x271, x272, x273, x274, x275, x276, x277, x278, x279, x280, x281, x282, x283, x284, x285, x286, x287, x288, x289, x290, x291, x292, x293, x294, x295, x296, x297, x298, x299, x300, x301, x302, x303, x304, x305, x306, x307, x308, x309, x310, x311, x312, x313, x314, x315, x316, x317, x318, x319, x320, x321, x322, x323, x324, x325, x326, x327, x328, x329, x330, x331, x332, x333, x334, x335, x336, x337, x338, y339, y340, y341, y342, y343, y344, y345, y346, y347, y348, y349, y350, y351, y352, y353, y354, y355, y356, y357, y358, y359, y360, y361, y362, y363, y364, y365, y366, y367, y368, y369, y370, y371, y372, y373, y374, y375, x376], defers := ds } WZ) :
    ((((Code.region 69 #[{ dst := some 339, op := Op.move (Operand.tmp 27), type := 2, pos := "l07_linear.go:140", after := #[], guard := none }, { dst := some 340, op := Op.fieldAddr 27 (Operand.tmp 1) 0, type := 0, pos := "l07_linear.go:140", after := #[], guard := none }, { dst := some 341, op := Op.load 2 (Operand.tmp 340), type := 2, pos := "l07_linear.go:140", after := #[{ on := 1, ground := Ground.data }], guard := none }, { dst := some 342, op := Op.binOp BinOp.lss 2 (Operand.tmp 339) (Operand.tmp 341) 2, type := 4, pos := "l07_linear.go:140", after := #[{ on := 0, ground := Ground.data }, { on := 2, ground := Ground.data }], guard := none }] false).seq (Code.cond (Operand.tmp 342) Code.skip (Code.exit 18))).seq ((Code.block 19 ((Code.region 71 #[{ dst := some 345, op := Op.move (Operand.tmp 6), type := 60, pos := "l07_linear.go:141", after := #[], guard := none }, { dst := some 346, op := Op.move (Operand.tmp 27), type := 2, pos := "l07_linear.go:141", after := #[], guard := none }, { dst := some 347, op := Op.indexAddr 60 (Operand.tmp 345) (Operand.tmp 346), type := 0, pos := "l07_linear.go:141", after := #[{ on := 0, ground := Ground.data }, { on := 1, ground := Ground.data }], guard := none }, { dst := some 348, op := Op.load 3 (Operand.tmp 347), type := 3, pos := "l07_linear.go:141", after := #[{ on := 2, ground := Ground.data }], guard := none }, { dst := some 349, op := Op.binOp BinOp.geq 3 (Operand.tmp 348) (Operand.const (Value.int IntKind.i64 0)) 3, type := 4, pos := "l07_linear.go:141", after := #[{ on := 3, ground := Ground.data }], guard := none }] false).seq (Code.cond (Operand.tmp 349) (Code.region 72 #[{ dst := some 350, op := Op.fieldAddr 31 (Operand.tmp 26) 0, type := 0, pos := "l07_linear.go:142", after := #[], guard := none }, { dst := some 351, op := Op.load 29 (Operand.tmp 350), type := 29, pos := "l07_linear.go:142", after := #[{ on := 0, ground := Ground.data }], guard := none }, { dst := some 352, op := Op.move (Operand.tmp 22), type := 29, pos := "l07_linear.go:142", after := #[], guard := none }, { dst := some 353, op := Op.move (Operand.tmp 6), type := 60, pos := "l07_linear.go:142", after := #[], guard := none }, { dst := some 354, op := Op.move (Operand.tmp 27), type := 2, pos := "l07_linear.go:142", after := #[], guard := none }, { dst := some 355, op := Op.indexAddr 60 (Operand.tmp 353) (Operand.tmp 354), type := 0, pos := "l07_linear.go:142", after := #[{ on := 3, ground := Ground.data }, { on := 4, ground := Ground.data }], guard := none }, { dst := some 356, op := Op.load 3 (Operand.tmp 355), type := 3, pos := "l07_linear.go:142", after := #[{ on := 5, ground := Ground.data }], guard := none }, { dst := some 357, op := Op.indexAddr 29 (Operand.tmp 352) (Operand.tmp 356), type := 0, pos := "l07_linear.go:142", after := #[{ on := 2, ground := Ground.data }, { on := 6, ground := Ground.data }], guard := none }, { dst := some 358, op := Op.load 35 (Operand.tmp 357), type := 35, pos := "l07_linear.go:142", after := #[{ on := 7, ground := Ground.data }], guard := none }, { dst := some 359, op := Op.buildSlice 29 1 #[(0, Operand.tmp 358)], type := 29, pos := "l07_linear.go:142", after := #[{ on := 8, ground := Ground.data }], guard := none }, { dst := some 360, op := Op.call { callee := Callee.builtin Builtin.append, args := #[Operand.tmp 351, Operand.tmp 359], argTypes := #[29, 29] }, type := 29, pos := "l07_linear.go:142", after := #[{ on := 1, ground := Ground.data }, { on := 9, ground := Ground.data }], guard := none }, { dst := some 361, op := Op.fieldAddr 31 (Operand.tmp 26) 0, type := 0, pos := "l07_linear.go:142", after := #[{ on := 0, ground := Ground.phase }, { on := 1, ground := Ground.phase }, { on := 2, ground := Ground.phase }, { on := 3, ground := Ground.phase }, { on := 4, ground := Ground.phase }, { on := 5, ground := Ground.phase }, { on := 6, ground := Ground.phase }, { on := 7, ground := Ground.phase }, { on := 8, ground := Ground.phase }, { on := 9, ground := Ground.phase }, { on := 10, ground := Ground.phase }], guard := none }, { dst := none, op := Op.store 29 (Operand.tmp 361) (Operand.tmp 360), type := 0, pos := "l07_linear.go:142", after := #[{ on := 11, ground := Ground.data }, { on := 10, ground := Ground.data }, { on := 10, ground := Ground.chain }, { on := 0, ground := Ground.phase }, { on := 1, ground := Ground.phase }, { on := 2, ground := Ground.phase }, { on := 3, ground := Ground.phase }, { on := 4, ground := Ground.phase }, { on := 5, ground := Ground.phase }, { on := 6, ground := Ground.phase }, { on := 7, ground := Ground.phase }, { on := 8, ground := Ground.phase }, { on := 9, ground := Ground.phase }, { on := 10, ground := Ground.phase }], guard := none }] true) (Code.region 73 #[{ dst := some 362, op := Op.fieldAddr 31 (Operand.tmp 26) 0, type := 0, pos := "l07_linear.go:144", after := #[], guard := none }, { dst := some 363, op := Op.load 29 (Operand.tmp 362), type := 29, pos := "l07_linear.go:144", after := #[{ on := 0, ground := Ground.data }], guard := none }, { dst := some 364, op := Op.fieldAddr 27 (Operand.tmp 1) 2, type := 0, pos := "l07_linear.go:144", after := #[], guard := none }, { dst := some 365, op := Op.load 24 (Operand.tmp 364), type := 24, pos := "l07_linear.go:144", after := #[{ on := 2, ground := Ground.data }], guard := none }, { dst := some 366, op := Op.load 27 (Operand.tmp 1), type := 27, pos := "l07_linear.go:144", after := #[], guard := none }, { dst := some 367, op := Op.move (Operand.tmp 27), type := 2, pos := "l07_linear.go:144", after := #[], guard := none }, { dst := some 368, op := Op.call { callee := Callee.value (Operand.func 23), args := #[Operand.tmp 366, Operand.tmp 367], argTypes := #[27, 2] }, type := 3, pos := "l07_linear.go:144", after := #[{ on := 4, ground := Ground.data }, { on := 5, ground := Ground.data }], guard := none }, { dst := some 369, op := Op.indexAddr 24 (Operand.tmp 365) (Operand.tmp 368), type := 0, pos := "l07_linear.go:144", after := #[{ on := 3, ground := Ground.data }, { on := 6, ground := Ground.data }], guard := none }, { dst := some 370, op := Op.fieldAddr 39 (Operand.tmp 369) 1, type := 0, pos := "l07_linear.go:144", after := #[{ on := 7, ground := Ground.data }], guard := none }, { dst := some 371, op := Op.load 2 (Operand.tmp 370), type := 2, pos := "l07_linear.go:144", after := #[{ on := 8, ground := Ground.data }], guard := none }, { dst := some 372, op := Op.build 35 #[(0, Operand.tmp 371), (1, Operand.const (Value.int IntKind.i64 1))], type := 35, pos := "l07_linear.go:144", after := #[{ on := 9, ground := Ground.data }], guard := none }, { dst := some 373, op := Op.buildSlice 29 1 #[(0, Operand.tmp 372)], type := 29, pos := "l07_linear.go:144", after := #[{ on := 10, ground := Ground.data }], guard := none }, { dst := some 374, op := Op.call { callee := Callee.builtin Builtin.append, args := #[Operand.tmp 363, Operand.tmp 373], argTypes := #[29, 29] }, type := 29, pos := "l07_linear.go:144", after := #[{ on := 1, ground := Ground.data }, { on := 11, ground := Ground.data }, { on := 6, ground := Ground.chain }], guard := none }, { dst := some 375, op := Op.fieldAddr 31 (Operand.tmp 26) 0, type := 0, pos := "l07_linear.go:144", after := #[{ on := 0, ground := Ground.phase }, { on := 1, ground := Ground.phase }, { on := 2, ground := Ground.phase }, { on := 3, ground := Ground.phase }, { on := 4, ground := Ground.phase }, { on := 5, ground := Ground.phase }, { on := 6, ground := Ground.phase }, { on := 7, ground := Ground.phase }, { on := 8, ground := Ground.phase }, { on := 9, ground := Ground.phase }, { on := 10, ground := Ground.phase }, { on := 11, ground := Ground.phase }, { on := 12, ground := Ground.phase }], guard := none }, { dst := none, op := Op.store 29 (Operand.tmp 375) (Operand.tmp 374), type := 0, pos := "l07_linear.go:144", after := #[{ on := 13, ground := Ground.data }, { on := 12, ground := Ground.data }, { on := 12, ground := Ground.chain }, { on := 0, ground := Ground.phase }, { on := 1, ground := Ground.phase }, { on := 2, ground := Ground.phase }, { on := 3, ground := Ground.phase }, { on := 4, ground := Ground.phase }, { on := 5, ground := Ground.phase }, { on := 6, ground := Ground.phase }, { on := 7, ground := Ground.phase }, { on := 8, ground := Ground.phase }, { on := 9, ground := Ground.phase }, { on := 10, ground := Ground.phase }, { on := 11, ground := Ground.phase }, { on := 12, ground := Ground.phase }], guard := none }] true)))).seq (Code.region 70 #[{ dst := some 343, op := Op.move (Operand.tmp 27), type := 2, pos := "l07_linear.go:140", after := #[], guard := none }, { dst := some 344, op := Op.binOp BinOp.add 2 (Operand.tmp 343) (Operand.const (Value.int IntKind.i64 1)) 2, type := 2, pos := "l07_linear.go:140", after := #[{ on := 0, ground := Ground.data }], guard := none }, { dst := some 27, op := Op.assign (Operand.tmp 344), type := 2, pos := "l07_linear.go:140", after := #[{ on := 1, ground := Ground.data }, { on := 0, ground := Ground.phase }, { on := 1, ground := Ground.phase }], guard := none }] false))).loop).wp Tryz.prog Q { tmps := #[x0, (.pointer (some ⟨w.heap.size, 0, none⟩)), x2, x3, x4, x5, (.slice (some ⟨gn, 0, none⟩) N N), x7, x8, x9, x10, x11, x12, x13, x14, x15, x16, x17, x18, x19, x20, x21, (.slice (some ⟨gh, 0, none⟩) m m), x23, x24, x25, (.pointer (some ⟨go, 0, none⟩)), (.int .i64 0), x28, x29, x30, x31, x32, x33, x34, x35, x36, x37, x38, x39, x40, x41, x42, x43, x44, x45, x46, x47, x48, x49, x50, x51, x52, x53, x54, x55, x56, x57, x58, x59, x60, x61, x62, x63, x64, x65, x66, x67, x68, x69, x70, x71, x72, x73, x74, x75, x76, x77, x78, x79, x80, x81, x82, x83, x84, x85, x86, x87, x88, x89, x90, x91, x92, x93, x94, x95, x96, x97, x98, x99, x100, x101, x102, x103, x104, x105, x106, x107, x108, x109, x110, x111, x112, x113, x114, x115, x116, x117, x118, x119, x120, x121, x122, x123, x124, x125, x126, x127, x128, x129, x130, x131, x132, x133, x134, x135, x136, x137, x138, x139, x140, x141, x142, x143, x144, x145, x146, x147, x148, x149, x150, x151, x152, x153, x154, x155, x156, x157, x158, x159, x160, x161, x162, x163, x164, x165, x166, x167, x168, x169, x170, x171, x172, x173, x174, x175, x176, x177, x178, x179, x180, x181, x182, x183, x184, x185, x186, x187, x188, x189, x190, x191, x192, x193, x194, x195, x196, x197, x198, x199, x200, x201, x202, x203, x204, x205, x206, x207, x208, x209, x210, x211, x212, x213, x214, x215, x216, x217, x218, x219, x220, x221, x222, x223, x224, x225, x226, x227, x228, x229, x230, x231, x232, x233, x234, x235, x236, x237, x238, x239, x240, x241, x242, x243, x244, x245, x246, x247, x248, x249, x250, x251, x252, x253, x254, x255, x256, x257, x258, x259, x260, x261, x262, x263, x264, x265, x266, x267, x268, x269, x270, x271, x272, x273, x274, x275, x276, x277, x278, x279, x280, x281, x282, x283, x284, x285, x286, x287, x288, x289, x290, x291, x292, x293, x294, x295, x296, x297, x298, x299, x300, x301, x302, x303, x304, x305, x306, x307, x308, x309, x310, x311, x312, x313, x314, x315, x316, x317, x318, x319, x320, x321, x322, x323, x324, x325, x326, x327, x328, x329, x330, x331, x332, x333, x334, x335, x336, x337, x338, x339, x340, x341, x342, x343, x344, x345, x346, x347, x348, x349, x350, x351, x352, x353, x354, x355, x356, x357, x358, x359, x360, x361, x362, x363, x364, x365, x366, x367, x368, x369, x370, x371, x372, x373, x374, x375, x376], defers := ds } W0 := by
  dsimp only
  go_loopw [27] (fun kv wr => ∃ (k : Nat) (va : Option Addr) (vk : Nat), kv = .int .i64 k ∧ k ≤ N ∧ Hid (Ou n la lk fa fk wa wk gc go k f (.slice va k vk) gn N gh m no h w wr)) (fun kv _ => N - (intOf kv).toNat)
  case atStart => exact ⟨0, none, 0, rfl, Nat.zero_le _, HO⟩
  case round =>
    obtain ⟨k, va, vk, rfl, hkN, hO⟩ := hrel
    clear HO
    obtain ⟨W1, hW1⟩ : ∃ W, W = wr := ⟨_, rfl⟩
    rw [← hW1] at hO ⊢
    clear hW1
    have HO := hO
    clear hO
    obtain ⟨⟨r0, r1, r2, r3⟩, _⟩ := rowN4 HO.out.s.row
    rw [HNN.out] at r0
    by_cases hk : k < N
    · have hkz : (k : Int) < (N : Int) := by omega
      have l0 := HO.out.nu.cell (i := k) hk
      rcases HNO.out k hk with ⟨h1, h2, h3⟩ | ⟨r, h1, h2, h3⟩
      · rw [h2] at l0
        go_wp2_with fail
        apply sreg73 (HO := HO) (HAT := HAT) (hk := hk) (hN := hN) (HRT := HRT) (hfix := h1) (hhf := h3) (hP := fun c a o v w h => by exact hP c a o v w h)
        intro y362 y363 y364 y365 y366 y367 y368 y369 y370 y371 y372 y373 y374 y375 W2 a8 c8 HO2
        clear HO l0 r0 r1 r2 r3
        go_wp2_with fail
        go_roundw
        case rel => exact ⟨k + 1, a8, c8, by go_num, by omega, HO2⟩
        case measure => simp [intOf]; omega
      · have HN1 := Lib.hid h2
        have HF1 := Lib.hid h3
        rw [h2] at l0
        clear h2 h3
        have hr0 : (0 : Int) ≤ (r : Int) := by omega
        go_wp2_with fail
        apply sreg72 (HO := HO) (HAT := HAT) (hk := hk) (hN := hN) (HNO := HN1) (hr := h1) (HHF := HF1) (hP := fun c a o v w h => by exact hP c a o v w h)
        intro y350 y351 y352 y353 y354 y355 y356 y357 y358 y359 y360 y361 W2 a8 c8 HO2
        clear HO l0 r0 r1 r2 r3
        go_wp2_with fail
        go_roundw
        case rel => exact ⟨k + 1, a8, c8, by go_num, by omega, HO2⟩
        case measure => simp [intOf]; omega
    · obtain rfl : k = N := by omega
      go_wp2_with fail
      exact hQ _ _ _ _ _ _ _ _ _ _ _ _ _ _ _ _ _ _ _ _ _ _ _ _ _ _ _ _ _ _ _ _ _ _ _ _ _ _ _ va vk HO
end Go.Proofs.YtkaokfmaecdkiaaGreatDoor
