/-
  Joined: NtL1, NtMs, NtMu, NtMv, NtL4, NtMw, NtM33, NtM35, NtM36, NtL3, NtMy, NtM22, NtL2, NtMz.
-/
import Derived.Test.YtkaokfmaecdkiaaGreatDoorNtCgB
import Derived.Laws.AppendOwn
import Derived.Test.YtkaokfmaecdkiaaGreatDoorRegL
import Derived.Deep.RegionHeld3
import Derived.BigQuiet
namespace Go.Proofs.YtkaokfmaecdkiaaGreatDoor
open Go Go.RowKit Go.Deep

/-- A node's number among those whose heads are not known. -/
def noF (n : Nt.Net) (j : Nat) : Int := if Nt.fixed n j then -1 else ((Nt.freeTo n j).length : Int)
theorem IsPart.skip {T : TypeId} {g M N : Nat} {f : Nat → Int} {w : World} (h : IsPart T g M N f w) {i : Nat} (hi : N ≤ i) (x : Value) : IsPart T g M N f (w.setCell ⟨g, i, none⟩ x) := by
  obtain ⟨F, h1, h2⟩ := h
  refine ⟨_, h1.set i x, fun j hj => ?_⟩
  have e : j ≠ i := by omega
  simp only [e, if_false]
  exact h2 j hj
def frl (n : Nt.Net) (k : Nat) : List Value := (Nt.freeTo n k).map (fun (x : Nat) => Value.int .i64 (x : Int))
/-- What stands while the nodes are gathered. -/
structure N1 (n : Nt.Net) (la : Option Addr) (lk : Nat) (fa : Option Addr) (fk : Nat) (wa : Option Addr) (wk gc gn k : Nat) (v : Value) (w W : World) : Prop where
  row : W.rowIs w.heap.size 27 4 (rowN (ntL n la lk fa fk wa wk))
  res : W.rowIs (w.heap.size + 1) 31 3 (rowN (noL none 0 0 0 0))
  old : Below w.heap.size w W
  rc : W.rowIs gc 59 1 (rowN [.int .i64 0])
  nu : IsPart 3 gn (Nt.nn n) k (noF n) W
  nod : W.ownsRow (gc + 1) 2 1 v (Nt.freeTo n k).length (frl n k)
  num : w.heap.size + 1 < gc ∧ gc < gn
section
variable {n : Nt.Net} {la : Option Addr} {lk : Nat} {fa : Option Addr} {fk : Nat} {wa : Option Addr} {wk gc gn k : Nat} {v : Value} {w W W' : World}
theorem N1.keep (h : N1 n la lk fa fk wa wk gc gn k v w W) (hb : Below W.heap.size W W') : N1 n la lk fa fk wa wk gc gn k v w W' := by
  obtain ⟨F, f1, f2⟩ := h.nu
  exact ⟨nrow_below h.row hb, nrow_below h.res hb, h.old.trans (hb.mono h.old.size), nrow_below h.rc hb, ⟨F, nrow_below f1 hb, f2⟩, lpown_below h.nod hb, h.num⟩
theorem N1.below (h : N1 n la lk fa fk wa wk gc gn k v w W) (hb : Below W.heap.size W W') : N1 n la lk fa fk wa wk gc gn k v w W' := h.keep hb
/-- A store into the numbers at the place that is next. -/
theorem N1.set (h : N1 n la lk fa fk wa wk gc gn k v w W) (x : Value) : N1 n la lk fa fk wa wk gc gn k v w (W.setCell ⟨gn, k, none⟩ x) := by
  have hn := h.num
  obtain ⟨F, f1, f2⟩ := h.nu
  have hne : some gn ≠ v.ownBlock := lpown_rne h.nod f1 (by decide)
  have hk : ∀ j, j ≠ gn → (W.setCell ⟨gn, k, none⟩ x).heap[j]? = W.heap[j]? := fun j e => Below.heap_setCell _ _ _ _ e
  exact ⟨h.row.of_block (hk _ (by omega)), h.res.of_block (hk _ (by omega)), h.old.setCell (p := ⟨gn, k, none⟩) (by show w.heap.size ≤ gn; omega) _, h.rc.of_block (hk _ (by omega)), h.nu.skip (Nat.le_refl _) x, lpown_block h.nod (fun j e _ => hk j (fun e2 => hne (by rw [e, e2]))), h.num⟩
/-- The number of the node that is next is laid. -/
def PX (n : Nt.Net) (la : Option Addr) (lk : Nat) (fa : Option Addr) (fk : Nat) (wa : Option Addr) (wk gc gn k : Nat) (x : Int) (v : Value) (w W : World) : Prop := N1 n la lk fa fk wa wk gc gn k v w W ∧ W.cell? ⟨gn, k, none⟩ = some (.int .i64 x)
theorem N1.setx (h : N1 n la lk fa fk wa wk gc gn k v w W) (hk : k < Nt.nn n) (x : Int) : PX n la lk fa fk wa wk gc gn k x v w (W.setCell ⟨gn, k, none⟩ (.int .i64 x)) := by
  refine ⟨h.set _, ?_⟩
  obtain ⟨F, f1, _⟩ := h.nu
  rw [(f1.set k (.int .i64 x)).cell hk]
  simp
theorem PX.below {x : Int} (h : PX n la lk fa fk wa wk gc gn k x v w W) (hb : Below W.heap.size W W') : PX n la lk fa fk wa wk gc gn k x v w W' := ⟨h.1.keep hb, (hb.cell (World.block_lt_of_cell? _ _ h.2)).trans h.2⟩
theorem PX.part {x : Int} (h : PX n la lk fa fk wa wk gc gn k x v w W) (hk : k < Nt.nn n) (hx : x = noF n k) : IsPart 3 gn (Nt.nn n) (k + 1) (noF n) W := by
  obtain ⟨F, f1, f2⟩ := h.1.nu
  refine ⟨F, f1, fun j hj => ?_⟩
  by_cases e : j = k
  · subst e
    have c := f1.cell hk
    rw [h.2, hx] at c
    exact (Option.some.inj c).symm
  · exact f2 j (by omega)
theorem PX.fixed_ (h : PX n la lk fa fk wa wk gc gn k (-1) v w W) (hk : k < Nt.nn n) (hf : Nt.fixed n k = true) : N1 n la lk fa fk wa wk gc gn (k + 1) v w W := by
  have e : Nt.freeTo n (k + 1) = Nt.freeTo n k := by simp [Nt.freeTo, hf]
  refine ⟨h.1.row, h.1.res, h.1.old, h.1.rc, h.part hk (by unfold noF; rw [if_pos hf]), ?_, h.1.num⟩
  unfold frl
  rw [e]
  exact h.1.nod
theorem PX.push {v' : Value} (h : PX n la lk fa fk wa wk gc gn k ((Nt.freeTo n k).length : Int) v w W) (hk : k < Nt.nn n) (hf : Nt.fixed n k = false) (ho : W'.ownsRow (gc + 1) 2 1 v' ((Nt.freeTo n k).length + 1) (frl n k ++ [.int .i64 (k : Int)])) (hg : W.grownBy W' v.ownBlock) : N1 n la lk fa fk wa wk gc gn (k + 1) v' w W' := by
  have e : Nt.freeTo n (k + 1) = Nt.freeTo n k ++ [k] := by simp [Nt.freeTo, hf]
  have hn := h.1.num
  obtain ⟨F, f1, f2⟩ := h.part hk (by unfold noF; rw [hf]; rfl)
  have ne : ∀ j, v.ownBlock = some j → gc + 1 ≤ j := fun j e => (World.ownsRow.lt h.1.nod j e).1
  have hne : some gn ≠ v.ownBlock := lpown_rne h.1.nod f1 (by decide)
  have blk : ∀ j, j < W.heap.size → j ≤ gc → W'.heap[j]? = W.heap[j]? := fun j h1 h2 => hg.block j h1 (fun e => by have := ne j e.symm; omega)
  refine ⟨h.1.row.of_block (blk _ h.1.row.lt (by omega)), h.1.res.of_block (blk _ h.1.res.lt (by omega)), h.1.old.grown hg h.1.old.size (fun j e => by have := ne j e; omega), h.1.rc.of_block (blk _ h.1.rc.lt (Nat.le_refl _)), ⟨F, f1.of_block (hg.block _ f1.lt hne), f2⟩, ?_, h.1.num⟩
  unfold frl
  rw [e, List.length_append, List.map_append]
  exact ho
end
set_option maxRecDepth 100000 in
set_option maxHeartbeats 32000000 in
theorem sloop1 {w : World} (n : Nt.Net) (la : Option Addr) (lk : Nat) (fa : Option Addr) (fk : Nat) (wa : Option Addr) (wk gc gn : Nat) (v0 : Value) (x0 x2 x3 x4 x8 x9 x10 x11 x12 x13 x14 x15 x16 x17 x18 x19 x20 x21 x22 x23 x24 x25 x26 x27 x28 x29 x30 x31 x32 x33 x34 x35 x36 x37 x38 x39 x40 x41 x42 x43 x44 x45 x46 x47 x48 x49 x50 x51 x52 x53 x54 x55 x56 x57 x58 x59 x60 x61 x62 x63 x64 x65 x66 x67 x68 x69 x70 x71 x72 x73 x74 x75 x76 x77 x78 x79 x80 x81 x82 x83 x84 x85 x86 x87 x88 x89 x90 x91 x92 x93 x94 x95 x96 x97 x98 x99 x100 x101 x102 x103 x104 x105 x106 x107 x108 x109 x110 x111 x112 x113 x114 x115 x116 x117 x118 x119 x120 x121 x122 x123 x124 x125 x126 x127 x128 x129 x130 x131 x132 x133 x134 x135 x136 x137 x138 x139 x140 x141 x142 x143 x144 x145 x146 x147 x148 x149 x150 x151 x152 x153 x154 x155 x156 x157 x158 x159 x160 x161 x162 x163 x164 x165 x166 x167 x168 x169 x170 x171 x172 x173 x174 x175 x176 x177 x178 x179 x180 x181 x182 x183 x184 x185 x186 x187 x188 x189 x190 x191 x192 x193 x194 x195 x196 x197 x198 x199 x200 x201 x202 x203 x204 x205 x206 x207 x208 x209 x210 x211 x212 x213 x214 x215 x216 x217 x218 x219 x220 x221 x222 x223 x224 x225 x226 x227 x228 x229 x230 x231 x232 x233 x234 x235 x236 x237 x238 x239 x240 x241 x242 x243 x244 x245 x246 x247 x248 x249 x250 x251 x252 x253 x254 x255 x256 x257 x258 x259 x260 x261 x262 x263 x264 x265 x266 x267 x268 x269 x270 x271 x272 x273 x274 x275 x276 x277 x278 x279 x280 x281 x282 x283 x284 x285 x286 x287 x288 x289 x290 x291 x292 x293 x294 x295 x296 x297 x298 x299 x300 x301 x302 x303 x304 x305 x306 x307 x308 x309 x310 x311 x312 x313 x314 x315 x316 x317 x318 x319 x320 x321 x322 x323 x324 x325 x326 x327 x328 x329 x330 x331 x332 x333 x334 x335 x336 x337 x338 x339 x340 x341 x342 x343 x344 x345 x346 x347 x348 x349 x350 x351 x352 x353 x354 x355 x356 x357 x358 x359 x360 x361 x362 x363 x364 x365 x366 x367 x368 x369 x370 x371 x372 x373 x374 x375 x376 : Value) (ds : _) (Q : Exit → Act → World → Prop) (W0 : World)
    (HN : Hid (N1 n la lk fa fk wa wk gc gn 0 v0 w W0)) (HAT : Hid (NtAt n la fa wa w)) (HRT : Hid (Nt.Right n)) (HNN : Hid (n.nodes = (Nt.nn n : Int)))
    (hQ : ∀ (y7 y47 y48 y49 y50 y51 y52 y53 y54 y55 y56 y57 y58 y59 y60 y61 y62 y63 y64 y65 y66 y67 y68 : Value) (WZ : World) (v : Value), Hid (N1 n la lk fa fk wa wk gc gn (Nt.nn n) v w WZ) → Q (.exit 0) { tmps := #[x0, (.pointer (some ⟨w.heap.size, 0, none⟩)), x2, x3, x4, v, (.slice (some ⟨gn, 0, none⟩) (Nt.nn n) (Nt.nn n)), y7, x8, x9, x10, x11, x12, x13, x14, x15, x16, x17, x18, x19, x20, x21, x22, x23, x24, x25, x26, x27, x28, x29, x30, x31, x32, x33, x34, x35, x36, x37, x38, x39, x40, x41, x42, x43, x44, x45, x46, y47, y48, y49, y50, y51, y52, y53, y54, y55, y56, y57, y58, y59, y60, y61, y62, y63, y64, y65, y66, y67, y68, x69, x70, x71, x72, x73, x74, x75, x76, x77, x78, x79, x80, x81, x82, x83, x84, x85, x86, x87, x88, x89, x90, x91, x92, x93, x94, x95, x96, x97, x98, x99, x100, x101, x102, x103, x104, x105, x106, x107, x108, x109, x110, x111, x112, x113, x114, x115, x116, x117, x118, x119, x120, x121, x122, x123, x124, x125, x126, x127, x128, x129, x130, x131, x132, x133, x134, x135, x136, x137, x138, x139, x140, x141, x142, x143, x144, x145, x146, x147, x148, x149, x150, x151, x152, x153, x154, x155, x156, x157, x158, x159, x160, x161, x162, x163, x164, x165, x166, x167, x168, x169, x170, x171, x172, x173, x174, x175, x176, x177, x178, x179, x180, x181, x182, x183, x184, x185, x186, x187, x188, x189, x190, x191, x192, x193, x194, x195, x196, x197, x198, x199, x200, x201, x202, x203, x204, x205, x206, x207, x208, x209, x210, x211, x212, x213, x214, x215, x216, x217, x218, x219, x220, x221, x222, x223, x224, x225, x226, x227, x228, x229, x230, x231, x232, x233, x234, x235, x236, x237, x238, x239, x240, x241, x242, x243, x244, x245, x246, x247, x248, x249, x250, x251, x252, x253, x254, x255, x256, x257, x258, x259, x260, x261, x262, x263, x264, x265, x266, x267, x268, x269, x270, x271, x272, x273, x274, x275, x276, x277, x278, x279, x280, x281, x282, x283, x284, x285, x286, x287, x288, x289, x290, x291, x292, x293, x294, x295, x296, x297, x298, x299, x300, x301, x302, x303, x304, x305, x306, x307, x308, x309, x310, x311, x312, x313, x314, x315, x316, x317, x318, x319, x320, x321, x322, x323, x324, x325, x326, x327, x328, x329, x330, x331, x332, x333, x334, x335, x336, x337, x338, x339, x340, x341, x342, x343, x344, x345, x346, x347, x348, x349, x350, x351, x352, x353, x354, x355, x356, x357, x358, x359, x360, x361, x362, x363, x364, x365, x366, x367, x368, x369, x370, x371, x372, x373, x374, x375, x376], defers := ds } WZ) :
    ((((Code.region 10 #[{ dst := some 47, op := Op.move (Operand.tmp 7), type := 2, pos := "l07_linear.go:81", after := #[], guard := none }, { dst := some 48, op := Op.fieldAddr 27 (Operand.tmp 1) 0, type := 0, pos := "l07_linear.go:81", after := #[], guard := none }, { dst := some 49, op := Op.load 2 (Operand.tmp 48), type := 2, pos := "l07_linear.go:81", after := #[{ on := 1, ground := Ground.data }], guard := none }, { dst := some 50, op := Op.binOp BinOp.lss 2 (Operand.tmp 47) (Operand.tmp 49) 2, type := 4, pos := "l07_linear.go:81", after := #[{ on := 0, ground := Ground.data }, { on := 2, ground := Ground.data }], guard := none }] false).seq (Code.cond (Operand.tmp 50) Code.skip (Code.exit 0))).seq ((Code.block 1 ((Code.region 12 #[{ dst := some 53, op := Op.move (Operand.tmp 6), type := 60, pos := "l07_linear.go:82", after := #[], guard := none }, { dst := some 54, op := Op.move (Operand.tmp 7), type := 2, pos := "l07_linear.go:82", after := #[], guard := none }, { dst := some 55, op := Op.indexAddr 60 (Operand.tmp 53) (Operand.tmp 54), type := 0, pos := "l07_linear.go:82", after := #[{ on := 0, ground := Ground.data }, { on := 1, ground := Ground.data }, { on := 0, ground := Ground.phase }, { on := 1, ground := Ground.phase }], guard := none }, { dst := none, op := Op.store 3 (Operand.tmp 55) (Operand.const (Value.int IntKind.i64 (-1))), type := 0, pos := "l07_linear.go:82", after := #[{ on := 2, ground := Ground.data }, { on := 0, ground := Ground.phase }, { on := 1, ground := Ground.phase }], guard := none }] false).seq ((Code.region 13 #[{ dst := some 56, op := Op.load 27 (Operand.tmp 1), type := 27, pos := "l07_linear.go:83", after := #[], guard := none }, { dst := some 57, op := Op.move (Operand.tmp 7), type := 2, pos := "l07_linear.go:83", after := #[], guard := none }, { dst := some 58, op := Op.call { callee := Callee.value (Operand.func 23), args := #[Operand.tmp 56, Operand.tmp 57], argTypes := #[27, 2] }, type := 3, pos := "l07_linear.go:83", after := #[{ on := 0, ground := Ground.data }, { on := 1, ground := Ground.data }], guard := none }, { dst := some 59, op := Op.binOp BinOp.lss 3 (Operand.tmp 58) (Operand.const (Value.int IntKind.i64 0)) 3, type := 4, pos := "l07_linear.go:83", after := #[{ on := 2, ground := Ground.data }], guard := none }] false).seq (Code.cond (Operand.tmp 59) ((Code.region 14 #[{ dst := some 60, op := Op.move (Operand.tmp 6), type := 60, pos := "l07_linear.go:84", after := #[], guard := none }, { dst := some 61, op := Op.move (Operand.tmp 7), type := 2, pos := "l07_linear.go:84", after := #[], guard := none }, { dst := some 62, op := Op.move (Operand.tmp 5), type := 25, pos := "l07_linear.go:84", after := #[], guard := none }, { dst := some 63, op := Op.call { callee := Callee.builtin Builtin.len, args := #[Operand.tmp 62], argTypes := #[25] }, type := 3, pos := "l07_linear.go:84", after := #[{ on := 2, ground := Ground.data }], guard := none }, { dst := some 64, op := Op.indexAddr 60 (Operand.tmp 60) (Operand.tmp 61), type := 0, pos := "l07_linear.go:84", after := #[{ on := 0, ground := Ground.data }, { on := 1, ground := Ground.data }, { on := 0, ground := Ground.phase }, { on := 1, ground := Ground.phase }, { on := 2, ground := Ground.phase }, { on := 3, ground := Ground.phase }], guard := none }, { dst := none, op := Op.store 3 (Operand.tmp 64) (Operand.tmp 63), type := 0, pos := "l07_linear.go:84", after := #[{ on := 4, ground := Ground.data }, { on := 3, ground := Ground.data }, { on := 0, ground := Ground.phase }, { on := 1, ground := Ground.phase }, { on := 2, ground := Ground.phase }, { on := 3, ground := Ground.phase }], guard := none }] false).seq (Code.region 15 #[{ dst := some 65, op := Op.move (Operand.tmp 5), type := 25, pos := "l07_linear.go:85", after := #[], guard := none }, { dst := some 66, op := Op.move (Operand.tmp 7), type := 2, pos := "l07_linear.go:85", after := #[], guard := none }, { dst := some 67, op := Op.buildSlice 25 1 #[(0, Operand.tmp 66)], type := 25, pos := "l07_linear.go:85", after := #[{ on := 1, ground := Ground.data }], guard := none }, { dst := some 68, op := Op.call { callee := Callee.builtin Builtin.append, args := #[Operand.tmp 65, Operand.tmp 67], argTypes := #[25, 25] }, type := 25, pos := "l07_linear.go:85", after := #[{ on := 0, ground := Ground.data }, { on := 2, ground := Ground.data }], guard := none }, { dst := some 5, op := Op.assign (Operand.tmp 68), type := 25, pos := "l07_linear.go:85", after := #[{ on := 3, ground := Ground.data }, { on := 3, ground := Ground.chain }, { on := 0, ground := Ground.phase }, { on := 1, ground := Ground.phase }, { on := 2, ground := Ground.phase }, { on := 3, ground := Ground.phase }], guard := none }] false)) Code.skip)))).seq (Code.region 11 #[{ dst := some 51, op := Op.move (Operand.tmp 7), type := 2, pos := "l07_linear.go:81", after := #[], guard := none }, { dst := some 52, op := Op.binOp BinOp.add 2 (Operand.tmp 51) (Operand.const (Value.int IntKind.i64 1)) 2, type := 2, pos := "l07_linear.go:81", after := #[{ on := 0, ground := Ground.data }], guard := none }, { dst := some 7, op := Op.assign (Operand.tmp 52), type := 2, pos := "l07_linear.go:81", after := #[{ on := 1, ground := Ground.data }, { on := 0, ground := Ground.phase }, { on := 1, ground := Ground.phase }], guard := none }] false))).loop).wp Tryz.prog Q { tmps := #[x0, (.pointer (some ⟨w.heap.size, 0, none⟩)), x2, x3, x4, v0, (.slice (some ⟨gn, 0, none⟩) (Nt.nn n) (Nt.nn n)), (.int .i64 0), x8, x9, x10, x11, x12, x13, x14, x15, x16, x17, x18, x19, x20, x21, x22, x23, x24, x25, x26, x27, x28, x29, x30, x31, x32, x33, x34, x35, x36, x37, x38, x39, x40, x41, x42, x43, x44, x45, x46, x47, x48, x49, x50, x51, x52, x53, x54, x55, x56, x57, x58, x59, x60, x61, x62, x63, x64, x65, x66, x67, x68, x69, x70, x71, x72, x73, x74, x75, x76, x77, x78, x79, x80, x81, x82, x83, x84, x85, x86, x87, x88, x89, x90, x91, x92, x93, x94, x95, x96, x97, x98, x99, x100, x101, x102, x103, x104, x105, x106, x107, x108, x109, x110, x111, x112, x113, x114, x115, x116, x117, x118, x119, x120, x121, x122, x123, x124, x125, x126, x127, x128, x129, x130, x131, x132, x133, x134, x135, x136, x137, x138, x139, x140, x141, x142, x143, x144, x145, x146, x147, x148, x149, x150, x151, x152, x153, x154, x155, x156, x157, x158, x159, x160, x161, x162, x163, x164, x165, x166, x167, x168, x169, x170, x171, x172, x173, x174, x175, x176, x177, x178, x179, x180, x181, x182, x183, x184, x185, x186, x187, x188, x189, x190, x191, x192, x193, x194, x195, x196, x197, x198, x199, x200, x201, x202, x203, x204, x205, x206, x207, x208, x209, x210, x211, x212, x213, x214, x215, x216, x217, x218, x219, x220, x221, x222, x223, x224, x225, x226, x227, x228, x229, x230, x231, x232, x233, x234, x235, x236, x237, x238, x239, x240, x241, x242, x243, x244, x245, x246, x247, x248, x249, x250, x251, x252, x253, x254, x255, x256, x257, x258, x259, x260, x261, x262, x263, x264, x265, x266, x267, x268, x269, x270, x271, x272, x273, x274, x275, x276, x277, x278, x279, x280, x281, x282, x283, x284, x285, x286, x287, x288, x289, x290, x291, x292, x293, x294, x295, x296, x297, x298, x299, x300, x301, x302, x303, x304, x305, x306, x307, x308, x309, x310, x311, x312, x313, x314, x315, x316, x317, x318, x319, x320, x321, x322, x323, x324, x325, x326, x327, x328, x329, x330, x331, x332, x333, x334, x335, x336, x337, x338, x339, x340, x341, x342, x343, x344, x345, x346, x347, x348, x349, x350, x351, x352, x353, x354, x355, x356, x357, x358, x359, x360, x361, x362, x363, x364, x365, x366, x367, x368, x369, x370, x371, x372, x373, x374, x375, x376], defers := ds } W0 := by
  obtain ⟨i0, hi0, hi1, hi2, hi3⟩ := info_parts ninfo_int
  have hnn := HRT.out.nn
  dsimp only
  go_loopw [5, 7] (fun v kv wr => ∃ (k : Nat), kv = .int .i64 k ∧ k ≤ Nt.nn n ∧ Hid (N1 n la lk fa fk wa wk gc gn k v w wr)) (fun _ kv _ => Nt.nn n - (intOf kv).toNat)
  case atStart => exact ⟨0, rfl, Nat.zero_le _, HN⟩
  case round =>
    obtain ⟨k, rfl, hkN, hN⟩ := hrel
    clear HN
    obtain ⟨W1, hW1⟩ : ∃ W, W = wr := ⟨_, rfl⟩
    rw [← hW1] at hN ⊢
    clear hW1
    have HN := hN
    clear hN
    obtain ⟨a1, c1, rfl⟩ := lpown_shape HN.out.nod
    obtain ⟨⟨r0, r1, r2, r3⟩, _⟩ := rowN4 HN.out.row
    rw [HNN.out] at r0
    by_cases hk : k < Nt.nn n
    · have hkz : (k : Int) < (Nt.nn n : Int) := by omega
      obtain ⟨F, hF, _⟩ := HN.out.nu
      have o0 := hF.cell (i := k) hk
      have z0 := hF.frozen k
      have l0 := hF.lt
      have HN1 := Lib.hid (HN.out.setx hk (-1))
      obtain ⟨W2, hW2⟩ : ∃ W, W = W1.setCell ⟨gn, k, none⟩ (.int .i64 (-1)) := ⟨_, rfl⟩
      rw [← hW2] at HN1
      obtain ⟨⟨s0, s1, s2, s3⟩, _⟩ := rowN4 HN1.out.1.row
      rw [hW2] at s0 s1 s2 s3
      have HW2 := Lib.hid hW2
      clear hW2 hF
      rw [HNN.out] at s0
      go_wp2_with fail
      rw [← HW2.out, ← HNN.out]
      clear HW2 o0 z0 l0 r0 r1 r2 r3 s0 s1 s2 s3
      refine (sfixed_any n la lk fa fk wa wk k _ (HAT.out.below HN1.out.1.old) HRT.out).mono ?_
      rintro e W3 ⟨⟨zf, rfl, hfx⟩, hb⟩
      have hneg := hfx.neg
      clear hfx
      replace HN1 := Lib.hid (HN1.out.below hb)
      clear hb HN
      by_cases hf : Nt.fixed n k = true
      · have hzf : ¬ zf < 0 := by rw [hneg, hf]; simp
        have HN2 : Hid (N1 n la lk fa fk wa wk gc gn (k + 1) (.slice a1 (Nt.freeTo n k).length c1) w W3) := by
          have h1 := HN1.out.fixed_ hk hf
          exact h1
        clear hneg HN1
        go_wp2_with fail
        go_roundw
        case rel => exact ⟨k + 1, by go_num, by omega, HN2⟩
        case measure => simp [intOf]; omega
      · have hf2 : Nt.fixed n k = false := by simpa using hf
        have hzf : zf < 0 := hneg.2 hf2
        clear hneg
        have HN2 := Lib.hid (HN1.out.1.setx hk ((Nt.freeTo n k).length : Int))
        obtain ⟨F, hF, _⟩ := HN1.out.1.nu
        have o0 := hF.cell (i := k) hk
        have z0 := hF.frozen k
        have l0 := hF.lt
        obtain ⟨W4, hW4⟩ : ∃ W, W = W3.setCell ⟨gn, k, none⟩ (.int .i64 ((Nt.freeTo n k).length : Int)) := ⟨_, rfl⟩
        have hsz : W4.heap.size = W3.heap.size := by rw [hW4]; simp
        rw [← hW4] at HN2
        have hlen := Nt.freeTo_len n k
        have HW4 := Lib.hid hW4
        have HN3 : Hid (PX n la lk fa fk wa wk gc gn k ((Nt.freeTo n k).length : Int) (.slice a1 (Nt.freeTo n k).length c1) w (W3.setCell ⟨gn, k, none⟩ (.int .i64 ((Nt.freeTo n k).length : Int)))) := by show PX _ _ _ _ _ _ _ _ _ _ _ _ _ _; rw [← hW4]; exact HN2.out
        clear hW4 hF HN1
        go_wp2_with (at_builtin; refine wpList_append_own _ rfl _ _ 25 rfl (gc + 1) 2 i0 (.int .i64 0) 1 8 Tryz.underlying25 hi0 hi1 hi2 hi3 rfl (by decide) _ _ _ rfl (World.ownsRow.alloc HN3.out.1.nod _) ⟨W3.heap.size, 0, none⟩ 1 1 [.int .i64 k] rfl rfl ?d1 ?d2 ?d3 ?d4 ?d5 ?_)
        case d1 => have := cell_one_new (W3.setCell ⟨gn, k, none⟩ (.int .i64 ((Nt.freeTo n k).length : Int))) (.int .i64 k) 2; simpa using this
        case d2 => first | rfl | (intro u hu; simp at hu; subst hu; rfl)
        case d3 => unfold maxLen; omega
        case d4 => omega
        case d5 => have := HN3.out.1.rc.lt; simp at this ⊢; omega
        intro va wA hown hgrow _
        have HN5 := Lib.hid ((HN3.out.below (nbel_alloc _ _)).push hk hf2 hown hgrow)
        clear hown hgrow HN3 HN2 HW4 hsz o0 z0 l0
        go_wp2_with fail
        go_roundw
        case rel => exact ⟨k + 1, by go_num, by omega, HN5⟩
        case measure => simp [intOf]; omega
    · obtain rfl : k = Nt.nn n := by omega
      go_wp2_with fail
      exact HN
end Go.Proofs.YtkaokfmaecdkiaaGreatDoor
namespace Go.Proofs.YtkaokfmaecdkiaaGreatDoor

namespace Nt
open Fq El
/-- A row's last number, so many links done; Pre: what stood before. -/
structure Rk (n : Net) (Z Pre : Prop) (v i : Nat) (z : Int) (x : Int × Int) : Prop where
  zp : z = 0 ∨ (z = 5 ∧ ¬ Z)
  rx : R x
  ok : z = 0 → Pre ∧ x = (rhsTo n v i, 1) ∧ RhsOk n v i
theorem whole_fq {g : Int} (h : Fits g) : code (g, 1) = 0 ∧ val (g, 1) = (g, 1) ∧ R (g, 1) := by
  obtain ⟨h1, h2, h3, h4⟩ := whole_ok h.1 h.2
  exact ⟨h1, by unfold val; rw [h2, h3], h4⟩
theorem fits_of {g : Int} (h : code (g, 1) = 0) : Fits g := by
  have h1 := val_right (q := (g, 1)) (by show (1 : Int) ≠ 0; omega)
  by_cases hb : g = -9223372036854775808
  · subst hb
    exfalso
    revert h
    decide
  · have h2 := h1 hb (by show (1 : Int) ≠ _; omega) h
    have e : M.lowN g 1 = g := by
      unfold M.lowN
      rw [if_neg (by omega)]
      simp
    have e2 : (val (g, 1)).1 = g := by
      unfold val M.oN
      have h' : M.codeF g 1 = 0 := h
      rw [if_pos h', e]
    have := h2.bd.2
    rw [e2] at this
    exact this
section
variable {n : Net} {Z Pre : Prop} {v i : Nat} {z : Int} {x : Int × Int}
theorem Rk.start (hr : Right n) (hv : v < nn n) (hz : z = 0 ∨ (z = 5 ∧ ¬ Z)) (hp : z = 0 → Pre) : Rk n Z Pre v 0 (tkz (-n.W v, 1) z) (tkv (-n.W v, 1)) := by
  have hw := hr.w v (by have := hr.wn; have := hr.nn.1; omega)
  unfold wantOk at hw
  have hf : Fits (-n.W v) := ⟨by omega, by omega⟩
  obtain ⟨h1, h2, h3⟩ := whole_fq hf
  rw [tkz_ok h1, tkv_ok h1, h2]
  refine ⟨hz, h3, fun e => ⟨hp e, rfl, fun j hj => ?_⟩⟩
  obtain rfl : j = 0 := by omega
  exact hf
theorem Rk.same (h : Rk n Z Pre v i z x) (h0 : rhsAt n v i = 0) : Rk n Z Pre v (i + 1) z x := by
  refine ⟨h.zp, h.rx, fun e => ?_⟩
  obtain ⟨p, e1, e2⟩ := h.ok e
  have e3 : rhsTo n v (i + 1) = rhsTo n v i := by rw [rhsTo, h0, Int.add_zero]
  refine ⟨p, by rw [e3]; exact e1, fun j hj => ?_⟩
  by_cases ej : j = i + 1
  · subst ej; rw [e3]; exact e2 i (Nat.le_refl _)
  · exact e2 j (by omega)
theorem Rk.more (h : Rk n Z Pre v i z x) (hr : Right n) (hi : i < n.ln) (hZ : Z → RhsOk n v (i + 1)) {p q : Int × Int} (hp : p = (rhsAt n v i, 1)) (hq : q = add x (tkv p)) : Rk n Z Pre v (i + 1) (tkz q (tkz p z)) (tkv q) := by
  have hb := rhsAt_bd hr (v := v) hi
  obtain ⟨h1, h2, h3⟩ := whole_fq (g := rhsAt n v i) ⟨by omega, by omega⟩
  rw [← hp] at h1 h2 h3
  have ev : tkv p = p := by rw [tkv_ok h1, h2]
  rw [ev] at hq
  have hfit := add_fit h.rx h3
  rw [← hq] at hfit
  have hR : R (tkv q) := tkv_right hfit
  rw [tkz_ok h1]
  rcases h.zp with hz | ⟨rfl, hz⟩
  · subst hz
    obtain ⟨pr, e1, e2⟩ := h.ok rfl
    have eq : q = (rhsTo n v (i + 1), 1) := by
      rw [hq, e1, hp]
      unfold add
      show (rhsTo n v i * 1 + rhsAt n v i * 1, 1 * 1) = _
      rw [Int.mul_one, Int.mul_one, Int.mul_one]
      rfl
    by_cases hc : code q = 0
    · have hf : Fits (rhsTo n v (i + 1)) := fits_of (by rw [← eq]; exact hc)
      obtain ⟨_, g2, _⟩ := whole_fq hf
      rw [tkz_ok hc]
      refine ⟨Or.inl rfl, hR, fun _ => ⟨pr, by rw [tkv_ok hc, eq, g2], fun j hj => ?_⟩⟩
      by_cases ej : j = i + 1
      · subst ej; exact hf
      · exact e2 j (by omega)
    · have e : tkz q 0 = 5 := if_neg hc
      rw [e]
      exact ⟨Or.inr ⟨rfl, fun hz => hc (by rw [eq]; exact (whole_fq ((hZ hz) (i + 1) (Nat.le_refl _))).1)⟩, hR, fun e => by cases e⟩
  · rw [tkz_five]
    exact ⟨Or.inr ⟨rfl, hz⟩, hR, fun e => by cases e⟩
end
/-- The node at a link's other end. -/
def Oth (n : Net) (v i o : Nat) : Prop := (fr n i = v ∧ o = tt n i) ∨ (fr n i ≠ v ∧ tt n i = v ∧ o = fr n i)
theorem coef_none {n : Net} {v i : Nat} (h1 : fr n i ≠ v) (h2 : tt n i ≠ v) (u : Nat) : coefTo n v u (i + 1) = coefTo n v u i ∧ rhsAt n v i = 0 := by
  refine ⟨?_, ?_⟩
  · rw [coefTo]
    unfold coefAt
    rw [if_neg h1, if_neg h2, Int.add_zero]
  · unfold rhsAt
    rw [if_neg h1, if_neg h2]
theorem coef_self {n : Net} {v i o : Nat} (h : Oth n v i o) : coefTo n v v (i + 1) = coefTo n v v i + n.L (i * 3 + 2) := by
  rw [coefTo]
  unfold coefAt
  rcases h with ⟨h1, _⟩ | ⟨h1, h2, _⟩
  · rw [if_pos h1, if_pos rfl]
  · rw [if_neg h1, if_pos h2, if_pos rfl]
theorem coef_oth {n : Net} {v i o : Nat} (h : Oth n v i o) (hne : o ≠ v) : coefTo n v o (i + 1) = coefTo n v o i - n.L (i * 3 + 2) := by
  rw [coefTo]
  unfold coefAt
  rcases h with ⟨h1, rfl⟩ | ⟨h1, h2, rfl⟩
  · rw [if_pos h1, if_neg hne, if_pos rfl, Int.sub_eq_add_neg]
  · rw [if_neg h1, if_pos h2, if_neg hne, if_pos rfl, Int.sub_eq_add_neg]
theorem coef_else {n : Net} {v i o u : Nat} (h : Oth n v i o) (hu : u ≠ v) (ho : u ≠ o) : coefTo n v u (i + 1) = coefTo n v u i := by
  rw [coefTo]
  unfold coefAt
  rcases h with ⟨h1, rfl⟩ | ⟨h1, h2, rfl⟩
  · rw [if_pos h1, if_neg hu, if_neg ho, Int.add_zero]
  · rw [if_neg h1, if_pos h2, if_neg hu, if_neg ho, Int.add_zero]
theorem rhs_free {n : Net} {v i o : Nat} (h : Oth n v i o) (hf : fixed n o = false) : rhsAt n v i = 0 := by
  unfold rhsAt
  rcases h with ⟨h1, rfl⟩ | ⟨h1, h2, rfl⟩
  · rw [if_pos h1, hf]; rfl
  · rw [if_neg h1, if_pos h2, hf]; rfl
theorem rhs_fixed {n : Net} {v i o : Nat} (h : Oth n v i o) (hf : fixed n o = true) : rhsAt n v i = n.L (i * 3 + 2) * (kh n n.fn o).1 := by
  unfold rhsAt
  rcases h with ⟨h1, rfl⟩ | ⟨h1, h2, rfl⟩
  · rw [if_pos h1, if_pos hf]
  · rw [if_neg h1, if_pos h2, if_pos hf]
/-- The numbers of a row, link by link. -/
def Wh (n : Net) (v i : Nat) (wh : Nat → Int) : Prop := ∀ k, k < mm n → wh k = coefTo n v (nd n k) i
theorem Wh.none {n : Net} {v i : Nat} {wh : Nat → Int} (h : Wh n v i wh) (h1 : fr n i ≠ v) (h2 : tt n i ≠ v) : Wh n v (i + 1) wh := fun k hk => (h k hk).trans (coef_none h1 h2 _).1.symm
theorem Wh.fixed {n : Net} {v i o r : Nat} {wh : Nat → Int} (h : Wh n v i wh) (hr : r < mm n) (hv : nd n r = v) (ho : Oth n v i o) (hf : fixed n o = true) : Wh n v (i + 1) (updI wh r (wh r + n.L (i * 3 + 2))) := by
  intro k hk
  unfold updI
  by_cases e : k = r
  · subst e; rw [if_pos rfl, h k hk, hv, coef_self ho]
  · rw [if_neg e, h k hk, coef_else ho (fun e2 => e (nd_inj hk hr (e2.trans hv.symm))) (fun e2 => by have := (nd_lt hk).2; rw [e2, hf] at this; cases this)]
theorem Wh.free {n : Net} {v i o r s : Nat} {wh : Nat → Int} (h : Wh n v i wh) (hr : r < mm n) (hs : s < mm n) (hv : nd n r = v) (ho : Oth n v i o) (hne : o ≠ v) (hso : nd n s = o) : Wh n v (i + 1) (updI (updI wh r (wh r + n.L (i * 3 + 2))) s (updI wh r (wh r + n.L (i * 3 + 2)) s - n.L (i * 3 + 2))) := by
  intro k hk
  have hrs : s ≠ r := fun e => hne (by rw [← hso, e, hv])
  unfold updI
  by_cases e : k = s
  · subst e; rw [if_pos rfl, if_neg hrs, h k hk, hso, coef_oth ho hne]
  · rw [if_neg e]
    by_cases e2 : k = r
    · subst e2; rw [if_pos rfl, h k hk, hv, coef_self ho]
    · rw [if_neg e2, h k hk, coef_else ho (fun e3 => e2 (nd_inj hk hr (e3.trans hv.symm))) (fun e3 => e (nd_inj hk hs (e3.trans hso.symm)))]
end Nt
end Go.Proofs.YtkaokfmaecdkiaaGreatDoor
namespace Go.Proofs.YtkaokfmaecdkiaaGreatDoor
open Go Go.RowKit Go.Deep

/-- What is only read while the rows are made. -/
structure St2 (n : Nt.Net) (la : Option Addr) (lk : Nat) (fa : Option Addr) (fk : Nat) (wa : Option Addr) (wk gc gn : Nat) (na : Option Addr) (w W : World) : Prop where
  row : W.rowIs w.heap.size 27 4 (rowN (ntL n la lk fa fk wa wk))
  old : Below w.heap.size w W
  nu : IsBlk 3 gn (Nt.nn n) (noF n) W
  nod : IsAt na (Nt.mm n) (fun r => (Nt.nd n r : Int)) W
  num : w.heap.size < gc ∧ gc ≠ gn ∧ ∀ b, na = some ⟨b, 0, none⟩ → b ≠ gc
theorem St2.keep {n : Nt.Net} {la : Option Addr} {lk : Nat} {fa : Option Addr} {fk : Nat} {wa : Option Addr} {wk gc gn : Nat} {na : Option Addr} {w b W : World} (h : St2 n la lk fa fk wa wk gc gn na w b) (hf : Fr2 gc b.heap.size b W) : St2 n la lk fa fk wa wk gc gn na w W := by
  have hn := h.num
  refine ⟨h.row.of_block (hf.block _ h.row.lt (by omega)), ⟨hf.os.trans h.old.os, hf.tape.trans h.old.tape, hf.output.trans h.old.output, Nat.le_trans h.old.size hf.size, fun k hk => (hf.block k (Nat.lt_of_lt_of_le hk h.old.size) (by omega)).trans (h.old.block k hk)⟩, h.nu.block (hf.block _ h.nu.lt (by omega)), h.nod.same (fun b e hl => hf.block b hl (hn.2.2 b e)), h.num⟩
/-- A row in the making: its numbers, its last number, the fault; all else as in b. -/
structure R3 (gc gw gt m : Nat) (wh : Nat → Int) (x : Int × Int) (z : Int) (b W : World) : Prop where
  wh : IsBlk 2 gw m wh W
  bx : W.rowIs gt 35 2 (rowN [.int .i64 x.1, .int .i64 x.2])
  rc : W.rowIs gc 59 1 (rowN [.int .i64 z])
  fr : Fr2 gc b.heap.size b W
  lo : b.heap.size ≤ gw ∧ b.heap.size ≤ gt ∧ gc < b.heap.size ∧ gw ≠ gt
section
variable {gc gw gt m : Nat} {wh : Nat → Int} {x : Int × Int} {z : Int} {b W W' : World}
theorem R3.below (h : R3 gc gw gt m wh x z b W) (hb : Below W.heap.size W W') : R3 gc gw gt m wh x z b W' := ⟨h.wh.below hb, nrow_below h.bx hb, nrow_below h.rc hb, h.fr.trans (Fr2.of_below hb h.fr.size), h.lo⟩
theorem R3.take {z' : Int} (h : R3 gc gw gt m wh x z b W) (hr : W'.rowIs gc 59 1 (rowN [.int .i64 z'])) (ho : Only gc W W') : R3 gc gw gt m wh x z' b W' :=
  have hl := h.lo
  ⟨h.wh.block (ho.block _ h.wh.lt (by omega)), h.bx.of_block (ho.block _ h.bx.lt (by omega)), hr, h.fr.trans (Fr2.of_only ho h.fr.size), h.lo⟩
theorem R3.wset (h : R3 gc gw gt m wh x z b W) (i : Nat) (y : Int) : R3 gc gw gt m (updI wh i y) x z b (W.setCell ⟨gw, i, none⟩ (.int .i64 y)) :=
  have hl := h.lo
  ⟨h.wh.set i y, nrow_set h.bx (p := ⟨gw, i, none⟩) (by show gt ≠ gw; omega) _, nrow_set h.rc (p := ⟨gw, i, none⟩) (by show gc ≠ gw; omega) _, h.fr.put (p := ⟨gw, i, none⟩) hl.1 _, h.lo⟩
theorem R3.box (h : R3 gc gw gt m wh x z b W) (y : Int × Int) : R3 gc gw gt m wh y z b ((W.setCell ⟨gt, 0, none⟩ (.int .i64 y.1)).setCell ⟨gt, 1, none⟩ (.int .i64 y.2)) :=
  have hl := h.lo
  ⟨h.wh.block ((Below.heap_setCell _ ⟨gt, 1, none⟩ _ _ hl.2.2.2).trans (Below.heap_setCell _ ⟨gt, 0, none⟩ _ _ hl.2.2.2)), rowN_put (rowN_put h.bx 0 (.int .i64 y.1) (by simp)) 1 (.int .i64 y.2) (by simp), nrow_set (nrow_set h.rc (p := ⟨gt, 0, none⟩) (by show gc ≠ gt; omega) _) (p := ⟨gt, 1, none⟩) (by show gc ≠ gt; omega) _, (h.fr.put (p := ⟨gt, 0, none⟩) hl.2.1 _).put (p := ⟨gt, 1, none⟩) hl.2.1 _, h.lo⟩
/-- A link beside the row. -/
structure Lx (gc gw gt gl : Nat) (a b c : Int) (W : World) : Prop where
  row : W.rowIs gl 68 3 (rowN [.int .i64 a, .int .i64 b, .int .i64 c])
  ne : gl ≠ gc ∧ gl ≠ gw ∧ gl ≠ gt
theorem Lx.below {gl : Nat} {p q r : Int} (h : Lx gc gw gt gl p q r W) (hb : Below W.heap.size W W') : Lx gc gw gt gl p q r W' := ⟨nrow_below h.row hb, h.ne⟩
theorem Lx.only {gl : Nat} {p q r : Int} (h : Lx gc gw gt gl p q r W) (hb : Only gc W W') : Lx gc gw gt gl p q r W' := ⟨h.row.of_block (hb.block _ h.row.lt h.ne.1), h.ne⟩
theorem Lx.wset {gl : Nat} {p q r : Int} (h : Lx gc gw gt gl p q r W) (i : Nat) (y : Value) : Lx gc gw gt gl p q r (W.setCell ⟨gw, i, none⟩ y) := ⟨nrow_set h.row (p := ⟨gw, i, none⟩) h.ne.2.1 _, h.ne⟩
theorem Lx.box {gl : Nat} {p q r : Int} (h : Lx gc gw gt gl p q r W) (i j : Nat) (u v : Value) : Lx gc gw gt gl p q r ((W.setCell ⟨gt, i, none⟩ u).setCell ⟨gt, j, none⟩ v) := ⟨nrow_set (nrow_set h.row (p := ⟨gt, i, none⟩) h.ne.2.2 _) (p := ⟨gt, j, none⟩) h.ne.2.2 _, h.ne⟩
end
end Go.Proofs.YtkaokfmaecdkiaaGreatDoor
namespace Go.Proofs.YtkaokfmaecdkiaaGreatDoor
open Go Go.RowKit Go.Deep

section
variable {gc gw gt m : Nat} {wh : Nat → Int} {x : Int × Int} {z : Int} {b W W' : World}
/-- A row whose numbers alone are laid. -/
structure R2 (gc gw m : Nat) (wh : Nat → Int) (z : Int) (b W : World) : Prop where
  wh : IsBlk 2 gw m wh W
  rc : W.rowIs gc 59 1 (rowN [.int .i64 z])
  fr : Fr2 gc b.heap.size b W
  lo : b.heap.size ≤ gw ∧ gc < b.heap.size
theorem R2.below (h : R2 gc gw m wh z b W) (hb : Below W.heap.size W W') : R2 gc gw m wh z b W' := ⟨h.wh.below hb, nrow_below h.rc hb, h.fr.trans (Fr2.of_below hb h.fr.size), h.lo⟩
theorem R2.take {z' : Int} (h : R2 gc gw m wh z b W) (hr : W'.rowIs gc 59 1 (rowN [.int .i64 z'])) (ho : Only gc W W') : R2 gc gw m wh z' b W' :=
  have hl := h.lo
  ⟨h.wh.block (ho.block _ h.wh.lt (by omega)), hr, h.fr.trans (Fr2.of_only ho h.fr.size), h.lo⟩
end
end Go.Proofs.YtkaokfmaecdkiaaGreatDoor
namespace Go.Proofs.YtkaokfmaecdkiaaGreatDoor
open Go Go.RowKit Go.Deep

/-- A row in the making, so many of its numbers told as fractions. -/
structure R4 (lo gc gw gt m : Nat) (wh : Nat → Int) (x : Int × Int) (z : Int) (k : Nat) (v : Value) (b W : World) : Prop where
  r : R3 gc gw gt m wh x z b W
  own : W.ownsRow lo 35 2 v k (frVs (fun j => (wh j, 1)) k)
  lt : gw < lo ∧ gt < lo ∧ b.heap.size ≤ lo
  ls : lo ≤ W.heap.size
section
variable {lo gc gw gt m : Nat} {wh : Nat → Int} {x : Int × Int} {z : Int} {k : Nat} {v : Value} {b W W' : World}
theorem R4.below (h : R4 lo gc gw gt m wh x z k v b W) (hb : Below W.heap.size W W') : R4 lo gc gw gt m wh x z k v b W' := ⟨h.r.below hb, lpown_below h.own hb, h.lt, Nat.le_trans h.ls hb.size⟩
theorem R4.take {z' : Int} (h : R4 lo gc gw gt m wh x z k v b W) (hr : W'.rowIs gc 59 1 (rowN [.int .i64 z'])) (ho : Only gc W W') : R4 lo gc gw gt m wh x z' k v b W' :=
  have hl := h.r.lo
  have ht := h.lt
  ⟨h.r.take hr ho, lpown_block h.own (fun j e hj => ho.block j hj (by have := (World.ownsRow.lt h.own j e).1; omega)), h.lt, Nat.le_trans h.ls ho.size⟩
theorem R4.push {v' : Value} {q : Int × Int} (h : R4 lo gc gw gt m wh x z k v b W) (hq : q = (wh k, 1)) (ho : W'.ownsRow lo 35 2 v' (k + 1) (frVs (fun j => (wh j, 1)) k ++ [.int .i64 q.1, .int .i64 q.2])) (hg : W.grownBy W' v.ownBlock) : R4 lo gc gw gt m wh x z (k + 1) v' b W' := by
  have hl := h.r.lo
  have ht := h.lt
  have ne : ∀ j, v.ownBlock = some j → lo ≤ j := fun j e => (World.ownsRow.lt h.own j e).1
  have blk : ∀ j, j < W.heap.size → j < lo → W'.heap[j]? = W.heap[j]? := fun j h1 h2 => hg.block j h1 (fun e => by have := ne j e.symm; omega)
  have hls := h.ls
  refine ⟨⟨h.r.wh.block (blk _ h.r.wh.lt ht.1), h.r.bx.of_block (blk _ h.r.bx.lt ht.2.1), h.r.rc.of_block (blk _ h.r.rc.lt (by omega)), ⟨hg.os.trans h.r.fr.os, hg.tape.trans h.r.fr.tape, hg.output.trans h.r.fr.output, Nat.le_trans h.r.fr.size hg.size, fun j h1 h2 => (blk j (by omega) (by omega)).trans (h.r.fr.block j h1 h2)⟩, h.r.lo⟩, ?_, h.lt, Nat.le_trans h.ls hg.size⟩
  rw [frVs_succ]
  rw [hq] at ho
  exact ho
end
set_option maxRecDepth 100000 in
set_option maxHeartbeats 32000000 in
theorem sloop4 (lo gc gw gt m : Nat) (wh : Nat → Int) (x : Int × Int) (z : Int) (b : World) (v0 : Value) (x0 x1 x2 x3 x5 x6 x7 x9 x10 x12 x13 x14 x15 x18 x19 x20 x21 x22 x23 x24 x25 x26 x27 x28 x29 x30 x31 x32 x33 x34 x35 x36 x37 x38 x39 x40 x41 x42 x43 x44 x45 x46 x47 x48 x49 x50 x51 x52 x53 x54 x55 x56 x57 x58 x59 x60 x61 x62 x63 x64 x65 x66 x67 x68 x69 x70 x71 x72 x73 x74 x75 x76 x77 x78 x79 x80 x81 x82 x83 x84 x85 x86 x87 x88 x89 x90 x91 x92 x93 x94 x95 x96 x97 x98 x99 x100 x101 x102 x103 x104 x105 x106 x107 x108 x109 x110 x111 x112 x113 x114 x115 x116 x117 x118 x119 x120 x121 x122 x123 x124 x125 x126 x127 x128 x129 x130 x131 x132 x133 x134 x135 x136 x137 x138 x139 x140 x141 x142 x143 x144 x145 x146 x147 x148 x149 x150 x151 x152 x153 x154 x155 x156 x157 x158 x159 x160 x161 x162 x163 x164 x165 x166 x167 x168 x169 x170 x171 x172 x173 x174 x175 x176 x177 x178 x179 x180 x181 x182 x183 x184 x185 x186 x187 x188 x189 x190 x191 x192 x193 x194 x195 x196 x197 x198 x199 x200 x201 x202 x203 x204 x205 x206 x207 x208 x209 x210 x211 x212 x213 x214 x215 x216 x217 x218 x219 x220 x221 x222 x223 x224 x225 x226 x227 x228 x229 x230 x231 x232 x233 x234 x235 x236 x237 x238 x239 x240 x241 x242 x243 x244 x245 x246 x247 x248 x249 x250 x251 x252 x253 x254 x255 x256 x257 x258 x259 x260 x261 x262 x263 x264 x265 x266 x267 x268 x269 x270 x271 x272 x273 x274 x275 x276 x277 x278 x279 x280 x281 x282 x283 x284 x285 x286 x287 x288 x289 x290 x291 x292 x293 x294 x295 x296 x297 x298 x299 x300 x301 x302 x303 x304 x305 x306 x307 x308 x309 x310 x311 x312 x313 x314 x315 x316 x317 x318 x319 x320 x321 x322 x323 x324 x325 x326 x327 x328 x329 x330 x331 x332 x333 x334 x335 x336 x337 x338 x339 x340 x341 x342 x343 x344 x345 x346 x347 x348 x349 x350 x351 x352 x353 x354 x355 x356 x357 x358 x359 x360 x361 x362 x363 x364 x365 x366 x367 x368 x369 x370 x371 x372 x373 x374 x375 x376 : Value) (ds : _) (Q : Exit → Act → World → Prop) (W0 : World)
    (HR : Hid (R4 lo gc gw gt m wh x z 0 v0 b W0)) (HF : Hid (∀ k, k < m → Nt.Fits (wh k))) (HM : Hid (m ≤ 100))
    (hQ : ∀ (y17 y173 y174 y175 y176 y177 y178 y179 y180 y181 y182 y183 y184 y185 y186 y187 : Value) (WZ : World) (v : Value), Hid (R4 lo gc gw gt m wh x z m v b WZ) → Q (.exit 6) { tmps := #[x0, x1, x2, x3, (.pointer (some ⟨gc, 0, none⟩)), x5, x6, x7, (.int .i64 m), x9, x10, (.slice (some ⟨gw, 0, none⟩) m m), x12, x13, x14, x15, v, y17, x18, x19, x20, x21, x22, x23, x24, x25, x26, x27, x28, x29, x30, x31, x32, x33, x34, x35, x36, x37, x38, x39, x40, x41, x42, x43, x44, x45, x46, x47, x48, x49, x50, x51, x52, x53, x54, x55, x56, x57, x58, x59, x60, x61, x62, x63, x64, x65, x66, x67, x68, x69, x70, x71, x72, x73, x74, x75, x76, x77, x78, x79, x80, x81, x82, x83, x84, x85, x86, x87, x88, x89, x90, x91, x92, x93, x94, x95, x96, x97, x98, x99, x100, x101, x102, x103, x104, x105, x106, x107, x108, x109, x110, x111, x112, x113, x114, x115, x116, x117, x118, x119, x120, x121, x122, x123, x124, x125, x126, x127, x128, x129, x130, x131, x132, x133, x134, x135, x136, x137, x138, x139, x140, x141, x142, x143, x144, x145, x146, x147, x148, x149, x150, x151, x152, x153, x154, x155, x156, x157, x158, x159, x160, x161, x162, x163, x164, x165, x166, x167, x168, x169, x170, x171, x172, y173, y174, y175, y176, y177, y178, y179, y180, y181, y182, y183, y184, y185, y186, y187, x188, x189, x190, x191, x192, x193, x194, x195, x196, x197, x198, x199, x200, x201, x202, x203, x204, x205, x206, x207, x208, x209, x210, x211, x212, x213, x214, x215, x216, x217, x218, x219, x220, x221, x222, x223, x224, x225, x226, x227, x228, x229, x230, x231, x232, x233, x234, x235, x236, x237, x238, x239, x240, x241, x242, x243, x244, x245, x246, x247, x248, x249, x250, x251, x252, x253, x254, x255, x256, x257, x258, x259, x260, x261, x262, x263, x264, x265, x266, x267, x268, x269, x270, x271, x272, x273, x274, x275, x276, x277, x278, x279, x280, x281, x282, x283, x284, x285, x286, x287, x288, x289, x290, x291, x292, x293, x294, x295, x296, x297, x298, x299, x300, x301, x302, x303, x304, x305, x306, x307, x308, x309, x310, x311, x312, x313, x314, x315, x316, x317, x318, x319, x320, x321, x322, x323, x324, x325, x326, x327, x328, x329, x330, x331, x332, x333, x334, x335, x336, x337, x338, x339, x340, x341, x342, x343, x344, x345, x346, x347, x348, x349, x350, x351, x352, x353, x354, x355, x356, x357, x358, x359, x360, x361, x362, x363, x364, x365, x366, x367, x368, x369, x370, x371, x372, x373, x374, x375, x376], defers := ds } WZ) :
    ((((Code.region 39 #[{ dst := some 173, op := Op.move (Operand.tmp 17), type := 3, pos := "l07_linear.go:112", after := #[], guard := none }, { dst := some 174, op := Op.move (Operand.tmp 8), type := 3, pos := "l07_linear.go:112", after := #[], guard := none }, { dst := some 175, op := Op.binOp BinOp.lss 3 (Operand.tmp 173) (Operand.tmp 174) 3, type := 4, pos := "l07_linear.go:112", after := #[{ on := 0, ground := Ground.data }, { on := 1, ground := Ground.data }], guard := none }] false).seq (Code.cond (Operand.tmp 175) Code.skip (Code.exit 6))).seq ((Code.block 7 (Code.region 41 #[{ dst := some 178, op := Op.move (Operand.tmp 16), type := 29, pos := "l07_linear.go:113", after := #[], guard := none }, { dst := some 179, op := Op.move (Operand.tmp 4), type := 57, pos := "l07_linear.go:113", after := #[], guard := none }, { dst := some 180, op := Op.move (Operand.tmp 11), type := 25, pos := "l07_linear.go:113", after := #[], guard := none }, { dst := some 181, op := Op.move (Operand.tmp 17), type := 3, pos := "l07_linear.go:113", after := #[], guard := none }, { dst := some 182, op := Op.indexAddr 25 (Operand.tmp 180) (Operand.tmp 181), type := 0, pos := "l07_linear.go:113", after := #[{ on := 2, ground := Ground.data }, { on := 3, ground := Ground.data }], guard := none }, { dst := some 183, op := Op.load 2 (Operand.tmp 182), type := 2, pos := "l07_linear.go:113", after := #[{ on := 4, ground := Ground.data }], guard := none }, { dst := some 184, op := Op.call { callee := Callee.value (Operand.func 25), args := #[Operand.tmp 183, Operand.const (Value.int IntKind.i64 1)], argTypes := #[2, 2] }, type := 65, pos := "l07_linear.go:113", after := #[{ on := 5, ground := Ground.data }], guard := none }, { dst := some 185, op := Op.call { callee := Callee.value (Operand.func 24), args := #[Operand.tmp 179, Operand.tmp 184], argTypes := #[57, 65] }, type := 35, pos := "l07_linear.go:113", after := #[{ on := 1, ground := Ground.data }, { on := 6, ground := Ground.data }, { on := 6, ground := Ground.chain }], guard := none }, { dst := some 186, op := Op.buildSlice 29 1 #[(0, Operand.tmp 185)], type := 29, pos := "l07_linear.go:113", after := #[{ on := 7, ground := Ground.data }], guard := none }, { dst := some 187, op := Op.call { callee := Callee.builtin Builtin.append, args := #[Operand.tmp 178, Operand.tmp 186], argTypes := #[29, 29] }, type := 29, pos := "l07_linear.go:113", after := #[{ on := 0, ground := Ground.data }, { on := 8, ground := Ground.data }, { on := 7, ground := Ground.chain }], guard := none }, { dst := some 16, op := Op.assign (Operand.tmp 187), type := 29, pos := "l07_linear.go:113", after := #[{ on := 9, ground := Ground.data }, { on := 9, ground := Ground.chain }, { on := 0, ground := Ground.phase }, { on := 1, ground := Ground.phase }, { on := 2, ground := Ground.phase }, { on := 3, ground := Ground.phase }, { on := 4, ground := Ground.phase }, { on := 5, ground := Ground.phase }, { on := 6, ground := Ground.phase }, { on := 7, ground := Ground.phase }, { on := 8, ground := Ground.phase }, { on := 9, ground := Ground.phase }], guard := none }] false)).seq (Code.region 40 #[{ dst := some 176, op := Op.move (Operand.tmp 17), type := 3, pos := "l07_linear.go:112", after := #[], guard := none }, { dst := some 177, op := Op.binOp BinOp.add 3 (Operand.tmp 176) (Operand.const (Value.int IntKind.i64 1)) 3, type := 3, pos := "l07_linear.go:112", after := #[{ on := 0, ground := Ground.data }], guard := none }, { dst := some 17, op := Op.assign (Operand.tmp 177), type := 3, pos := "l07_linear.go:112", after := #[{ on := 1, ground := Ground.data }, { on := 0, ground := Ground.phase }, { on := 1, ground := Ground.phase }], guard := none }] false))).loop).wp Tryz.prog Q { tmps := #[x0, x1, x2, x3, (.pointer (some ⟨gc, 0, none⟩)), x5, x6, x7, (.int .i64 m), x9, x10, (.slice (some ⟨gw, 0, none⟩) m m), x12, x13, x14, x15, v0, (.int .i64 0), x18, x19, x20, x21, x22, x23, x24, x25, x26, x27, x28, x29, x30, x31, x32, x33, x34, x35, x36, x37, x38, x39, x40, x41, x42, x43, x44, x45, x46, x47, x48, x49, x50, x51, x52, x53, x54, x55, x56, x57, x58, x59, x60, x61, x62, x63, x64, x65, x66, x67, x68, x69, x70, x71, x72, x73, x74, x75, x76, x77, x78, x79, x80, x81, x82, x83, x84, x85, x86, x87, x88, x89, x90, x91, x92, x93, x94, x95, x96, x97, x98, x99, x100, x101, x102, x103, x104, x105, x106, x107, x108, x109, x110, x111, x112, x113, x114, x115, x116, x117, x118, x119, x120, x121, x122, x123, x124, x125, x126, x127, x128, x129, x130, x131, x132, x133, x134, x135, x136, x137, x138, x139, x140, x141, x142, x143, x144, x145, x146, x147, x148, x149, x150, x151, x152, x153, x154, x155, x156, x157, x158, x159, x160, x161, x162, x163, x164, x165, x166, x167, x168, x169, x170, x171, x172, x173, x174, x175, x176, x177, x178, x179, x180, x181, x182, x183, x184, x185, x186, x187, x188, x189, x190, x191, x192, x193, x194, x195, x196, x197, x198, x199, x200, x201, x202, x203, x204, x205, x206, x207, x208, x209, x210, x211, x212, x213, x214, x215, x216, x217, x218, x219, x220, x221, x222, x223, x224, x225, x226, x227, x228, x229, x230, x231, x232, x233, x234, x235, x236, x237, x238, x239, x240, x241, x242, x243, x244, x245, x246, x247, x248, x249, x250, x251, x252, x253, x254, x255, x256, x257, x258, x259, x260, x261, x262, x263, x264, x265, x266, x267, x268, x269, x270, x271, x272, x273, x274, x275, x276, x277, x278, x279, x280, x281, x282, x283, x284, x285, x286, x287, x288, x289, x290, x291, x292, x293, x294, x295, x296, x297, x298, x299, x300, x301, x302, x303, x304, x305, x306, x307, x308, x309, x310, x311, x312, x313, x314, x315, x316, x317, x318, x319, x320, x321, x322, x323, x324, x325, x326, x327, x328, x329, x330, x331, x332, x333, x334, x335, x336, x337, x338, x339, x340, x341, x342, x343, x344, x345, x346, x347, x348, x349, x350, x351, x352, x353, x354, x355, x356, x357, x358, x359, x360, x361, x362, x363, x364, x365, x366, x367, x368, x369, x370, x371, x372, x373, x374, x375, x376], defers := ds } W0 := by
  have hm' := HM.out
  obtain ⟨i0, hi0, hi1, hi2, hi3⟩ := info_parts ninfo_fr
  dsimp only
  go_loopw [16, 17] (fun v kv wr => ∃ (k : Nat), kv = .int .i64 k ∧ k ≤ m ∧ Hid (R4 lo gc gw gt m wh x z k v b wr)) (fun _ kv _ => m - (intOf kv).toNat)
  case atStart => exact ⟨0, rfl, Nat.zero_le _, HR⟩
  case round =>
    obtain ⟨k, rfl, hkm, hR⟩ := hrel
    clear HR
    obtain ⟨W1, hW1⟩ : ∃ W, W = wr := ⟨_, rfl⟩
    rw [← hW1] at hR ⊢
    clear hW1
    have HR := hR
    clear hR
    obtain ⟨a1, c1, rfl⟩ := lpown_shape HR.out.own
    by_cases hk : k < m
    · have hkz : (k : Int) < (m : Int) := by omega
      have l0 := HR.out.r.wh.cell (i := k) hk
      have hfit := HF.out k hk
      obtain ⟨y, hy⟩ : ∃ y, y = wh k := ⟨_, rfl⟩
      rw [← hy] at l0 hfit
      have HY := Lib.hid hy
      clear hy
      obtain ⟨g1, g2, g3⟩ := Nt.whole_fq hfit
      have ez : Fq.tkz (y, 1) z = z := Fq.tkz_ok g1 z
      have ev : Fq.tkv (y, 1) = (y, 1) := by rw [Fq.tkv_ok g1, g2]
      have HV1 : Hid (∀ V : World, Calls Tryz.prog 25 #[.int .i64 y, .int .i64 1] V fun e w' => e = .returned (foV (y, 1)) ∧ Below V.heap.size V w') := fun V => specOf_any y 1 V (by have := hfit.1; omega) (by have := hfit.2; omega) (by omega) (by omega)
      have HTK : Hid (∀ V : World, V.rowIs gc 59 1 (rowN [.int .i64 z]) → Calls Tryz.prog 24 #[.pointer (some ⟨gc, 0, none⟩), foV (y, 1)] V fun e w' => e = .returned (frV (y, 1)) ∧ (w'.rowIs gc 59 1 (rowN [.int .i64 z]) ∧ Only gc V w')) := fun V hV => by
        have := take_any gc (y, 1) z V hV
        rw [ez, ev] at this
        exact this
      obtain ⟨q, hq⟩ : ∃ q : Int × Int, q = (y, 1) := ⟨_, rfl⟩
      rw [← hq] at HV1 HTK
      have HQ := Lib.hid hq
      clear hq ez ev g1 g2 g3 hfit
      go_wp2_with fail
      refine (HV1.out _).mono ?_
      rintro e W2 ⟨rfl, hb⟩
      replace HR := Lib.hid (HR.out.below hb)
      clear hb HV1 l0
      go_wp2_with fail
      refine (HTK.out _ HR.out.r.rc).mono ?_
      rintro e W3 ⟨rfl, hrz, hon⟩
      replace HR := Lib.hid (HR.out.take hrz hon)
      clear hrz hon HTK
      have hm := HM.out
      have hq2 : ∀ u ∈ [Value.int .i64 q.1, .int .i64 q.2], u.oneCell' = true := by intro u hu; simp at hu; rcases hu with rfl | rfl <;> rfl
      go_wp2_with (at_builtin; refine wpList_append_own _ rfl _ _ 29 rfl lo 35 i0 (.agg #[.int .i64 0, .int .i64 0]) 2 16 Tryz.underlying29 hi0 hi1 hi2 hi3 rfl (by decide) _ _ _ rfl (World.ownsRow.alloc HR.out.own _) ⟨W3.heap.size, 0, none⟩ 1 1 [.int .i64 q.1, .int .i64 q.2] rfl rfl (ncells2 _ _ _ _) ?d2 ?d3 ?d4 ?d5 ?_)
      case d2 => exact hq2
      case d3 => unfold maxLen; omega
      case d4 => omega
      case d5 => have := HR.out.ls; first | omega | (simp; omega)
      intro va wA hown hgrow _
      have HR5 := Lib.hid ((HR.out.below (nbel_alloc _ _)).push (q := q) (by rw [HQ.out, HY.out]) hown hgrow)
      clear hown hgrow HR hq2
      go_wp2_with fail
      go_roundw
      case rel => exact ⟨k + 1, by go_num, by omega, HR5⟩
      case measure => simp [intOf]; omega
    · obtain rfl : k = m := by omega
      go_wp2_with fail
      first | exact HR | exact hQ _ _ _ _ _ _ _ _ _ _ _ _ _ _ _ _ _ _ HR
end Go.Proofs.YtkaokfmaecdkiaaGreatDoor
namespace Go.Proofs.YtkaokfmaecdkiaaGreatDoor
open Go Go.RowKit Go.Deep

/-- The rows' values. -/
def slVs (m : Nat) (g c : Nat → Nat) (r : Nat) : List Value := (List.range r).map (fun s => .slice (some ⟨g s, 0, none⟩) (m + 1) (c s))
theorem slVs_succ (m : Nat) (g c : Nat → Nat) (r : Nat) : slVs m g c (r + 1) = slVs m g c r ++ [.slice (some ⟨g r, 0, none⟩) (m + 1) (c r)] := by simp [slVs, List.range_succ]
theorem slVs_len (m : Nat) (g c : Nat → Nat) (r : Nat) : (slVs m g c r).length = r := by simp [slVs]
theorem slVs_at (m : Nat) (g c : Nat → Nat) (r s : Nat) (hs : s < r) : (slVs m g c r)[s]? = some (.slice (some ⟨g s, 0, none⟩) (m + 1) (c s)) := by simp [slVs, hs]
def updN (f : Nat → Nat) (r x : Nat) : Nat → Nat := fun s => if s = r then x else f s
theorem updN_eq (f : Nat → Nat) (r x : Nat) : updN f r x r = x := if_pos rfl
theorem updN_ne (f : Nat → Nat) {r s : Nat} (x : Nat) (h : s ≠ r) : updN f r x s = f s := if_neg h
theorem slVs_upd (m : Nat) (g c : Nat → Nat) (r a k : Nat) : slVs m (updN g r a) (updN c r k) r = slVs m g c r := by
  unfold slVs
  refine List.map_congr_left (fun s hs => ?_)
  have h : s ≠ r := by have := List.mem_range.1 hs; omega
  rw [updN_ne g a h, updN_ne c k h]
/-- So many rows, in a list that grows; w0: the world before the list was made. -/
structure Rw (gc m r : Nat) (g c : Nat → Nat) (M : El.Mx) (z : Int) (v : Value) (w0 W : World) : Prop where
  own : W.ownsRow w0.heap.size 29 1 v r (slVs m g c r)
  rows : ∀ s, s < r → IsBlk 35 (g s) ((m + 1) * 2) (Nt.cells2 (M s)) W
  inj : ∀ s t, s < r → t < r → g s = g t → s = t
  lo : ∀ s, s < r → w0.heap.size ≤ g s
  rc : W.rowIs gc 59 1 (rowN [.int .i64 z])
  fr : Fr2 gc w0.heap.size w0 W
  gl : gc < w0.heap.size
def rowOf (m : Nat) (wh : Nat → Int) (x : Int × Int) : Nat → Int × Int := fun j => if j < m then (wh j, 1) else x
theorem rowOf_lt {m : Nat} {wh : Nat → Int} {x : Int × Int} {j : Nat} (h : j < m) : rowOf m wh x j = (wh j, 1) := if_pos h
theorem rowOf_m {m : Nat} {wh : Nat → Int} {x : Int × Int} : rowOf m wh x m = x := if_neg (Nat.lt_irrefl _)
theorem rowOf_vs (m : Nat) (wh : Nat → Int) (x : Int × Int) : frVs (fun j => (wh j, 1)) m ++ [.int .i64 x.1, .int .i64 x.2] = frVs (rowOf m wh x) (m + 1) := by
  rw [frVs_succ, rowOf_m]
  congr 1
  unfold frVs
  have : ∀ (l : List Nat), (∀ j ∈ l, j < m) → l.flatMap (fun j => [Value.int .i64 ((fun j => (wh j, (1 : Int))) j).1, .int .i64 ((fun j => (wh j, (1 : Int))) j).2]) = l.flatMap (fun j => [.int .i64 (rowOf m wh x j).1, .int .i64 (rowOf m wh x j).2]) := by
    intro l
    induction l with
    | nil => intro _; rfl
    | cons a t ih =>
      intro h
      rw [List.flatMap_cons, List.flatMap_cons, ih (fun j hj => h j (List.mem_cons_of_mem _ hj)), rowOf_lt (h a (List.mem_cons_self ..))]
  exact this _ (fun j hj => List.mem_range.1 hj)
/-- A row with its last number. -/
theorem row_own {B m : Nat} {v : Value} {wh : Nat → Int} {x : Int × Int} {W : World} (h : W.ownsRow B 35 2 v (m + 1) (frVs (fun j => (wh j, 1)) m ++ [.int .i64 x.1, .int .i64 x.2])) : ∃ ga ca, v = .slice (some ⟨ga, 0, none⟩) (m + 1) ca ∧ B ≤ ga ∧ IsBlk 35 ga ((m + 1) * 2) (Nt.cells2 (rowOf m wh x)) W := by
  rw [rowOf_vs] at h
  obtain ⟨a, c, e, q⟩ := fr_own h
  rcases q with q | ⟨g, rfl, q1, q2⟩
  · exact absurd q.2.1 (by omega)
  · exact ⟨g, c, e, q1, q2⟩
theorem R4.done {lo gc gw gt m : Nat} {wh : Nat → Int} {x : Int × Int} {z : Int} {k : Nat} {v : Value} {b W B WA : World} (h : R4 lo gc gw gt m wh x z k v b W) (hb : Below W.heap.size W B) (hg : B.grownBy WA v.ownBlock) : Fr2 gc b.heap.size b WA ∧ WA.rowIs gc 59 1 (rowN [.int .i64 z]) := by
  have hl := h.r.lo
  have ht := h.lt
  have hs := h.r.fr.size
  have hs2 := hb.size
  have ne : ∀ j, v.ownBlock = some j → lo ≤ j := fun j e => (World.ownsRow.lt h.own j e).1
  have blk : ∀ j, j < W.heap.size → j < lo → WA.heap[j]? = W.heap[j]? := fun j h1 h2 => (hg.block j (by omega) (fun e => by have := ne j e.symm; omega)).trans (hb.block j h1)
  exact ⟨h.r.fr.trans ⟨hg.os.trans hb.os, hg.tape.trans hb.tape, hg.output.trans hb.output, Nat.le_trans hb.size hg.size, fun j h1 _ => blk j (by omega) (by omega)⟩, h.r.rc.of_block (blk _ h.r.rc.lt (by omega))⟩
section
variable {gc m r : Nat} {g c : Nat → Nat} {M : El.Mx} {z : Int} {v : Value} {w0 W W' : World}
theorem Rw.keep {z' : Int} (h : Rw gc m r g c M z v w0 W) (hf : Fr2 gc W.heap.size W W') (hr : W'.rowIs gc 59 1 (rowN [.int .i64 z'])) : Rw gc m r g c M z' v w0 W' :=
  have hg := h.gl
  have hs := h.fr.size
  ⟨lpown_block h.own (fun k e hl => hf.block k hl (by have := (World.ownsRow.lt h.own k e).1; omega)), fun s hs => (h.rows s hs).block (hf.block _ (h.rows s hs).lt (by have := h.lo s hs; omega)), h.inj, h.lo, hr, h.fr.trans ⟨hf.os, hf.tape, hf.output, hf.size, fun k h1 h2 => hf.block k (by omega) h2⟩, h.gl⟩
theorem Rw.below (h : Rw gc m r g c M z v w0 W) (hb : Below W.heap.size W W') : Rw gc m r g c M z v w0 W' := h.keep (Fr2.of_below hb (Nat.le_refl _)) (nrow_below h.rc hb)
theorem Rw.push {ga ca : Nat} {U : Nat → Int × Int} {v' : Value} (h : Rw gc m r g c M z v w0 W) (hb : IsBlk 35 ga ((m + 1) * 2) (Nt.cells2 U) W) (hlo : w0.heap.size ≤ ga) (hne : ∀ s, s < r → g s ≠ ga) (ho : W'.ownsRow w0.heap.size 29 1 v' (r + 1) (slVs m g c r ++ [.slice (some ⟨ga, 0, none⟩) (m + 1) ca])) (hg : W.grownBy W' v.ownBlock) : Rw gc m (r + 1) (updN g r ga) (updN c r ca) (fun s => if s = r then U else M s) z v' w0 W' := by
  have hgl := h.gl
  have hsz := h.fr.size
  have ne : ∀ j, v.ownBlock = some j → w0.heap.size ≤ j := fun j e => (World.ownsRow.lt h.own j e).1
  have nf : ∀ {k N : Nat} {f : Nat → Int}, IsBlk 35 k N f W → W'.heap[k]? = W.heap[k]? := by
    rintro k N f ⟨m', F, q1, q2, q3⟩
    exact hg.block k q2.lt (lpown_rne h.own q2 (by decide))
  refine ⟨?_, fun s hs => ?_, fun s t hs ht e => ?_, fun s hs => ?_, h.rc.of_block (hg.block _ h.rc.lt (fun e => by have := ne gc e.symm; omega)), h.fr.trans ⟨hg.os, hg.tape, hg.output, hg.size, fun k h1 h2 => hg.block k (by omega) (fun e => by have := ne k e.symm; omega)⟩, h.gl⟩
  · rw [slVs_succ, slVs_upd, updN_eq, updN_eq]
    exact ho
  · by_cases e : s = r
    · subst e
      rw [updN_eq]
      show IsBlk _ _ _ (Nt.cells2 (if s = s then U else M s)) _
      rw [if_pos rfl]
      exact hb.block (nf hb)
    · rw [updN_ne g ga e]
      show IsBlk _ _ _ (Nt.cells2 (if s = r then U else M s)) _
      rw [if_neg e]
      have q := h.rows s (by omega)
      exact q.block (nf q)
  · by_cases e1 : s = r
    · by_cases e2 : t = r
      · omega
      · subst e1
        rw [updN_eq, updN_ne g ga e2] at e
        exact absurd e.symm (hne t (by omega))
    · by_cases e2 : t = r
      · subst e2
        rw [updN_eq, updN_ne g ga e1] at e
        exact absurd e (hne s (by omega))
      · rw [updN_ne g ga e1, updN_ne g ga e2] at e
        exact h.inj s t (by omega) (by omega) e
  · by_cases e : s = r
    · subst e; rw [updN_eq]; exact hlo
    · rw [updN_ne g ga e]; exact h.lo s (by omega)
/-- All rows: as the elimination wants them. -/
theorem Rw.whole (h : Rw gc m m g c M z v w0 W) (hm : 0 < m) : ∃ gr rk, v = .slice (some ⟨gr, 0, none⟩) m rk ∧ Es w0.heap.size gc gr g c m M z w0 W := by
  have ho := h.own
  rcases ho.2 with h2 | ⟨gr, cap, cur, e1, e2, e3, e4, e5, e6, e7⟩
  · exact absurd h2.2 (by omega)
  · refine ⟨gr, cap, e1, ⟨⟨fun s hs => ?_, h.rows, h.inj, fun s hs e => ?_, h.lo, e2⟩, h.rc, h.fr, h.gl, Nat.le_refl _⟩⟩
    · have q : (cur.toList.take (m * 1))[s]? = (slVs m g c m)[s]? := by rw [e7]
      rw [List.getElem?_take, if_pos (by omega), Array.getElem?_toList, slVs_at m g c m s hs] at q
      have hrow : W.rowIs gr 29 cur.size (fun i => cur[i]?.getD undef) := ⟨cur, e3, rfl, fun i hi => by
        show cur[i]? = some (cur[i]?.getD undef)
        rw [Array.getElem?_eq_getElem hi]
        rfl⟩
      have q2 := hrow.cell (i := s) (by omega)
      have q3 : cur[s]?.getD undef = .slice (some ⟨g s, 0, none⟩) (m + 1) (c s) := by rw [q]; rfl
      exact q2.trans (by rw [← q3])
    · obtain ⟨m', F, q1, q2, q3⟩ := h.rows s hs
      obtain ⟨c', k1, _⟩ := q2
      rw [e, e3] at k1
      injection k1 with k1
      injection k1 with _ k2
      exact absurd k2 (by decide)
end
namespace Nt
open Fq El
/-- What so many rows come to. -/
structure Rz (n : Net) (Z : Prop) (r : Nat) (z : Int) (M : El.Mx) : Prop where
  zp : z = 0 ∨ (z = 5 ∧ ¬ Z)
  ar : ∀ s c, s < r → c ≤ mm n → R (M s c)
  ok : z = 0 → ∀ s, s < r → RhsOk n (nd n s) n.ln ∧ ∀ c, c ≤ mm n → M s c = U0 n s c
theorem coef_fits {n : Net} (h : Right n) (v u i : Nat) (hi : i ≤ n.ln) : Fits (coefTo n v u i) := by
  have := coefTo_bd h v u i hi
  have := h.ln
  exact ⟨by omega, by omega⟩
theorem Rz.start (n : Net) (Z : Prop) (M : El.Mx) : Rz n Z 0 0 M := ⟨Or.inl rfl, fun s c h => absurd h (by omega), fun _ s h => absurd h (by omega)⟩
theorem Rz.push {n : Net} {Z : Prop} {r : Nat} {z : Int} {M : El.Mx} (h : Rz n Z r z M) (hr : Right n) {wh : Nat → Int} {x : Int × Int} {z' : Int} (hw : Wh n (nd n r) n.ln wh) (hk : Rk n Z (z = 0) (nd n r) n.ln z' x) : Rz n Z (r + 1) z' (fun s => if s = r then rowOf (mm n) wh x else M s) := by
  refine ⟨hk.zp, fun s c hs hc => ?_, fun e s hs => ?_⟩
  · show R ((if s = r then rowOf (mm n) wh x else M s) c)
    by_cases e : s = r
    · rw [if_pos e]
      by_cases e2 : c < mm n
      · rw [rowOf_lt e2, hw c e2]
        exact (whole_fq (coef_fits hr _ _ _ (Nat.le_refl _))).2.2
      · obtain rfl : c = mm n := by omega
        rw [rowOf_m]
        exact hk.rx
    · rw [if_neg e]
      exact h.ar s c (by omega) hc
  · obtain ⟨z0, e1, e2⟩ := hk.ok e
    by_cases es : s = r
    · subst es
      refine ⟨e2, fun c hc => ?_⟩
      show (if s = s then rowOf (mm n) wh x else M s) c = _
      rw [if_pos rfl]
      unfold U0
      by_cases ec : c < mm n
      · rw [rowOf_lt ec, if_pos ec, hw c ec]
      · obtain rfl : c = mm n := by omega
        rw [rowOf_m, if_neg ec, e1]
    · obtain ⟨q1, q2⟩ := h.ok z0 s (by omega)
      refine ⟨q1, fun c hc => ?_⟩
      show (if s = r then rowOf (mm n) wh x else M s) c = _
      rw [if_neg es]
      exact q2 c hc
/-- All rows are made: the elimination starts. -/
theorem Rz.whole {n : Net} {Z : Prop} {z : Int} {M : El.Mx} (h : Rz n Z (mm n) z M) (hr : Right n) (hh : ∀ j, j < nn n → held n j = true) : El.Ek (mm n) (U0 n) Z 0 1 z M := by
  refine ⟨fun s c hs hc => h.ar s c hs hc, h.zp, fun e => ?_⟩
  have q := h.ok e
  refine ⟨⟨U0_right hr (fun s hs => (q s hs).1), U0_sure hr hh⟩, ?_, fun s c hs hc => ?_⟩
  · exact El.Good.zero _ _
  · rw [(q s hs).2 c hc, El.part_start]
    rfl
end Nt
end Go.Proofs.YtkaokfmaecdkiaaGreatDoor
namespace Go.Proofs.YtkaokfmaecdkiaaGreatDoor
open Go Go.RowKit Go.Deep

set_option maxRecDepth 100000 in
set_option maxHeartbeats 32000000 in
theorem sreg33 {w : World} (n : Nt.Net) (la : Option Addr) (lk : Nat) (fa : Option Addr) (fk : Nat) (wa : Option Addr) (wk gc gn : Nat) (na : Option Addr) (gw gt gl m : Nat) (wh : Nat → Int) (x : Int × Int) (z A B G : Int) (b : World) (r : Nat) (x0 x1 x2 x3 x4 x5 x6 x7 x8 x9 x12 x13 x15 x16 x17 x18 x19 x20 x21 x22 x23 x24 x25 x26 x27 x28 x29 x30 x31 x32 x33 x34 x35 x36 x37 x38 x39 x40 x41 x42 x43 x44 x45 x46 x47 x48 x49 x50 x51 x52 x53 x54 x55 x56 x57 x58 x59 x60 x61 x62 x63 x64 x65 x66 x67 x68 x69 x70 x71 x72 x73 x74 x75 x76 x77 x78 x79 x80 x81 x82 x83 x84 x85 x86 x87 x88 x89 x90 x91 x92 x93 x94 x95 x96 x97 x98 x99 x100 x101 x102 x103 x104 x105 x106 x107 x108 x109 x110 x111 x112 x113 x114 x115 x116 x117 x118 x119 x120 x121 x122 x123 x124 x125 x126 x127 x128 x129 x130 x131 x132 x133 x134 x135 x136 x137 x138 x139 x140 x141 x142 x143 x144 x145 x146 x147 x148 x149 x150 x151 x152 x153 x154 x155 x156 x157 x158 x159 x160 x161 x162 x163 x164 x165 x166 x167 x168 x169 x170 x171 x172 x173 x174 x175 x176 x177 x178 x179 x180 x181 x182 x183 x184 x185 x186 x187 x188 x189 x190 x191 x192 x193 x194 x195 x196 x197 x198 x199 x200 x201 x202 x203 x204 x205 x206 x207 x208 x209 x210 x211 x212 x213 x214 x215 x216 x217 x218 x219 x220 x221 x222 x223 x224 x225 x226 x227 x228 x229 x230 x231 x232 x233 x234 x235 x236 x237 x238 x239 x240 x241 x242 x243 x244 x245 x246 x247 x248 x249 x250 x251 x252 x253 x254 x255 x256 x257 x258 x259 x260 x261 x262 x263 x264 x265 x266 x267 x268 x269 x270 x271 x272 x273 x274 x275 x276 x277 x278 x279 x280 x281 x282 x283 x284 x285 x286 x287 x288 x289 x290 x291 x292 x293 x294 x295 x296 x297 x298 x299 x300 x301 x302 x303 x304 x305 x306 x307 x308 x309 x310 x311 x312 x313 x314 x315 x316 x317 x318 x319 x320 x321 x322 x323 x324 x325 x326 x327 x328 x329 x330 x331 x332 x333 x334 x335 x336 x337 x338 x339 x340 x341 x342 x343 x344 x345 x346 x347 x348 x349 x350 x351 x352 x353 x354 x355 x356 x357 x358 x359 x360 x361 x362 x363 x364 x365 x366 x367 x368 x369 x370 x371 x372 x373 x374 x375 x376 : Value) (ds : _) (Q : Exit → Act → World → Prop) (W0 : World)
    (HR : Hid (R3 gc gw gt m wh x z b W0)) (HL : Hid (Lx gc gw gt gl A B G W0)) (HT : Hid (St2 n la lk fa fk wa wk gc gn na w b)) (hr : r < m) (hb : -1000000 ≤ wh r ∧ wh r ≤ 1000000 ∧ -1000000 ≤ G ∧ G ≤ 1000000) (hP : ∀ c (a : Act) o v w, Q (.panic c) (a.put o v) w → Q (.panic c) a w)
    (hQ : ∀ (y123 y124 y125 y126 y127 y128 y129 y130 y131 y132 : Value) (WZ : World), Hid (R3 gc gw gt m (updI wh r (wh r + G)) x z b WZ) → Hid (Lx gc gw gt gl A B G WZ) → Q .normal { tmps := #[x0, x1, x2, x3, x4, x5, x6, x7, x8, x9, (.int .i64 r), (.slice (some ⟨gw, 0, none⟩) m m), x12, x13, (.pointer (some ⟨gl, 0, none⟩)), x15, x16, x17, x18, x19, x20, x21, x22, x23, x24, x25, x26, x27, x28, x29, x30, x31, x32, x33, x34, x35, x36, x37, x38, x39, x40, x41, x42, x43, x44, x45, x46, x47, x48, x49, x50, x51, x52, x53, x54, x55, x56, x57, x58, x59, x60, x61, x62, x63, x64, x65, x66, x67, x68, x69, x70, x71, x72, x73, x74, x75, x76, x77, x78, x79, x80, x81, x82, x83, x84, x85, x86, x87, x88, x89, x90, x91, x92, x93, x94, x95, x96, x97, x98, x99, x100, x101, x102, x103, x104, x105, x106, x107, x108, x109, x110, x111, x112, x113, x114, x115, x116, x117, x118, x119, x120, x121, x122, y123, y124, y125, y126, y127, y128, y129, y130, y131, y132, x133, x134, x135, x136, x137, x138, x139, x140, x141, x142, x143, x144, x145, x146, x147, x148, x149, x150, x151, x152, x153, x154, x155, x156, x157, x158, x159, x160, x161, x162, x163, x164, x165, x166, x167, x168, x169, x170, x171, x172, x173, x174, x175, x176, x177, x178, x179, x180, x181, x182, x183, x184, x185, x186, x187, x188, x189, x190, x191, x192, x193, x194, x195, x196, x197, x198, x199, x200, x201, x202, x203, x204, x205, x206, x207, x208, x209, x210, x211, x212, x213, x214, x215, x216, x217, x218, x219, x220, x221, x222, x223, x224, x225, x226, x227, x228, x229, x230, x231, x232, x233, x234, x235, x236, x237, x238, x239, x240, x241, x242, x243, x244, x245, x246, x247, x248, x249, x250, x251, x252, x253, x254, x255, x256, x257, x258, x259, x260, x261, x262, x263, x264, x265, x266, x267, x268, x269, x270, x271, x272, x273, x274, x275, x276, x277, x278, x279, x280, x281, x282, x283, x284, x285, x286, x287, x288, x289, x290, x291, x292, x293, x294, x295, x296, x297, x298, x299, x300, x301, x302, x303, x304, x305, x306, x307, x308, x309, x310, x311, x312, x313, x314, x315, x316, x317, x318, x319, x320, x321, x322, x323, x324, x325, x326, x327, x328, x329, x330, x331, x332, x333, x334, x335, x336, x337, x338, x339, x340, x341, x342, x343, x344, x345, x346, x347, x348, x349, x350, x351, x352, x353, x354, x355, x356, x357, x358, x359, x360, x361, x362, x363, x364, x365, x366, x367, x368, x369, x370, x371, x372, x373, x374, x375, x376], defers := ds } WZ) :
    (Code.region 33 #[{ dst := some 123, op := Op.move (Operand.tmp 11), type := 25, pos := "l07_linear.go:104", after := #[], guard := none }, { dst := some 124, op := Op.move (Operand.tmp 10), type := 3, pos := "l07_linear.go:104", after := #[], guard := none }, { dst := some 125, op := Op.move (Operand.tmp 11), type := 25, pos := "l07_linear.go:104", after := #[], guard := none }, { dst := some 126, op := Op.move (Operand.tmp 10), type := 3, pos := "l07_linear.go:104", after := #[], guard := none }, { dst := some 127, op := Op.indexAddr 25 (Operand.tmp 125) (Operand.tmp 126), type := 0, pos := "l07_linear.go:104", after := #[{ on := 2, ground := Ground.data }, { on := 3, ground := Ground.data }], guard := none }, { dst := some 128, op := Op.load 2 (Operand.tmp 127), type := 2, pos := "l07_linear.go:104", after := #[{ on := 4, ground := Ground.data }], guard := none }, { dst := some 129, op := Op.fieldAddr 68 (Operand.tmp 14) 2, type := 0, pos := "l07_linear.go:104", after := #[], guard := none }, { dst := some 130, op := Op.load 2 (Operand.tmp 129), type := 2, pos := "l07_linear.go:104", after := #[{ on := 6, ground := Ground.data }], guard := none }, { dst := some 131, op := Op.binOp BinOp.add 2 (Operand.tmp 128) (Operand.tmp 130) 2, type := 2, pos := "l07_linear.go:104", after := #[{ on := 5, ground := Ground.data }, { on := 7, ground := Ground.data }], guard := none }, { dst := some 132, op := Op.indexAddr 25 (Operand.tmp 123) (Operand.tmp 124), type := 0, pos := "l07_linear.go:104", after := #[{ on := 0, ground := Ground.data }, { on := 1, ground := Ground.data }, { on := 0, ground := Ground.phase }, { on := 1, ground := Ground.phase }, { on := 2, ground := Ground.phase }, { on := 3, ground := Ground.phase }, { on := 4, ground := Ground.phase }, { on := 5, ground := Ground.phase }, { on := 6, ground := Ground.phase }, { on := 7, ground := Ground.phase }, { on := 8, ground := Ground.phase }], guard := none }, { dst := none, op := Op.store 2 (Operand.tmp 132) (Operand.tmp 131), type := 0, pos := "l07_linear.go:104", after := #[{ on := 9, ground := Ground.data }, { on := 8, ground := Ground.data }, { on := 0, ground := Ground.phase }, { on := 1, ground := Ground.phase }, { on := 2, ground := Ground.phase }, { on := 3, ground := Ground.phase }, { on := 4, ground := Ground.phase }, { on := 5, ground := Ground.phase }, { on := 6, ground := Ground.phase }, { on := 7, ground := Ground.phase }, { on := 8, ground := Ground.phase }], guard := none }] true).wp Tryz.prog Q { tmps := #[x0, x1, x2, x3, x4, x5, x6, x7, x8, x9, (.int .i64 r), (.slice (some ⟨gw, 0, none⟩) m m), x12, x13, (.pointer (some ⟨gl, 0, none⟩)), x15, x16, x17, x18, x19, x20, x21, x22, x23, x24, x25, x26, x27, x28, x29, x30, x31, x32, x33, x34, x35, x36, x37, x38, x39, x40, x41, x42, x43, x44, x45, x46, x47, x48, x49, x50, x51, x52, x53, x54, x55, x56, x57, x58, x59, x60, x61, x62, x63, x64, x65, x66, x67, x68, x69, x70, x71, x72, x73, x74, x75, x76, x77, x78, x79, x80, x81, x82, x83, x84, x85, x86, x87, x88, x89, x90, x91, x92, x93, x94, x95, x96, x97, x98, x99, x100, x101, x102, x103, x104, x105, x106, x107, x108, x109, x110, x111, x112, x113, x114, x115, x116, x117, x118, x119, x120, x121, x122, x123, x124, x125, x126, x127, x128, x129, x130, x131, x132, x133, x134, x135, x136, x137, x138, x139, x140, x141, x142, x143, x144, x145, x146, x147, x148, x149, x150, x151, x152, x153, x154, x155, x156, x157, x158, x159, x160, x161, x162, x163, x164, x165, x166, x167, x168, x169, x170, x171, x172, x173, x174, x175, x176, x177, x178, x179, x180, x181, x182, x183, x184, x185, x186, x187, x188, x189, x190, x191, x192, x193, x194, x195, x196, x197, x198, x199, x200, x201, x202, x203, x204, x205, x206, x207, x208, x209, x210, x211, x212, x213, x214, x215, x216, x217, x218, x219, x220, x221, x222, x223, x224, x225, x226, x227, x228, x229, x230, x231, x232, x233, x234, x235, x236, x237, x238, x239, x240, x241, x242, x243, x244, x245, x246, x247, x248, x249, x250, x251, x252, x253, x254, x255, x256, x257, x258, x259, x260, x261, x262, x263, x264, x265, x266, x267, x268, x269, x270, x271, x272, x273, x274, x275, x276, x277, x278, x279, x280, x281, x282, x283, x284, x285, x286, x287, x288, x289, x290, x291, x292, x293, x294, x295, x296, x297, x298, x299, x300, x301, x302, x303, x304, x305, x306, x307, x308, x309, x310, x311, x312, x313, x314, x315, x316, x317, x318, x319, x320, x321, x322, x323, x324, x325, x326, x327, x328, x329, x330, x331, x332, x333, x334, x335, x336, x337, x338, x339, x340, x341, x342, x343, x344, x345, x346, x347, x348, x349, x350, x351, x352, x353, x354, x355, x356, x357, x358, x359, x360, x361, x362, x363, x364, x365, x366, x367, x368, x369, x370, x371, x372, x373, x374, x375, x376], defers := ds } W0 := by
  have hrz : (r : Int) < (m : Int) := by omega
  refine region_L (fun V => (IsBlk 2 gw m wh V ∧ V.rowIs gt 35 2 (rowN [.int .i64 x.1, .int .i64 x.2])) ∧ Lx gc gw gt gl A B G V ∧ St2 n la lk fa fk wa wk gc gn na w V) 10 (by kernel_rfl) ⟨⟨(HR.out.below (Below.refl _ _).drew).wh, (HR.out.below (Below.refl _ _).drew).bx⟩, HL.out.below (Below.refl _ _).drew, HT.out.keep (HR.out.below (Below.refl _ _).drew).fr⟩ (fun hHeld => ?_)
  obtain ⟨Z, hZ⟩ : ∃ Z, Z = W0.drew := ⟨_, rfl⟩
  replace HR := Lib.hid (HR.out.below (Below.refl _ _).drew)
  replace HL := Lib.hid (HL.out.below (Below.refl _ _).drew)
  rw [← hZ] at hHeld HR HL ⊢
  clear hZ
  refine takeL_do (i := 0) (v := (.slice (some ⟨gw, 0, none⟩) m m)) rfl (by kernel_rfl) (by kernel_rfl) (by kernel_rfl) (by kernel_rfl) (fun _ _ _ h => hP _ _ _ _ _ h) (by rfl) ?_ (by assumption) ?_
  · intro w hSw
    skip
    go_simp
  simp only [Act.put, List.setIfInBounds_toArray, List.set_cons_zero, List.set_cons_succ]
  refine takeL_do (i := 1) (v := (.int .i64 r)) rfl (by kernel_rfl) (by kernel_rfl) (by kernel_rfl) (by kernel_rfl) (fun _ _ _ h => hP _ _ _ _ _ h) (by rfl) ?_ (by assumption) ?_
  · intro w hSw
    skip
    go_simp
  simp only [Act.put, List.setIfInBounds_toArray, List.set_cons_zero, List.set_cons_succ]
  refine takeL_do (i := 2) (v := (.slice (some ⟨gw, 0, none⟩) m m)) rfl (by kernel_rfl) (by kernel_rfl) (by kernel_rfl) (by kernel_rfl) (fun _ _ _ h => hP _ _ _ _ _ h) (by rfl) ?_ (by assumption) ?_
  · intro w hSw
    skip
    go_simp
  simp only [Act.put, List.setIfInBounds_toArray, List.set_cons_zero, List.set_cons_succ]
  refine takeL_do (i := 3) (v := (.int .i64 r)) rfl (by kernel_rfl) (by kernel_rfl) (by kernel_rfl) (by kernel_rfl) (fun _ _ _ h => hP _ _ _ _ _ h) (by rfl) ?_ (by assumption) ?_
  · intro w hSw
    skip
    go_simp
  simp only [Act.put, List.setIfInBounds_toArray, List.set_cons_zero, List.set_cons_succ]
  refine takeL_do (i := 4) (v := (.pointer (some ⟨gw, r, none⟩))) rfl (by kernel_rfl) (by kernel_rfl) (by kernel_rfl) (by kernel_rfl) (fun _ _ _ h => hP _ _ _ _ _ h) (by rfl) ?_ (by assumption) ?_
  · intro w hSw
    skip
    go_simp
  simp only [Act.put, List.setIfInBounds_toArray, List.set_cons_zero, List.set_cons_succ]
  refine takeL_do (i := 5) (v := (.int .i64 (wh r))) rfl (by kernel_rfl) (by kernel_rfl) (by kernel_rfl) (by kernel_rfl) (fun _ _ _ h => hP _ _ _ _ _ h) (by rfl) ?_ (by assumption) ?_
  · intro w hSw
    have l0 := hSw.1.1.cell (i := r) hr
    go_simp
  simp only [Act.put, List.setIfInBounds_toArray, List.set_cons_zero, List.set_cons_succ]
  refine takeL_do (i := 6) (v := (.pointer (some ⟨gl, 2, none⟩))) rfl (by kernel_rfl) (by kernel_rfl) (by kernel_rfl) (by kernel_rfl) (fun _ _ _ h => hP _ _ _ _ _ h) (by rfl) ?_ (by assumption) ?_
  · intro w hSw
    skip
    go_simp
  simp only [Act.put, List.setIfInBounds_toArray, List.set_cons_zero, List.set_cons_succ]
  refine takeL_do (i := 7) (v := (.int .i64 G)) rfl (by kernel_rfl) (by kernel_rfl) (by kernel_rfl) (by kernel_rfl) (fun _ _ _ h => hP _ _ _ _ _ h) (by rfl) ?_ (by assumption) ?_
  · intro w hSw
    have l0 := hSw.2.1.row.cell (i := 2) (by omega)
    simp only [rowN, List.getD_cons_succ, List.getD_cons_zero] at l0
    go_simp
  simp only [Act.put, List.setIfInBounds_toArray, List.set_cons_zero, List.set_cons_succ]
  refine takeL_do (i := 8) (v := (.int .i64 (wh r + G))) rfl (by kernel_rfl) (by kernel_rfl) (by kernel_rfl) (by kernel_rfl) (fun _ _ _ h => hP _ _ _ _ _ h) (by rfl) ?_ (by assumption) ?_
  · intro w hSw
    have hwr : IntKind.i64.wrap (wh r + G) = wh r + G := md_wrap (by omega) (by omega)
    go_simp
  simp only [Act.put, List.setIfInBounds_toArray, List.set_cons_zero, List.set_cons_succ]
  refine takeL_do (i := 9) (v := (.pointer (some ⟨gw, r, none⟩))) rfl (by kernel_rfl) (by kernel_rfl) (by kernel_rfl) (by kernel_rfl) (fun _ _ _ h => hP _ _ _ _ _ h) (by rfl) ?_ (by assumption) ?_
  · intro w hSw
    skip
    go_simp
  simp only [Act.put, List.setIfInBounds_toArray, List.set_cons_zero, List.set_cons_succ]
  have o0 := HR.out.wh.cell (i := r) hr
  have z0 := HR.out.wh.frozen r
  have l0 := HR.out.wh.lt
  obtain ⟨WZ, hWZ⟩ : ∃ WZ, WZ = Z.setCell ⟨gw, r, none⟩ (.int .i64 (wh r + G)) := ⟨_, rfl⟩
  have HR2 := Lib.hid (HR.out.wset r (wh r + G))
  have HL2 := Lib.hid (HL.out.wset r (.int .i64 (wh r + G)))
  rw [← hWZ] at HR2 HL2
  have HWZ := Lib.hid hWZ
  clear hWZ
  refine takeL_last rfl (by kernel_rfl) (by kernel_rfl) (fun K2 hK => ?_)
  go_simp
  rw [← HWZ.out]
  refine hK.out _ _ ?_
  clear hK hHeld HWZ o0 z0 l0 HR HL
  exact hQ _ _ _ _ _ _ _ _ _ _ _ HR2 HL2
end Go.Proofs.YtkaokfmaecdkiaaGreatDoor
namespace Go.Proofs.YtkaokfmaecdkiaaGreatDoor
open Go Go.RowKit Go.Deep

set_option maxRecDepth 100000 in
set_option maxHeartbeats 32000000 in
theorem sreg35 {w : World} (n : Nt.Net) (la : Option Addr) (lk : Nat) (fa : Option Addr) (fk : Nat) (wa : Option Addr) (wk gc gn : Nat) (na : Option Addr) (gw gt gl m : Nat) (wh : Nat → Int) (x : Int × Int) (z A B G : Int) (b : World) (o s : Nat) (x0 x1 x2 x3 x4 x5 x7 x8 x9 x10 x12 x13 x16 x17 x18 x19 x20 x21 x22 x23 x24 x25 x26 x27 x28 x29 x30 x31 x32 x33 x34 x35 x36 x37 x38 x39 x40 x41 x42 x43 x44 x45 x46 x47 x48 x49 x50 x51 x52 x53 x54 x55 x56 x57 x58 x59 x60 x61 x62 x63 x64 x65 x66 x67 x68 x69 x70 x71 x72 x73 x74 x75 x76 x77 x78 x79 x80 x81 x82 x83 x84 x85 x86 x87 x88 x89 x90 x91 x92 x93 x94 x95 x96 x97 x98 x99 x100 x101 x102 x103 x104 x105 x106 x107 x108 x109 x110 x111 x112 x113 x114 x115 x116 x117 x118 x119 x120 x121 x122 x123 x124 x125 x126 x127 x128 x129 x130 x131 x132 x133 x134 x135 x136 x137 x138 x139 x140 x141 x142 x143 x144 x145 x146 x147 x148 x149 x150 x151 x152 x153 x154 x155 x156 x157 x158 x159 x160 x161 x162 x163 x164 x165 x166 x167 x168 x169 x170 x171 x172 x173 x174 x175 x176 x177 x178 x179 x180 x181 x182 x183 x184 x185 x186 x187 x188 x189 x190 x191 x192 x193 x194 x195 x196 x197 x198 x199 x200 x201 x202 x203 x204 x205 x206 x207 x208 x209 x210 x211 x212 x213 x214 x215 x216 x217 x218 x219 x220 x221 x222 x223 x224 x225 x226 x227 x228 x229 x230 x231 x232 x233 x234 x235 x236 x237 x238 x239 x240 x241 x242 x243 x244 x245 x246 x247 x248 x249 x250 x251 x252 x253 x254 x255 x256 x257 x258 x259 x260 x261 x262 x263 x264 x265 x266 x267 x268 x269 x270 x271 x272 x273 x274 x275 x276 x277 x278 x279 x280 x281 x282 x283 x284 x285 x286 x287 x288 x289 x290 x291 x292 x293 x294 x295 x296 x297 x298 x299 x300 x301 x302 x303 x304 x305 x306 x307 x308 x309 x310 x311 x312 x313 x314 x315 x316 x317 x318 x319 x320 x321 x322 x323 x324 x325 x326 x327 x328 x329 x330 x331 x332 x333 x334 x335 x336 x337 x338 x339 x340 x341 x342 x343 x344 x345 x346 x347 x348 x349 x350 x351 x352 x353 x354 x355 x356 x357 x358 x359 x360 x361 x362 x363 x364 x365 x366 x367 x368 x369 x370 x371 x372 x373 x374 x375 x376 : Value) (ds : _) (Q : Exit → Act → World → Prop) (W0 : World)
    (HR : Hid (R3 gc gw gt m wh x z b W0)) (HL : Hid (Lx gc gw gt gl A B G W0)) (HT : Hid (St2 n la lk fa fk wa wk gc gn na w b)) (ho : o < Nt.nn n) (HNO : Hid (noF n o = (s : Int))) (hs : s < m) (hb : -1000000 ≤ wh s ∧ wh s ≤ 1000000 ∧ -1000000 ≤ G ∧ G ≤ 1000000) (hP : ∀ c (a : Act) o v w, Q (.panic c) (a.put o v) w → Q (.panic c) a w)
    (hQ : ∀ (y138 y139 y140 y141 y142 y143 y144 y145 y146 y147 y148 y149 y150 y151 y152 y153 : Value) (WZ : World), Hid (R3 gc gw gt m (updI wh s (wh s - G)) x z b WZ) → Hid (Lx gc gw gt gl A B G WZ) → Q .normal { tmps := #[x0, x1, x2, x3, x4, x5, (.slice (some ⟨gn, 0, none⟩) (Nt.nn n) (Nt.nn n)), x7, x8, x9, x10, (.slice (some ⟨gw, 0, none⟩) m m), x12, x13, (.pointer (some ⟨gl, 0, none⟩)), (.int .i64 o), x16, x17, x18, x19, x20, x21, x22, x23, x24, x25, x26, x27, x28, x29, x30, x31, x32, x33, x34, x35, x36, x37, x38, x39, x40, x41, x42, x43, x44, x45, x46, x47, x48, x49, x50, x51, x52, x53, x54, x55, x56, x57, x58, x59, x60, x61, x62, x63, x64, x65, x66, x67, x68, x69, x70, x71, x72, x73, x74, x75, x76, x77, x78, x79, x80, x81, x82, x83, x84, x85, x86, x87, x88, x89, x90, x91, x92, x93, x94, x95, x96, x97, x98, x99, x100, x101, x102, x103, x104, x105, x106, x107, x108, x109, x110, x111, x112, x113, x114, x115, x116, x117, x118, x119, x120, x121, x122, x123, x124, x125, x126, x127, x128, x129, x130, x131, x132, x133, x134, x135, x136, x137, y138, y139, y140, y141, y142, y143, y144, y145, y146, y147, y148, y149, y150, y151, y152, y153, x154, x155, x156, x157, x158, x159, x160, x161, x162, x163, x164, x165, x166, x167, x168, x169, x170, x171, x172, x173, x174, x175, x176, x177, x178, x179, x180, x181, x182, x183, x184, x185, x186, x187, x188, x189, x190, x191, x192, x193, x194, x195, x196, x197, x198, x199, x200, x201, x202, x203, x204, x205, x206, x207, x208, x209, x210, x211, x212, x213, x214, x215, x216, x217, x218, x219, x220, x221, x222, x223, x224, x225, x226, x227, x228, x229, x230, x231, x232, x233, x234, x235, x236, x237, x238, x239, x240, x241, x242, x243, x244, x245, x246, x247, x248, x249, x250, x251, x252, x253, x254, x255, x256, x257, x258, x259, x260, x261, x262, x263, x264, x265, x266, x267, x268, x269, x270, x271, x272, x273, x274, x275, x276, x277, x278, x279, x280, x281, x282, x283, x284, x285, x286, x287, x288, x289, x290, x291, x292, x293, x294, x295, x296, x297, x298, x299, x300, x301, x302, x303, x304, x305, x306, x307, x308, x309, x310, x311, x312, x313, x314, x315, x316, x317, x318, x319, x320, x321, x322, x323, x324, x325, x326, x327, x328, x329, x330, x331, x332, x333, x334, x335, x336, x337, x338, x339, x340, x341, x342, x343, x344, x345, x346, x347, x348, x349, x350, x351, x352, x353, x354, x355, x356, x357, x358, x359, x360, x361, x362, x363, x364, x365, x366, x367, x368, x369, x370, x371, x372, x373, x374, x375, x376], defers := ds } WZ) :
    (Code.region 35 #[{ dst := some 138, op := Op.move (Operand.tmp 11), type := 25, pos := "l07_linear.go:106", after := #[], guard := none }, { dst := some 139, op := Op.move (Operand.tmp 6), type := 60, pos := "l07_linear.go:106", after := #[], guard := none }, { dst := some 140, op := Op.move (Operand.tmp 15), type := 2, pos := "l07_linear.go:106", after := #[], guard := none }, { dst := some 141, op := Op.indexAddr 60 (Operand.tmp 139) (Operand.tmp 140), type := 0, pos := "l07_linear.go:106", after := #[{ on := 1, ground := Ground.data }, { on := 2, ground := Ground.data }], guard := none }, { dst := some 142, op := Op.load 3 (Operand.tmp 141), type := 3, pos := "l07_linear.go:106", after := #[{ on := 3, ground := Ground.data }], guard := none }, { dst := some 143, op := Op.move (Operand.tmp 11), type := 25, pos := "l07_linear.go:106", after := #[], guard := none }, { dst := some 144, op := Op.move (Operand.tmp 6), type := 60, pos := "l07_linear.go:106", after := #[], guard := none }, { dst := some 145, op := Op.move (Operand.tmp 15), type := 2, pos := "l07_linear.go:106", after := #[], guard := none }, { dst := some 146, op := Op.indexAddr 60 (Operand.tmp 144) (Operand.tmp 145), type := 0, pos := "l07_linear.go:106", after := #[{ on := 6, ground := Ground.data }, { on := 7, ground := Ground.data }], guard := none }, { dst := some 147, op := Op.load 3 (Operand.tmp 146), type := 3, pos := "l07_linear.go:106", after := #[{ on := 8, ground := Ground.data }], guard := none }, { dst := some 148, op := Op.indexAddr 25 (Operand.tmp 143) (Operand.tmp 147), type := 0, pos := "l07_linear.go:106", after := #[{ on := 5, ground := Ground.data }, { on := 9, ground := Ground.data }], guard := none }, { dst := some 149, op := Op.load 2 (Operand.tmp 148), type := 2, pos := "l07_linear.go:106", after := #[{ on := 10, ground := Ground.data }], guard := none }, { dst := some 150, op := Op.fieldAddr 68 (Operand.tmp 14) 2, type := 0, pos := "l07_linear.go:106", after := #[], guard := none }, { dst := some 151, op := Op.load 2 (Operand.tmp 150), type := 2, pos := "l07_linear.go:106", after := #[{ on := 12, ground := Ground.data }], guard := none }, { dst := some 152, op := Op.binOp BinOp.sub 2 (Operand.tmp 149) (Operand.tmp 151) 2, type := 2, pos := "l07_linear.go:106", after := #[{ on := 11, ground := Ground.data }, { on := 13, ground := Ground.data }], guard := none }, { dst := some 153, op := Op.indexAddr 25 (Operand.tmp 138) (Operand.tmp 142), type := 0, pos := "l07_linear.go:106", after := #[{ on := 0, ground := Ground.data }, { on := 4, ground := Ground.data }, { on := 0, ground := Ground.phase }, { on := 1, ground := Ground.phase }, { on := 2, ground := Ground.phase }, { on := 3, ground := Ground.phase }, { on := 4, ground := Ground.phase }, { on := 5, ground := Ground.phase }, { on := 6, ground := Ground.phase }, { on := 7, ground := Ground.phase }, { on := 8, ground := Ground.phase }, { on := 9, ground := Ground.phase }, { on := 10, ground := Ground.phase }, { on := 11, ground := Ground.phase }, { on := 12, ground := Ground.phase }, { on := 13, ground := Ground.phase }, { on := 14, ground := Ground.phase }], guard := none }, { dst := none, op := Op.store 2 (Operand.tmp 153) (Operand.tmp 152), type := 0, pos := "l07_linear.go:106", after := #[{ on := 15, ground := Ground.data }, { on := 14, ground := Ground.data }, { on := 0, ground := Ground.phase }, { on := 1, ground := Ground.phase }, { on := 2, ground := Ground.phase }, { on := 3, ground := Ground.phase }, { on := 4, ground := Ground.phase }, { on := 5, ground := Ground.phase }, { on := 6, ground := Ground.phase }, { on := 7, ground := Ground.phase }, { on := 8, ground := Ground.phase }, { on := 9, ground := Ground.phase }, { on := 10, ground := Ground.phase }, { on := 11, ground := Ground.phase }, { on := 12, ground := Ground.phase }, { on := 13, ground := Ground.phase }, { on := 14, ground := Ground.phase }], guard := none }] true).wp Tryz.prog Q { tmps := #[x0, x1, x2, x3, x4, x5, (.slice (some ⟨gn, 0, none⟩) (Nt.nn n) (Nt.nn n)), x7, x8, x9, x10, (.slice (some ⟨gw, 0, none⟩) m m), x12, x13, (.pointer (some ⟨gl, 0, none⟩)), (.int .i64 o), x16, x17, x18, x19, x20, x21, x22, x23, x24, x25, x26, x27, x28, x29, x30, x31, x32, x33, x34, x35, x36, x37, x38, x39, x40, x41, x42, x43, x44, x45, x46, x47, x48, x49, x50, x51, x52, x53, x54, x55, x56, x57, x58, x59, x60, x61, x62, x63, x64, x65, x66, x67, x68, x69, x70, x71, x72, x73, x74, x75, x76, x77, x78, x79, x80, x81, x82, x83, x84, x85, x86, x87, x88, x89, x90, x91, x92, x93, x94, x95, x96, x97, x98, x99, x100, x101, x102, x103, x104, x105, x106, x107, x108, x109, x110, x111, x112, x113, x114, x115, x116, x117, x118, x119, x120, x121, x122, x123, x124, x125, x126, x127, x128, x129, x130, x131, x132, x133, x134, x135, x136, x137, x138, x139, x140, x141, x142, x143, x144, x145, x146, x147, x148, x149, x150, x151, x152, x153, x154, x155, x156, x157, x158, x159, x160, x161, x162, x163, x164, x165, x166, x167, x168, x169, x170, x171, x172, x173, x174, x175, x176, x177, x178, x179, x180, x181, x182, x183, x184, x185, x186, x187, x188, x189, x190, x191, x192, x193, x194, x195, x196, x197, x198, x199, x200, x201, x202, x203, x204, x205, x206, x207, x208, x209, x210, x211, x212, x213, x214, x215, x216, x217, x218, x219, x220, x221, x222, x223, x224, x225, x226, x227, x228, x229, x230, x231, x232, x233, x234, x235, x236, x237, x238, x239, x240, x241, x242, x243, x244, x245, x246, x247, x248, x249, x250, x251, x252, x253, x254, x255, x256, x257, x258, x259, x260, x261, x262, x263, x264, x265, x266, x267, x268, x269, x270, x271, x272, x273, x274, x275, x276, x277, x278, x279, x280, x281, x282, x283, x284, x285, x286, x287, x288, x289, x290, x291, x292, x293, x294, x295, x296, x297, x298, x299, x300, x301, x302, x303, x304, x305, x306, x307, x308, x309, x310, x311, x312, x313, x314, x315, x316, x317, x318, x319, x320, x321, x322, x323, x324, x325, x326, x327, x328, x329, x330, x331, x332, x333, x334, x335, x336, x337, x338, x339, x340, x341, x342, x343, x344, x345, x346, x347, x348, x349, x350, x351, x352, x353, x354, x355, x356, x357, x358, x359, x360, x361, x362, x363, x364, x365, x366, x367, x368, x369, x370, x371, x372, x373, x374, x375, x376], defers := ds } W0 := by
  have hoz : (o : Int) < (Nt.nn n : Int) := by omega
  have hsz : (s : Int) < (m : Int) := by omega
  refine region_L (fun V => (IsBlk 2 gw m wh V ∧ V.rowIs gt 35 2 (rowN [.int .i64 x.1, .int .i64 x.2])) ∧ Lx gc gw gt gl A B G V ∧ St2 n la lk fa fk wa wk gc gn na w V) 16 (by kernel_rfl) ⟨⟨(HR.out.below (Below.refl _ _).drew).wh, (HR.out.below (Below.refl _ _).drew).bx⟩, HL.out.below (Below.refl _ _).drew, HT.out.keep (HR.out.below (Below.refl _ _).drew).fr⟩ (fun hHeld => ?_)
  obtain ⟨Z, hZ⟩ : ∃ Z, Z = W0.drew := ⟨_, rfl⟩
  replace HR := Lib.hid (HR.out.below (Below.refl _ _).drew)
  replace HL := Lib.hid (HL.out.below (Below.refl _ _).drew)
  rw [← hZ] at hHeld HR HL ⊢
  clear hZ
  refine takeL_do (i := 0) (v := (.slice (some ⟨gw, 0, none⟩) m m)) rfl (by kernel_rfl) (by kernel_rfl) (by kernel_rfl) (by kernel_rfl) (fun _ _ _ h => hP _ _ _ _ _ h) (by rfl) ?_ (by assumption) ?_
  · intro w hSw
    skip
    go_simp
  simp only [Act.put, List.setIfInBounds_toArray, List.set_cons_zero, List.set_cons_succ]
  refine takeL_do (i := 1) (v := (.slice (some ⟨gn, 0, none⟩) (Nt.nn n) (Nt.nn n))) rfl (by kernel_rfl) (by kernel_rfl) (by kernel_rfl) (by kernel_rfl) (fun _ _ _ h => hP _ _ _ _ _ h) (by rfl) ?_ (by assumption) ?_
  · intro w hSw
    skip
    go_simp
  simp only [Act.put, List.setIfInBounds_toArray, List.set_cons_zero, List.set_cons_succ]
  refine takeL_do (i := 2) (v := (.int .i64 o)) rfl (by kernel_rfl) (by kernel_rfl) (by kernel_rfl) (by kernel_rfl) (fun _ _ _ h => hP _ _ _ _ _ h) (by rfl) ?_ (by assumption) ?_
  · intro w hSw
    skip
    go_simp
  simp only [Act.put, List.setIfInBounds_toArray, List.set_cons_zero, List.set_cons_succ]
  refine takeL_do (i := 3) (v := (.pointer (some ⟨gn, o, none⟩))) rfl (by kernel_rfl) (by kernel_rfl) (by kernel_rfl) (by kernel_rfl) (fun _ _ _ h => hP _ _ _ _ _ h) (by rfl) ?_ (by assumption) ?_
  · intro w hSw
    skip
    go_simp
  simp only [Act.put, List.setIfInBounds_toArray, List.set_cons_zero, List.set_cons_succ]
  refine takeL_do (i := 4) (v := (.int .i64 s)) rfl (by kernel_rfl) (by kernel_rfl) (by kernel_rfl) (by kernel_rfl) (fun _ _ _ h => hP _ _ _ _ _ h) (by rfl) ?_ (by assumption) ?_
  · intro w hSw
    have l0 := hSw.2.2.nu.cell (i := o) ho
    rw [HNO.out] at l0
    go_simp
  simp only [Act.put, List.setIfInBounds_toArray, List.set_cons_zero, List.set_cons_succ]
  refine takeL_do (i := 5) (v := (.slice (some ⟨gw, 0, none⟩) m m)) rfl (by kernel_rfl) (by kernel_rfl) (by kernel_rfl) (by kernel_rfl) (fun _ _ _ h => hP _ _ _ _ _ h) (by rfl) ?_ (by assumption) ?_
  · intro w hSw
    skip
    go_simp
  simp only [Act.put, List.setIfInBounds_toArray, List.set_cons_zero, List.set_cons_succ]
  refine takeL_do (i := 6) (v := (.slice (some ⟨gn, 0, none⟩) (Nt.nn n) (Nt.nn n))) rfl (by kernel_rfl) (by kernel_rfl) (by kernel_rfl) (by kernel_rfl) (fun _ _ _ h => hP _ _ _ _ _ h) (by rfl) ?_ (by assumption) ?_
  · intro w hSw
    skip
    go_simp
  simp only [Act.put, List.setIfInBounds_toArray, List.set_cons_zero, List.set_cons_succ]
  refine takeL_do (i := 7) (v := (.int .i64 o)) rfl (by kernel_rfl) (by kernel_rfl) (by kernel_rfl) (by kernel_rfl) (fun _ _ _ h => hP _ _ _ _ _ h) (by rfl) ?_ (by assumption) ?_
  · intro w hSw
    skip
    go_simp
  simp only [Act.put, List.setIfInBounds_toArray, List.set_cons_zero, List.set_cons_succ]
  refine takeL_do (i := 8) (v := (.pointer (some ⟨gn, o, none⟩))) rfl (by kernel_rfl) (by kernel_rfl) (by kernel_rfl) (by kernel_rfl) (fun _ _ _ h => hP _ _ _ _ _ h) (by rfl) ?_ (by assumption) ?_
  · intro w hSw
    skip
    go_simp
  simp only [Act.put, List.setIfInBounds_toArray, List.set_cons_zero, List.set_cons_succ]
  refine takeL_do (i := 9) (v := (.int .i64 s)) rfl (by kernel_rfl) (by kernel_rfl) (by kernel_rfl) (by kernel_rfl) (fun _ _ _ h => hP _ _ _ _ _ h) (by rfl) ?_ (by assumption) ?_
  · intro w hSw
    have l0 := hSw.2.2.nu.cell (i := o) ho
    rw [HNO.out] at l0
    go_simp
  simp only [Act.put, List.setIfInBounds_toArray, List.set_cons_zero, List.set_cons_succ]
  refine takeL_do (i := 10) (v := (.pointer (some ⟨gw, s, none⟩))) rfl (by kernel_rfl) (by kernel_rfl) (by kernel_rfl) (by kernel_rfl) (fun _ _ _ h => hP _ _ _ _ _ h) (by rfl) ?_ (by assumption) ?_
  · intro w hSw
    skip
    go_simp
  simp only [Act.put, List.setIfInBounds_toArray, List.set_cons_zero, List.set_cons_succ]
  refine takeL_do (i := 11) (v := (.int .i64 (wh s))) rfl (by kernel_rfl) (by kernel_rfl) (by kernel_rfl) (by kernel_rfl) (fun _ _ _ h => hP _ _ _ _ _ h) (by rfl) ?_ (by assumption) ?_
  · intro w hSw
    have l0 := hSw.1.1.cell (i := s) hs
    go_simp
  simp only [Act.put, List.setIfInBounds_toArray, List.set_cons_zero, List.set_cons_succ]
  refine takeL_do (i := 12) (v := (.pointer (some ⟨gl, 2, none⟩))) rfl (by kernel_rfl) (by kernel_rfl) (by kernel_rfl) (by kernel_rfl) (fun _ _ _ h => hP _ _ _ _ _ h) (by rfl) ?_ (by assumption) ?_
  · intro w hSw
    skip
    go_simp
  simp only [Act.put, List.setIfInBounds_toArray, List.set_cons_zero, List.set_cons_succ]
  refine takeL_do (i := 13) (v := (.int .i64 G)) rfl (by kernel_rfl) (by kernel_rfl) (by kernel_rfl) (by kernel_rfl) (fun _ _ _ h => hP _ _ _ _ _ h) (by rfl) ?_ (by assumption) ?_
  · intro w hSw
    have l0 := hSw.2.1.row.cell (i := 2) (by omega)
    simp only [rowN, List.getD_cons_succ, List.getD_cons_zero] at l0
    go_simp
  simp only [Act.put, List.setIfInBounds_toArray, List.set_cons_zero, List.set_cons_succ]
  refine takeL_do (i := 14) (v := (.int .i64 (wh s - G))) rfl (by kernel_rfl) (by kernel_rfl) (by kernel_rfl) (by kernel_rfl) (fun _ _ _ h => hP _ _ _ _ _ h) (by rfl) ?_ (by assumption) ?_
  · intro w hSw
    have hwr : IntKind.i64.wrap (wh s - G) = wh s - G := md_wrap (by omega) (by omega)
    go_simp
  simp only [Act.put, List.setIfInBounds_toArray, List.set_cons_zero, List.set_cons_succ]
  refine takeL_do (i := 15) (v := (.pointer (some ⟨gw, s, none⟩))) rfl (by kernel_rfl) (by kernel_rfl) (by kernel_rfl) (by kernel_rfl) (fun _ _ _ h => hP _ _ _ _ _ h) (by rfl) ?_ (by assumption) ?_
  · intro w hSw
    skip
    go_simp
  simp only [Act.put, List.setIfInBounds_toArray, List.set_cons_zero, List.set_cons_succ]
  have o0 := HR.out.wh.cell (i := s) hs
  have z0 := HR.out.wh.frozen s
  have l0 := HR.out.wh.lt
  obtain ⟨WZ, hWZ⟩ : ∃ WZ, WZ = Z.setCell ⟨gw, s, none⟩ (.int .i64 (wh s - G)) := ⟨_, rfl⟩
  have HR2 := Lib.hid (HR.out.wset s (wh s - G))
  have HL2 := Lib.hid (HL.out.wset s (.int .i64 (wh s - G)))
  rw [← hWZ] at HR2 HL2
  have HWZ := Lib.hid hWZ
  clear hWZ
  refine takeL_last rfl (by kernel_rfl) (by kernel_rfl) (fun K2 hK => ?_)
  go_simp
  rw [← HWZ.out]
  refine hK.out _ _ ?_
  clear hK hHeld HWZ o0 z0 l0 HR HL
  exact hQ _ _ _ _ _ _ _ _ _ _ _ _ _ _ _ _ _ HR2 HL2
end Go.Proofs.YtkaokfmaecdkiaaGreatDoor
namespace Go.Proofs.YtkaokfmaecdkiaaGreatDoor
open Go Go.RowKit Go.Deep

set_option maxRecDepth 100000 in
set_option maxHeartbeats 32000000 in
theorem sreg36 {w : World} (n : Nt.Net) (la : Option Addr) (lk : Nat) (fa : Option Addr) (fk : Nat) (wa : Option Addr) (wk gc gn : Nat) (na : Option Addr) (gw gt gl m : Nat) (wh : Nat → Int) (x : Int × Int) (z A B G : Int) (b : World) (o : Nat) (x0 x2 x3 x5 x6 x7 x8 x9 x10 x11 x13 x16 x17 x18 x19 x20 x21 x22 x23 x24 x25 x26 x27 x28 x29 x30 x31 x32 x33 x34 x35 x36 x37 x38 x39 x40 x41 x42 x43 x44 x45 x46 x47 x48 x49 x50 x51 x52 x53 x54 x55 x56 x57 x58 x59 x60 x61 x62 x63 x64 x65 x66 x67 x68 x69 x70 x71 x72 x73 x74 x75 x76 x77 x78 x79 x80 x81 x82 x83 x84 x85 x86 x87 x88 x89 x90 x91 x92 x93 x94 x95 x96 x97 x98 x99 x100 x101 x102 x103 x104 x105 x106 x107 x108 x109 x110 x111 x112 x113 x114 x115 x116 x117 x118 x119 x120 x121 x122 x123 x124 x125 x126 x127 x128 x129 x130 x131 x132 x133 x134 x135 x136 x137 x138 x139 x140 x141 x142 x143 x144 x145 x146 x147 x148 x149 x150 x151 x152 x153 x154 x155 x156 x157 x158 x159 x160 x161 x162 x163 x164 x165 x166 x167 x168 x169 x170 x171 x172 x173 x174 x175 x176 x177 x178 x179 x180 x181 x182 x183 x184 x185 x186 x187 x188 x189 x190 x191 x192 x193 x194 x195 x196 x197 x198 x199 x200 x201 x202 x203 x204 x205 x206 x207 x208 x209 x210 x211 x212 x213 x214 x215 x216 x217 x218 x219 x220 x221 x222 x223 x224 x225 x226 x227 x228 x229 x230 x231 x232 x233 x234 x235 x236 x237 x238 x239 x240 x241 x242 x243 x244 x245 x246 x247 x248 x249 x250 x251 x252 x253 x254 x255 x256 x257 x258 x259 x260 x261 x262 x263 x264 x265 x266 x267 x268 x269 x270 x271 x272 x273 x274 x275 x276 x277 x278 x279 x280 x281 x282 x283 x284 x285 x286 x287 x288 x289 x290 x291 x292 x293 x294 x295 x296 x297 x298 x299 x300 x301 x302 x303 x304 x305 x306 x307 x308 x309 x310 x311 x312 x313 x314 x315 x316 x317 x318 x319 x320 x321 x322 x323 x324 x325 x326 x327 x328 x329 x330 x331 x332 x333 x334 x335 x336 x337 x338 x339 x340 x341 x342 x343 x344 x345 x346 x347 x348 x349 x350 x351 x352 x353 x354 x355 x356 x357 x358 x359 x360 x361 x362 x363 x364 x365 x366 x367 x368 x369 x370 x371 x372 x373 x374 x375 x376 : Value) (ds : _) (Q : Exit → Act → World → Prop) (W0 : World)
    (HR : Hid (R3 gc gw gt m wh x z b W0)) (HL : Hid (Lx gc gw gt gl A B G W0)) (HT : Hid (St2 n la lk fa fk wa wk gc gn na w b)) (HAT : Hid (NtAt n la fa wa w)) (HRT : Hid (Nt.Right n)) (hfix : Nt.fixed n o = true) (HRx : Hid (Fq.R x)) (HGB : Hid (-100000000 ≤ G * (Nt.kh n n.fn o).1 ∧ G * (Nt.kh n n.fn o).1 ≤ 100000000)) (hP : ∀ c (a : Act) o v w, Q (.panic c) (a.put o v) w → Q (.panic c) a w)
    (hQ : ∀ (y154 y155 y156 y157 y158 y159 y160 y161 y162 y163 y164 y165 y166 y167 y168 y169 y170 y171 : Value) (WZ : World) (q1 q2 : Int × Int), q1 = (G * (Nt.kh n n.fn o).1, 1) → q2 = Fq.add x (Fq.tkv q1) → Hid (R3 gc gw gt m wh (Fq.tkv q2) (Fq.tkz q2 (Fq.tkz q1 z)) b WZ) → Q .normal { tmps := #[x0, (.pointer (some ⟨w.heap.size, 0, none⟩)), x2, x3, (.pointer (some ⟨gc, 0, none⟩)), x5, x6, x7, x8, x9, x10, x11, (.pointer (some ⟨gt, 0, none⟩)), x13, (.pointer (some ⟨gl, 0, none⟩)), (.int .i64 o), x16, x17, x18, x19, x20, x21, x22, x23, x24, x25, x26, x27, x28, x29, x30, x31, x32, x33, x34, x35, x36, x37, x38, x39, x40, x41, x42, x43, x44, x45, x46, x47, x48, x49, x50, x51, x52, x53, x54, x55, x56, x57, x58, x59, x60, x61, x62, x63, x64, x65, x66, x67, x68, x69, x70, x71, x72, x73, x74, x75, x76, x77, x78, x79, x80, x81, x82, x83, x84, x85, x86, x87, x88, x89, x90, x91, x92, x93, x94, x95, x96, x97, x98, x99, x100, x101, x102, x103, x104, x105, x106, x107, x108, x109, x110, x111, x112, x113, x114, x115, x116, x117, x118, x119, x120, x121, x122, x123, x124, x125, x126, x127, x128, x129, x130, x131, x132, x133, x134, x135, x136, x137, x138, x139, x140, x141, x142, x143, x144, x145, x146, x147, x148, x149, x150, x151, x152, x153, y154, y155, y156, y157, y158, y159, y160, y161, y162, y163, y164, y165, y166, y167, y168, y169, y170, y171, x172, x173, x174, x175, x176, x177, x178, x179, x180, x181, x182, x183, x184, x185, x186, x187, x188, x189, x190, x191, x192, x193, x194, x195, x196, x197, x198, x199, x200, x201, x202, x203, x204, x205, x206, x207, x208, x209, x210, x211, x212, x213, x214, x215, x216, x217, x218, x219, x220, x221, x222, x223, x224, x225, x226, x227, x228, x229, x230, x231, x232, x233, x234, x235, x236, x237, x238, x239, x240, x241, x242, x243, x244, x245, x246, x247, x248, x249, x250, x251, x252, x253, x254, x255, x256, x257, x258, x259, x260, x261, x262, x263, x264, x265, x266, x267, x268, x269, x270, x271, x272, x273, x274, x275, x276, x277, x278, x279, x280, x281, x282, x283, x284, x285, x286, x287, x288, x289, x290, x291, x292, x293, x294, x295, x296, x297, x298, x299, x300, x301, x302, x303, x304, x305, x306, x307, x308, x309, x310, x311, x312, x313, x314, x315, x316, x317, x318, x319, x320, x321, x322, x323, x324, x325, x326, x327, x328, x329, x330, x331, x332, x333, x334, x335, x336, x337, x338, x339, x340, x341, x342, x343, x344, x345, x346, x347, x348, x349, x350, x351, x352, x353, x354, x355, x356, x357, x358, x359, x360, x361, x362, x363, x364, x365, x366, x367, x368, x369, x370, x371, x372, x373, x374, x375, x376], defers := ds } WZ) :
    (Code.region 36 #[{ dst := some 154, op := Op.move (Operand.tmp 4), type := 57, pos := "l07_linear.go:108", after := #[], guard := none }, { dst := some 155, op := Op.load 35 (Operand.tmp 12), type := 35, pos := "l07_linear.go:108", after := #[], guard := none }, { dst := some 156, op := Op.move (Operand.tmp 4), type := 57, pos := "l07_linear.go:108", after := #[], guard := none }, { dst := some 157, op := Op.fieldAddr 68 (Operand.tmp 14) 2, type := 0, pos := "l07_linear.go:108", after := #[], guard := none }, { dst := some 158, op := Op.load 2 (Operand.tmp 157), type := 2, pos := "l07_linear.go:108", after := #[{ on := 3, ground := Ground.data }], guard := none }, { dst := some 159, op := Op.fieldAddr 27 (Operand.tmp 1) 2, type := 0, pos := "l07_linear.go:108", after := #[], guard := none }, { dst := some 160, op := Op.load 24 (Operand.tmp 159), type := 24, pos := "l07_linear.go:108", after := #[{ on := 5, ground := Ground.data }], guard := none }, { dst := some 161, op := Op.load 27 (Operand.tmp 1), type := 27, pos := "l07_linear.go:108", after := #[], guard := none }, { dst := some 162, op := Op.move (Operand.tmp 15), type := 2, pos := "l07_linear.go:108", after := #[], guard := none }, { dst := some 163, op := Op.call { callee := Callee.value (Operand.func 23), args := #[Operand.tmp 161, Operand.tmp 162], argTypes := #[27, 2] }, type := 3, pos := "l07_linear.go:108", after := #[{ on := 7, ground := Ground.data }, { on := 8, ground := Ground.data }], guard := none }, { dst := some 164, op := Op.indexAddr 24 (Operand.tmp 160) (Operand.tmp 163), type := 0, pos := "l07_linear.go:108", after := #[{ on := 6, ground := Ground.data }, { on := 9, ground := Ground.data }], guard := none }, { dst := some 165, op := Op.fieldAddr 39 (Operand.tmp 164) 1, type := 0, pos := "l07_linear.go:108", after := #[{ on := 10, ground := Ground.data }], guard := none }, { dst := some 166, op := Op.load 2 (Operand.tmp 165), type := 2, pos := "l07_linear.go:108", after := #[{ on := 11, ground := Ground.data }], guard := none }, { dst := some 167, op := Op.binOp BinOp.mul 2 (Operand.tmp 158) (Operand.tmp 166) 2, type := 2, pos := "l07_linear.go:108", after := #[{ on := 4, ground := Ground.data }, { on := 12, ground := Ground.data }], guard := none }, { dst := some 168, op := Op.call { callee := Callee.value (Operand.func 25), args := #[Operand.tmp 167, Operand.const (Value.int IntKind.i64 1)], argTypes := #[2, 2] }, type := 65, pos := "l07_linear.go:108", after := #[{ on := 13, ground := Ground.data }, { on := 9, ground := Ground.chain }], guard := none }, { dst := some 169, op := Op.call { callee := Callee.value (Operand.func 24), args := #[Operand.tmp 156, Operand.tmp 168], argTypes := #[57, 65] }, type := 35, pos := "l07_linear.go:108", after := #[{ on := 2, ground := Ground.data }, { on := 14, ground := Ground.data }, { on := 14, ground := Ground.chain }], guard := none }, { dst := some 170, op := Op.call { callee := Callee.value (Operand.func 26), args := #[Operand.tmp 155, Operand.tmp 169], argTypes := #[35, 35] }, type := 65, pos := "l07_linear.go:108", after := #[{ on := 1, ground := Ground.data }, { on := 15, ground := Ground.data }, { on := 15, ground := Ground.chain }], guard := none }, { dst := some 171, op := Op.call { callee := Callee.value (Operand.func 24), args := #[Operand.tmp 154, Operand.tmp 170], argTypes := #[57, 65] }, type := 35, pos := "l07_linear.go:108", after := #[{ on := 0, ground := Ground.data }, { on := 16, ground := Ground.data }, { on := 16, ground := Ground.chain }], guard := none }, { dst := none, op := Op.store 35 (Operand.tmp 12) (Operand.tmp 171), type := 0, pos := "l07_linear.go:108", after := #[{ on := 17, ground := Ground.data }, { on := 17, ground := Ground.chain }, { on := 0, ground := Ground.phase }, { on := 1, ground := Ground.phase }, { on := 2, ground := Ground.phase }, { on := 3, ground := Ground.phase }, { on := 4, ground := Ground.phase }, { on := 5, ground := Ground.phase }, { on := 6, ground := Ground.phase }, { on := 7, ground := Ground.phase }, { on := 8, ground := Ground.phase }, { on := 9, ground := Ground.phase }, { on := 10, ground := Ground.phase }, { on := 11, ground := Ground.phase }, { on := 12, ground := Ground.phase }, { on := 13, ground := Ground.phase }, { on := 14, ground := Ground.phase }, { on := 15, ground := Ground.phase }, { on := 16, ground := Ground.phase }, { on := 17, ground := Ground.phase }], guard := none }] true).wp Tryz.prog Q { tmps := #[x0, (.pointer (some ⟨w.heap.size, 0, none⟩)), x2, x3, (.pointer (some ⟨gc, 0, none⟩)), x5, x6, x7, x8, x9, x10, x11, (.pointer (some ⟨gt, 0, none⟩)), x13, (.pointer (some ⟨gl, 0, none⟩)), (.int .i64 o), x16, x17, x18, x19, x20, x21, x22, x23, x24, x25, x26, x27, x28, x29, x30, x31, x32, x33, x34, x35, x36, x37, x38, x39, x40, x41, x42, x43, x44, x45, x46, x47, x48, x49, x50, x51, x52, x53, x54, x55, x56, x57, x58, x59, x60, x61, x62, x63, x64, x65, x66, x67, x68, x69, x70, x71, x72, x73, x74, x75, x76, x77, x78, x79, x80, x81, x82, x83, x84, x85, x86, x87, x88, x89, x90, x91, x92, x93, x94, x95, x96, x97, x98, x99, x100, x101, x102, x103, x104, x105, x106, x107, x108, x109, x110, x111, x112, x113, x114, x115, x116, x117, x118, x119, x120, x121, x122, x123, x124, x125, x126, x127, x128, x129, x130, x131, x132, x133, x134, x135, x136, x137, x138, x139, x140, x141, x142, x143, x144, x145, x146, x147, x148, x149, x150, x151, x152, x153, x154, x155, x156, x157, x158, x159, x160, x161, x162, x163, x164, x165, x166, x167, x168, x169, x170, x171, x172, x173, x174, x175, x176, x177, x178, x179, x180, x181, x182, x183, x184, x185, x186, x187, x188, x189, x190, x191, x192, x193, x194, x195, x196, x197, x198, x199, x200, x201, x202, x203, x204, x205, x206, x207, x208, x209, x210, x211, x212, x213, x214, x215, x216, x217, x218, x219, x220, x221, x222, x223, x224, x225, x226, x227, x228, x229, x230, x231, x232, x233, x234, x235, x236, x237, x238, x239, x240, x241, x242, x243, x244, x245, x246, x247, x248, x249, x250, x251, x252, x253, x254, x255, x256, x257, x258, x259, x260, x261, x262, x263, x264, x265, x266, x267, x268, x269, x270, x271, x272, x273, x274, x275, x276, x277, x278, x279, x280, x281, x282, x283, x284, x285, x286, x287, x288, x289, x290, x291, x292, x293, x294, x295, x296, x297, x298, x299, x300, x301, x302, x303, x304, x305, x306, x307, x308, x309, x310, x311, x312, x313, x314, x315, x316, x317, x318, x319, x320, x321, x322, x323, x324, x325, x326, x327, x328, x329, x330, x331, x332, x333, x334, x335, x336, x337, x338, x339, x340, x341, x342, x343, x344, x345, x346, x347, x348, x349, x350, x351, x352, x353, x354, x355, x356, x357, x358, x359, x360, x361, x362, x363, x364, x365, x366, x367, x368, x369, x370, x371, x372, x373, x374, x375, x376], defers := ds } W0 := by
  refine region_L (fun V => (IsBlk 2 gw m wh V ∧ V.rowIs gt 35 2 (rowN [.int .i64 x.1, .int .i64 x.2])) ∧ Lx gc gw gt gl A B G V ∧ St2 n la lk fa fk wa wk gc gn na w V) 18 (by kernel_rfl) ⟨⟨(HR.out.below (Below.refl _ _).drew).wh, (HR.out.below (Below.refl _ _).drew).bx⟩, HL.out.below (Below.refl _ _).drew, HT.out.keep (HR.out.below (Below.refl _ _).drew).fr⟩ (fun hHeld => ?_)
  obtain ⟨Z, hZ⟩ : ∃ Z, Z = W0.drew := ⟨_, rfl⟩
  replace HR := Lib.hid (HR.out.below (Below.refl _ _).drew)
  replace HL := Lib.hid (HL.out.below (Below.refl _ _).drew)
  rw [← hZ] at hHeld HR HL ⊢
  clear hZ
  refine takeL_do (i := 0) (v := (.pointer (some ⟨gc, 0, none⟩))) rfl (by kernel_rfl) (by kernel_rfl) (by kernel_rfl) (by kernel_rfl) (fun _ _ _ h => hP _ _ _ _ _ h) (by rfl) ?_ (by assumption) ?_
  · intro w hSw
    skip
    go_simp
  simp only [Act.put, List.setIfInBounds_toArray, List.set_cons_zero, List.set_cons_succ]
  refine takeL_do (i := 1) (v := (frV x)) rfl (by kernel_rfl) (by kernel_rfl) (by kernel_rfl) (by kernel_rfl) (fun _ _ _ h => hP _ _ _ _ _ h) (by rfl) ?_ (by assumption) ?_
  · intro w hSw
    obtain ⟨l0, l1⟩ := frN2 hSw.1.2
    go_simp
  simp only [Act.put, List.setIfInBounds_toArray, List.set_cons_zero, List.set_cons_succ]
  refine takeL_do (i := 2) (v := (.pointer (some ⟨gc, 0, none⟩))) rfl (by kernel_rfl) (by kernel_rfl) (by kernel_rfl) (by kernel_rfl) (fun _ _ _ h => hP _ _ _ _ _ h) (by rfl) ?_ (by assumption) ?_
  · intro w hSw
    skip
    go_simp
  simp only [Act.put, List.setIfInBounds_toArray, List.set_cons_zero, List.set_cons_succ]
  refine takeL_do (i := 3) (v := (.pointer (some ⟨gl, 2, none⟩))) rfl (by kernel_rfl) (by kernel_rfl) (by kernel_rfl) (by kernel_rfl) (fun _ _ _ h => hP _ _ _ _ _ h) (by rfl) ?_ (by assumption) ?_
  · intro w hSw
    skip
    go_simp
  simp only [Act.put, List.setIfInBounds_toArray, List.set_cons_zero, List.set_cons_succ]
  refine takeL_do (i := 4) (v := (.int .i64 G)) rfl (by kernel_rfl) (by kernel_rfl) (by kernel_rfl) (by kernel_rfl) (fun _ _ _ h => hP _ _ _ _ _ h) (by rfl) ?_ (by assumption) ?_
  · intro w hSw
    have l0 := hSw.2.1.row.cell (i := 2) (by omega)
    simp only [rowN, List.getD_cons_succ, List.getD_cons_zero] at l0
    go_simp
  simp only [Act.put, List.setIfInBounds_toArray, List.set_cons_zero, List.set_cons_succ]
  refine takeL_do (i := 5) (v := (.pointer (some ⟨w.heap.size, 2, none⟩))) rfl (by kernel_rfl) (by kernel_rfl) (by kernel_rfl) (by kernel_rfl) (fun _ _ _ h => hP _ _ _ _ _ h) (by rfl) ?_ (by assumption) ?_
  · intro w hSw
    skip
    go_simp
  simp only [Act.put, List.setIfInBounds_toArray, List.set_cons_zero, List.set_cons_succ]
  refine takeL_do (i := 6) (v := (.slice fa n.fn fk)) rfl (by kernel_rfl) (by kernel_rfl) (by kernel_rfl) (by kernel_rfl) (fun _ _ _ h => hP _ _ _ _ _ h) (by rfl) ?_ (by assumption) ?_
  · intro w hSw
    obtain ⟨⟨x0, x1, x2, x3⟩, _⟩ := rowN4 hSw.2.2.row
    go_simp
  simp only [Act.put, List.setIfInBounds_toArray, List.set_cons_zero, List.set_cons_succ]
  refine takeL_do (i := 7) (v := (ntV n la lk fa fk wa wk)) rfl (by kernel_rfl) (by kernel_rfl) (by kernel_rfl) (by kernel_rfl) (fun _ _ _ h => hP _ _ _ _ _ h) (by rfl) ?_ (by assumption) ?_
  · intro w hSw
    obtain ⟨⟨x0, x1, x2, x3⟩, _⟩ := rowN4 hSw.2.2.row
    go_simp
  simp only [Act.put, List.setIfInBounds_toArray, List.set_cons_zero, List.set_cons_succ]
  refine takeL_do (i := 8) (v := (.int .i64 o)) rfl (by kernel_rfl) (by kernel_rfl) (by kernel_rfl) (by kernel_rfl) (fun _ _ _ h => hP _ _ _ _ _ h) (by rfl) ?_ (by assumption) ?_
  · intro w hSw
    skip
    go_simp
  simp only [Act.put, List.setIfInBounds_toArray, List.set_cons_zero, List.set_cons_succ]
  refine takeL_call (i := 9) rfl (by kernel_rfl) (fun K2 hK => ?_)
  go_simp
  refine (sfixed_any n la lk fa fk wa wk o _ (HAT.out.below (HT.out.keep HR.out.fr).old) HRT.out).mono ?_
  rintro e Z1 ⟨⟨zf, rfl, hfx⟩, hb⟩
  replace HR := Lib.hid (HR.out.below hb)
  replace HL := Lib.hid (HL.out.below hb)
  clear hb
  go_wp2_with fail
  refine hK.out _ _ ⟨⟨HR.out.wh, HR.out.bx⟩, HL.out, HT.out.keep HR.out.fr⟩ (fun hHeld2 => ?_)
  clear hK hHeld
  have hHeld := hHeld2
  clear hHeld2
  obtain ⟨j, hj, hjk, rfl⟩ : ∃ j, j < n.fn ∧ Nt.fx n j = o ∧ zf = (j : Int) := by
    rcases hfx with ⟨h1, _⟩ | h1
    · rw [hfix] at h1; cases h1
    · exact h1
  clear hfx
  have hjz : (j : Int) < (n.fn : Int) := by omega
  have HKP := Lib.hid (Nt.kh_place HRT.out hj hjk)
  clear hjk
  obtain ⟨fb, rfl⟩ : ∃ fb, fa = some ⟨fb, 0, none⟩ := by
    obtain ⟨b, e, _⟩ := HAT.out.f.at2 hj
    exact ⟨b, e⟩
  obtain ⟨X, hX⟩ : ∃ X : Int, X = n.F (j * 2 + 1) := ⟨_, rfl⟩
  have HX1 : Hid (n.F (j * 2 + 1) = X) := hX.symm
  have HX2 : Hid ((Nt.kh n n.fn o).1 = X) := by show _ = _; rw [HKP.out, hX]
  clear hX HKP
  have hgb : -100000000 ≤ G * X ∧ G * X ≤ 100000000 := by rw [← HX2.out]; exact HGB.out
  refine takeL_do (i := 10) (v := (.pointer (some ⟨fb, j * 2, none⟩))) rfl (by kernel_rfl) (by kernel_rfl) (by kernel_rfl) (by kernel_rfl) (fun _ _ _ h => hP _ _ _ _ _ h) (by rfl) ?_ (by assumption) ?_
  · intro w hSw
    skip
    go_simp
  simp only [Act.put, List.setIfInBounds_toArray, List.set_cons_zero, List.set_cons_succ]
  refine takeL_do (i := 11) (v := (.pointer (some ⟨fb, j * 2 + 1, none⟩))) rfl (by kernel_rfl) (by kernel_rfl) (by kernel_rfl) (by kernel_rfl) (fun _ _ _ h => hP _ _ _ _ _ h) (by rfl) ?_ (by assumption) ?_
  · intro w hSw
    skip
    go_simp
  simp only [Act.put, List.setIfInBounds_toArray, List.set_cons_zero, List.set_cons_succ]
  refine takeL_do (i := 12) (v := (.int .i64 X)) rfl (by kernel_rfl) (by kernel_rfl) (by kernel_rfl) (by kernel_rfl) (fun _ _ _ h => hP _ _ _ _ _ h) (by rfl) ?_ (by assumption) ?_
  · intro w hSw
    obtain ⟨b9, e9, _, l0⟩ := (HAT.out.below hSw.2.2.old).f.at2 hj
    cases e9
    rw [HX1.out] at l0
    go_simp
  simp only [Act.put, List.setIfInBounds_toArray, List.set_cons_zero, List.set_cons_succ]
  refine takeL_do (i := 13) (v := (.int .i64 (G * X))) rfl (by kernel_rfl) (by kernel_rfl) (by kernel_rfl) (by kernel_rfl) (fun _ _ _ h => hP _ _ _ _ _ h) (by rfl) ?_ (by assumption) ?_
  · intro w hSw
    have hwr : IntKind.i64.wrap (G * X) = G * X := md_wrap (by omega) (by omega)
    go_simp
  simp only [Act.put, List.setIfInBounds_toArray, List.set_cons_zero, List.set_cons_succ]
  obtain ⟨q1, hq1⟩ : ∃ q : Int × Int, q = (G * X, 1) := ⟨_, rfl⟩
  have HCO := Lib.hid (fun (V : World) => specOf_any (G * X) 1 V (by omega) (by omega) (by omega) (by omega))
  have HV1 : Hid (∀ V : World, Calls Tryz.prog 25 #[.int .i64 (G * X), .int .i64 1] V fun e w' => e = .returned (foV q1) ∧ Below V.heap.size V w') := by
    intro V
    rw [hq1]
    exact HCO.out V
  have Hq1 := Lib.hid hq1
  clear hq1 HCO
  refine takeL_call (i := 14) rfl (by kernel_rfl) (fun K2 hK => ?_)
  go_simp
  refine (HV1.out _).mono ?_
  rintro e Z2 ⟨rfl, hb⟩
  replace HR := Lib.hid (HR.out.below hb)
  replace HL := Lib.hid (HL.out.below hb)
  clear hb HV1
  go_wp2_with fail
  refine hK.out _ _ ⟨⟨HR.out.wh, HR.out.bx⟩, HL.out, HT.out.keep HR.out.fr⟩ (fun hHeld2 => ?_)
  clear hK hHeld
  have hHeld := hHeld2
  clear hHeld2
  obtain ⟨p1, hp1⟩ : ∃ v, v = Fq.tkv q1 := ⟨_, rfl⟩
  obtain ⟨z1, hz1⟩ : ∃ v, v = Fq.tkz q1 z := ⟨_, rfl⟩
  have HCp1 := Lib.hid (take_any gc q1 z _ HR.out.rc)
  rw [← hp1, ← hz1] at HCp1
  have Hp1 := Lib.hid hp1
  have Hz1 := Lib.hid hz1
  clear hp1 hz1
  refine takeL_call (i := 15) rfl (by kernel_rfl) (fun K2 hK => ?_)
  go_simp
  refine HCp1.out.mono ?_
  rintro e Z3 ⟨rfl, hrz, hon⟩
  replace HR := Lib.hid (HR.out.take hrz hon)
  replace HL := Lib.hid (HL.out.only hon)
  clear hrz hon HCp1
  go_wp2_with fail
  refine hK.out _ _ ⟨⟨HR.out.wh, HR.out.bx⟩, HL.out, HT.out.keep HR.out.fr⟩ (fun hHeld2 => ?_)
  clear hK hHeld
  have hHeld := hHeld2
  clear hHeld2
  have HRp : Hid (Fq.R p1) := by show Fq.R _; rw [Hp1.out, Hq1.out]; obtain ⟨h1, h2, h3⟩ := Nt.whole_fq (g := G * X) ⟨by omega, by omega⟩; rw [Fq.tkv_ok h1, h2]; exact h3
  obtain ⟨q2, hq2⟩ : ∃ q, q = Fq.add x p1 := ⟨_, rfl⟩
  have HCq2 := Lib.hid (fun (V : World) => nspecAdd x p1 V HRx.out HRp.out)
  rw [← hq2] at HCq2
  have Hq2 := Lib.hid hq2
  clear hq2
  refine takeL_call (i := 16) rfl (by kernel_rfl) (fun K2 hK => ?_)
  go_simp
  refine (HCq2.out _).mono ?_
  rintro e Z4 ⟨rfl, hb⟩
  replace HR := Lib.hid (HR.out.below hb)
  replace HL := Lib.hid (HL.out.below hb)
  clear hb HCq2
  go_wp2_with fail
  refine hK.out _ _ ⟨⟨HR.out.wh, HR.out.bx⟩, HL.out, HT.out.keep HR.out.fr⟩ (fun hHeld2 => ?_)
  clear hK hHeld
  have hHeld := hHeld2
  clear hHeld2
  obtain ⟨p2, hp2⟩ : ∃ v, v = Fq.tkv q2 := ⟨_, rfl⟩
  obtain ⟨z2, hz2⟩ : ∃ v, v = Fq.tkz q2 z1 := ⟨_, rfl⟩
  have HCp2 := Lib.hid (take_any gc q2 z1 _ HR.out.rc)
  rw [← hp2, ← hz2] at HCp2
  have Hp2 := Lib.hid hp2
  have Hz2 := Lib.hid hz2
  clear hp2 hz2
  refine takeL_call (i := 17) rfl (by kernel_rfl) (fun K2 hK => ?_)
  go_simp
  refine HCp2.out.mono ?_
  rintro e Z5 ⟨rfl, hrz, hon⟩
  replace HR := Lib.hid (HR.out.take hrz hon)
  replace HL := Lib.hid (HL.out.only hon)
  clear hrz hon HCp2
  go_wp2_with fail
  refine hK.out _ _ ⟨⟨HR.out.wh, HR.out.bx⟩, HL.out, HT.out.keep HR.out.fr⟩ (fun hHeld2 => ?_)
  clear hK hHeld
  have hHeld := hHeld2
  clear hHeld2
  obtain ⟨o0, o1⟩ := frN2 HR.out.bx
  have z0 := HR.out.bx.frozen 0
  have z1' := HR.out.bx.frozen 1
  have l0 := HR.out.bx.lt
  obtain ⟨WZ, hWZ⟩ : ∃ WZ, WZ = (Z5.setCell ⟨gt, 0, none⟩ (.int .i64 p2.1)).setCell ⟨gt, 1, none⟩ (.int .i64 p2.2) := ⟨_, rfl⟩
  have HR2 := Lib.hid (HR.out.box p2)
  rw [← hWZ] at HR2
  have HWZ := Lib.hid hWZ
  clear hWZ
  refine takeL_last rfl (by kernel_rfl) (by kernel_rfl) (fun K2 hK => ?_)
  go_simp
  rw [← HWZ.out]
  refine hK.out _ _ ?_
  clear hK hHeld HWZ o0 o1 z0 z1' l0 HR HL
  exact hQ _ _ _ _ _ _ _ _ _ _ _ _ _ _ _ _ _ _ _ q1 q2 (by rw [Hq1.out, HX2.out]) (by rw [Hq2.out, Hp1.out]) (by rw [Hz2.out, Hz1.out, Hp2.out] at HR2; exact HR2)
end Go.Proofs.YtkaokfmaecdkiaaGreatDoor
namespace Go.Proofs.YtkaokfmaecdkiaaGreatDoor
open Go Go.RowKit Go.Deep

theorem free_pre {n : Nt.Net} {k : Nat} : ∀ K, k ≤ K → ∃ t, Nt.freeTo n K = Nt.freeTo n k ++ t
  | 0, h => by
    obtain rfl : k = 0 := by omega
    exact ⟨[], by simp⟩
  | K + 1, h => by
    by_cases e : k = K + 1
    · subst e; exact ⟨[], by simp⟩
    · obtain ⟨t, ht⟩ := free_pre (n := n) (k := k) K (by omega)
      exact ⟨t ++ (if Nt.fixed n K then [] else [K]), by rw [Nt.freeTo, ht, List.append_assoc]⟩
theorem nd_no {n : Nt.Net} {o : Nat} (ho : o < Nt.nn n) (hf : Nt.fixed n o = false) : (Nt.freeTo n o).length < Nt.mm n ∧ Nt.nd n (Nt.freeTo n o).length = o := by
  obtain ⟨t, ht⟩ := free_pre (n := n) (k := o + 1) (Nt.nn n) (by omega)
  have e : Nt.freeTo n (o + 1) = Nt.freeTo n o ++ [o] := by simp [Nt.freeTo, hf]
  rw [e] at ht
  unfold Nt.mm Nt.nd Nt.free
  rw [ht]
  refine ⟨by simp, ?_⟩
  simp [List.getD_eq_getElem?_getD]
theorem at_cell3 {b N r : Nat} {f : Nat → Int} {W : World} (h : IsAt (some ⟨b, 0, none⟩) N f W) (hr : r < N) : W.cell? ⟨b, r, none⟩ = some (.int .i64 (f r)) := by
  obtain ⟨c, e, k⟩ := h.at1 hr
  cases e
  exact k
set_option maxRecDepth 100000 in
set_option maxHeartbeats 32000000 in
theorem sloop3 {w : World} (n : Nt.Net) (la : Option Addr) (lk : Nat) (fa : Option Addr) (fk : Nat) (wa : Option Addr) (wk gc gn nb nk gw gt r : Nat) (wh : Nat → Int) (x : Int × Int) (z : Int) (Z Pre : Prop) (b : World) (x0 x2 x3 x7 x8 x9 x14 x15 x16 x17 x18 x19 x20 x21 x22 x23 x24 x25 x26 x27 x28 x29 x30 x31 x32 x33 x34 x35 x36 x37 x38 x39 x40 x41 x42 x43 x44 x45 x46 x47 x48 x49 x50 x51 x52 x53 x54 x55 x56 x57 x58 x59 x60 x61 x62 x63 x64 x65 x66 x67 x68 x69 x70 x71 x72 x73 x74 x75 x76 x77 x78 x79 x80 x81 x82 x83 x84 x85 x86 x87 x88 x89 x90 x91 x92 x93 x94 x95 x96 x97 x98 x99 x100 x101 x102 x103 x104 x105 x106 x107 x108 x109 x110 x111 x112 x113 x114 x115 x116 x117 x118 x119 x120 x121 x122 x123 x124 x125 x126 x127 x128 x129 x130 x131 x132 x133 x134 x135 x136 x137 x138 x139 x140 x141 x142 x143 x144 x145 x146 x147 x148 x149 x150 x151 x152 x153 x154 x155 x156 x157 x158 x159 x160 x161 x162 x163 x164 x165 x166 x167 x168 x169 x170 x171 x172 x173 x174 x175 x176 x177 x178 x179 x180 x181 x182 x183 x184 x185 x186 x187 x188 x189 x190 x191 x192 x193 x194 x195 x196 x197 x198 x199 x200 x201 x202 x203 x204 x205 x206 x207 x208 x209 x210 x211 x212 x213 x214 x215 x216 x217 x218 x219 x220 x221 x222 x223 x224 x225 x226 x227 x228 x229 x230 x231 x232 x233 x234 x235 x236 x237 x238 x239 x240 x241 x242 x243 x244 x245 x246 x247 x248 x249 x250 x251 x252 x253 x254 x255 x256 x257 x258 x259 x260 x261 x262 x263 x264 x265 x266 x267 x268 x269 x270 x271 x272 x273 x274 x275 x276 x277 x278 x279 x280 x281 x282 x283 x284 x285 x286 x287 x288 x289 x290 x291 x292 x293 x294 x295 x296 x297 x298 x299 x300 x301 x302 x303 x304 x305 x306 x307 x308 x309 x310 x311 x312 x313 x314 x315 x316 x317 x318 x319 x320 x321 x322 x323 x324 x325 x326 x327 x328 x329 x330 x331 x332 x333 x334 x335 x336 x337 x338 x339 x340 x341 x342 x343 x344 x345 x346 x347 x348 x349 x350 x351 x352 x353 x354 x355 x356 x357 x358 x359 x360 x361 x362 x363 x364 x365 x366 x367 x368 x369 x370 x371 x372 x373 x374 x375 x376 : Value) (ds : _) (Q : Exit → Act → World → Prop) (W0 : World)
    (HR : Hid (R3 gc gw gt (Nt.mm n) wh x z b W0)) (HW : Hid (Nt.Wh n (Nt.nd n r) 0 wh)) (HK : Hid (Nt.Rk n Z Pre (Nt.nd n r) 0 z x)) (HT : Hid (St2 n la lk fa fk wa wk gc gn (some ⟨nb, 0, none⟩) w b)) (HAT : Hid (NtAt n la fa wa w)) (HRT : Hid (Nt.Right n)) (hr : r < Nt.mm n) (HZ : Hid (Z → Nt.RhsOk n (Nt.nd n r) n.ln))
    (hP : ∀ c (a : Act) o v w, Q (.panic c) (a.put o v) w → Q (.panic c) a w)
    (hQ : ∀ (y13 y14 y15 y91 y92 y93 y94 y95 y96 y97 y98 y99 y100 y101 y102 y103 y104 y105 y106 y107 y108 y109 y110 y111 y112 y113 y114 y115 y116 y117 y118 y119 y120 y121 y122 y123 y124 y125 y126 y127 y128 y129 y130 y131 y132 y133 y134 y135 y136 y137 y138 y139 y140 y141 y142 y143 y144 y145 y146 y147 y148 y149 y150 y151 y152 y153 y154 y155 y156 y157 y158 y159 y160 y161 y162 y163 y164 y165 y166 y167 y168 y169 y170 y171 : Value) (WZ : World) (wh : Nat → Int) (x : Int × Int) (z : Int), Hid (Nt.Wh n (Nt.nd n r) n.ln wh) → Hid (Nt.Rk n Z Pre (Nt.nd n r) n.ln z x) → Hid (R3 gc gw gt (Nt.mm n) wh x z b WZ) → Q (.exit 4) { tmps := #[x0, (.pointer (some ⟨w.heap.size, 0, none⟩)), x2, x3, (.pointer (some ⟨gc, 0, none⟩)), (.slice (some ⟨nb, 0, none⟩) (Nt.mm n) nk), (.slice (some ⟨gn, 0, none⟩) (Nt.nn n) (Nt.nn n)), x7, x8, x9, (.int .i64 r), (.slice (some ⟨gw, 0, none⟩) (Nt.mm n) (Nt.mm n)), (.pointer (some ⟨gt, 0, none⟩)), y13, y14, y15, x16, x17, x18, x19, x20, x21, x22, x23, x24, x25, x26, x27, x28, x29, x30, x31, x32, x33, x34, x35, x36, x37, x38, x39, x40, x41, x42, x43, x44, x45, x46, x47, x48, x49, x50, x51, x52, x53, x54, x55, x56, x57, x58, x59, x60, x61, x62, x63, x64, x65, x66, x67, x68, x69, x70, x71, x72, x73, x74, x75, x76, x77, x78, x79, x80, x81, x82, x83, x84, x85, x86, x87, x88, x89, x90, y91, y92, y93, y94, y95, y96, y97, y98, y99, y100, y101, y102, y103, y104, y105, y106, y107, y108, y109, y110, y111, y112, y113, y114, y115, y116, y117, y118, y119, y120, y121, y122, y123, y124, y125, y126, y127, y128, y129, y130, y131, y132, y133, y134, y135, y136, y137, y138, y139, y140, y141, y142, y143, y144, y145, y146, y147, y148, y149, y150, y151, y152, y153, y154, y155, y156, y157, y158, y159, y160, y161, y162, y163, y164, y165, y166, y167, y168, y169, y170, y171, x172, x173, x174, x175, x176, x177, x178, x179, x180, x181, x182, x183, x184, x185, x186, x187, x188, x189, x190, x191, x192, x193, x194, x195, x196, x197, x198, x199, x200, x201, x202, x203, x204, x205, x206, x207, x208, x209, x210, x211, x212, x213, x214, x215, x216, x217, x218, x219, x220, x221, x222, x223, x224, x225, x226, x227, x228, x229, x230, x231, x232, x233, x234, x235, x236, x237, x238, x239, x240, x241, x242, x243, x244, x245, x246, x247, x248, x249, x250, x251, x252, x253, x254, x255, x256, x257, x258, x259, x260, x261, x262, x263, x264, x265, x266, x267, x268, x269, x270, x271, x272, x273, x274, x275, x276, x277, x278, x279, x280, x281, x282, x283, x284, x285, x286, x287, x288, x289, x290, x291, x292, x293, x294, x295, x296, x297, x298, x299, x300, x301, x302, x303, x304, x305, x306, x307, x308, x309, x310, x311, x312, x313, x314, x315, x316, x317, x318, x319, x320, x321, x322, x323, x324, x325, x326, x327, x328, x329, x330, x331, x332, x333, x334, x335, x336, x337, x338, x339, x340, x341, x342, x343, x344, x345, x346, x347, x348, x349, x350, x351, x352, x353, x354, x355, x356, x357, x358, x359, x360, x361, x362, x363, x364, x365, x366, x367, x368, x369, x370, x371, x372, x373, x374, x375, x376], defers := ds } WZ) :
    ((((Code.region 24 #[{ dst := some 91, op := Op.move (Operand.tmp 13), type := 3, pos := "l07_linear.go:93", after := #[], guard := none }, { dst := some 92, op := Op.fieldAddr 27 (Operand.tmp 1) 1, type := 0, pos := "l07_linear.go:93", after := #[], guard := none }, { dst := some 93, op := Op.load 23 (Operand.tmp 92), type := 23, pos := "l07_linear.go:93", after := #[{ on := 1, ground := Ground.data }], guard := none }, { dst := some 94, op := Op.call { callee := Callee.builtin Builtin.len, args := #[Operand.tmp 93], argTypes := #[23] }, type := 3, pos := "l07_linear.go:93", after := #[{ on := 2, ground := Ground.data }], guard := none }, { dst := some 95, op := Op.binOp BinOp.lss 3 (Operand.tmp 91) (Operand.tmp 94) 3, type := 4, pos := "l07_linear.go:93", after := #[{ on := 0, ground := Ground.data }, { on := 3, ground := Ground.data }], guard := none }] false).seq (Code.cond (Operand.tmp 95) Code.skip (Code.exit 4))).seq ((Code.block 5 ((Code.region 26 #[{ dst := some 98, op := Op.fieldAddr 27 (Operand.tmp 1) 1, type := 0, pos := "l07_linear.go:94", after := #[], guard := none }, { dst := some 99, op := Op.load 23 (Operand.tmp 98), type := 23, pos := "l07_linear.go:94", after := #[{ on := 0, ground := Ground.data }], guard := none }, { dst := some 100, op := Op.move (Operand.tmp 13), type := 3, pos := "l07_linear.go:94", after := #[], guard := none }, { dst := some 101, op := Op.indexAddr 23 (Operand.tmp 99) (Operand.tmp 100), type := 0, pos := "l07_linear.go:94", after := #[{ on := 1, ground := Ground.data }, { on := 2, ground := Ground.data }], guard := none }, { dst := some 102, op := Op.load 68 (Operand.tmp 101), type := 68, pos := "l07_linear.go:94", after := #[{ on := 3, ground := Ground.data }], guard := none }, { dst := some 14, op := Op.alloc 68, type := 0, pos := "l07_linear.go:94", after := #[], guard := none }, { dst := none, op := Op.store 68 (Operand.tmp 14) (Operand.tmp 102), type := 0, pos := "l07_linear.go:94", after := #[{ on := 5, ground := Ground.data }, { on := 4, ground := Ground.data }, { on := 0, ground := Ground.phase }, { on := 1, ground := Ground.phase }, { on := 2, ground := Ground.phase }, { on := 3, ground := Ground.phase }, { on := 4, ground := Ground.phase }, { on := 5, ground := Ground.phase }], guard := none }] false).seq ((Code.region 27 #[{ dst := some 15, op := Op.assign (Operand.const (Value.int IntKind.i64 (-1))), type := 2, pos := "l07_linear.go:95", after := #[], guard := none }] false).seq (((Code.region 28 #[{ dst := some 103, op := Op.fieldAddr 68 (Operand.tmp 14) 0, type := 0, pos := "l07_linear.go:96", after := #[], guard := none }, { dst := some 104, op := Op.load 2 (Operand.tmp 103), type := 2, pos := "l07_linear.go:96", after := #[{ on := 0, ground := Ground.data }], guard := none }, { dst := some 105, op := Op.move (Operand.tmp 5), type := 25, pos := "l07_linear.go:96", after := #[], guard := none }, { dst := some 106, op := Op.move (Operand.tmp 10), type := 3, pos := "l07_linear.go:96", after := #[], guard := none }, { dst := some 107, op := Op.indexAddr 25 (Operand.tmp 105) (Operand.tmp 106), type := 0, pos := "l07_linear.go:96", after := #[{ on := 2, ground := Ground.data }, { on := 3, ground := Ground.data }], guard := none }, { dst := some 108, op := Op.load 2 (Operand.tmp 107), type := 2, pos := "l07_linear.go:96", after := #[{ on := 4, ground := Ground.data }], guard := none }, { dst := some 109, op := Op.binOp BinOp.eql 2 (Operand.tmp 104) (Operand.tmp 108) 2, type := 4, pos := "l07_linear.go:96", after := #[{ on := 1, ground := Ground.data }, { on := 5, ground := Ground.data }], guard := none }] true).seq (Code.cond (Operand.tmp 109) (Code.region 29 #[{ dst := some 110, op := Op.fieldAddr 68 (Operand.tmp 14) 1, type := 0, pos := "l07_linear.go:97", after := #[], guard := none }, { dst := some 111, op := Op.load 2 (Operand.tmp 110), type := 2, pos := "l07_linear.go:97", after := #[{ on := 0, ground := Ground.data }], guard := none }, { dst := some 15, op := Op.assign (Operand.tmp 111), type := 2, pos := "l07_linear.go:97", after := #[{ on := 1, ground := Ground.data }, { on := 0, ground := Ground.phase }, { on := 1, ground := Ground.phase }], guard := none }] false) ((Code.region 30 #[{ dst := some 112, op := Op.fieldAddr 68 (Operand.tmp 14) 1, type := 0, pos := "l07_linear.go:98", after := #[], guard := none }, { dst := some 113, op := Op.load 2 (Operand.tmp 112), type := 2, pos := "l07_linear.go:98", after := #[{ on := 0, ground := Ground.data }], guard := none }, { dst := some 114, op := Op.move (Operand.tmp 5), type := 25, pos := "l07_linear.go:98", after := #[], guard := none }, { dst := some 115, op := Op.move (Operand.tmp 10), type := 3, pos := "l07_linear.go:98", after := #[], guard := none }, { dst := some 116, op := Op.indexAddr 25 (Operand.tmp 114) (Operand.tmp 115), type := 0, pos := "l07_linear.go:98", after := #[{ on := 2, ground := Ground.data }, { on := 3, ground := Ground.data }], guard := none }, { dst := some 117, op := Op.load 2 (Operand.tmp 116), type := 2, pos := "l07_linear.go:98", after := #[{ on := 4, ground := Ground.data }], guard := none }, { dst := some 118, op := Op.binOp BinOp.eql 2 (Operand.tmp 113) (Operand.tmp 117) 2, type := 4, pos := "l07_linear.go:98", after := #[{ on := 1, ground := Ground.data }, { on := 5, ground := Ground.data }], guard := none }] true).seq (Code.cond (Operand.tmp 118) (Code.region 31 #[{ dst := some 119, op := Op.fieldAddr 68 (Operand.tmp 14) 0, type := 0, pos := "l07_linear.go:99", after := #[], guard := none }, { dst := some 120, op := Op.load 2 (Operand.tmp 119), type := 2, pos := "l07_linear.go:99", after := #[{ on := 0, ground := Ground.data }], guard := none }, { dst := some 15, op := Op.assign (Operand.tmp 120), type := 2, pos := "l07_linear.go:99", after := #[{ on := 1, ground := Ground.data }, { on := 0, ground := Ground.phase }, { on := 1, ground := Ground.phase }], guard := none }] false) Code.skip)))).seq (((Code.region 32 #[{ dst := some 121, op := Op.move (Operand.tmp 15), type := 2, pos := "l07_linear.go:101", after := #[], guard := none }, { dst := some 122, op := Op.binOp BinOp.eql 2 (Operand.tmp 121) (Operand.const (Value.int IntKind.i64 (-1))) 2, type := 4, pos := "l07_linear.go:101", after := #[{ on := 0, ground := Ground.data }], guard := none }] false).seq (Code.cond (Operand.tmp 122) (Code.exit 5) Code.skip)).seq ((Code.region 33 #[{ dst := some 123, op := Op.move (Operand.tmp 11), type := 25, pos := "l07_linear.go:104", after := #[], guard := none }, { dst := some 124, op := Op.move (Operand.tmp 10), type := 3, pos := "l07_linear.go:104", after := #[], guard := none }, { dst := some 125, op := Op.move (Operand.tmp 11), type := 25, pos := "l07_linear.go:104", after := #[], guard := none }, { dst := some 126, op := Op.move (Operand.tmp 10), type := 3, pos := "l07_linear.go:104", after := #[], guard := none }, { dst := some 127, op := Op.indexAddr 25 (Operand.tmp 125) (Operand.tmp 126), type := 0, pos := "l07_linear.go:104", after := #[{ on := 2, ground := Ground.data }, { on := 3, ground := Ground.data }], guard := none }, { dst := some 128, op := Op.load 2 (Operand.tmp 127), type := 2, pos := "l07_linear.go:104", after := #[{ on := 4, ground := Ground.data }], guard := none }, { dst := some 129, op := Op.fieldAddr 68 (Operand.tmp 14) 2, type := 0, pos := "l07_linear.go:104", after := #[], guard := none }, { dst := some 130, op := Op.load 2 (Operand.tmp 129), type := 2, pos := "l07_linear.go:104", after := #[{ on := 6, ground := Ground.data }], guard := none }, { dst := some 131, op := Op.binOp BinOp.add 2 (Operand.tmp 128) (Operand.tmp 130) 2, type := 2, pos := "l07_linear.go:104", after := #[{ on := 5, ground := Ground.data }, { on := 7, ground := Ground.data }], guard := none }, { dst := some 132, op := Op.indexAddr 25 (Operand.tmp 123) (Operand.tmp 124), type := 0, pos := "l07_linear.go:104", after := #[{ on := 0, ground := Ground.data }, { on := 1, ground := Ground.data }, { on := 0, ground := Ground.phase }, { on := 1, ground := Ground.phase }, { on := 2, ground := Ground.phase }, { on := 3, ground := Ground.phase }, { on := 4, ground := Ground.phase }, { on := 5, ground := Ground.phase }, { on := 6, ground := Ground.phase }, { on := 7, ground := Ground.phase }, { on := 8, ground := Ground.phase }], guard := none }, { dst := none, op := Op.store 2 (Operand.tmp 132) (Operand.tmp 131), type := 0, pos := "l07_linear.go:104", after := #[{ on := 9, ground := Ground.data }, { on := 8, ground := Ground.data }, { on := 0, ground := Ground.phase }, { on := 1, ground := Ground.phase }, { on := 2, ground := Ground.phase }, { on := 3, ground := Ground.phase }, { on := 4, ground := Ground.phase }, { on := 5, ground := Ground.phase }, { on := 6, ground := Ground.phase }, { on := 7, ground := Ground.phase }, { on := 8, ground := Ground.phase }], guard := none }] true).seq ((Code.region 34 #[{ dst := some 133, op := Op.move (Operand.tmp 6), type := 60, pos := "l07_linear.go:105", after := #[], guard := none }, { dst := some 134, op := Op.move (Operand.tmp 15), type := 2, pos := "l07_linear.go:105", after := #[], guard := none }, { dst := some 135, op := Op.indexAddr 60 (Operand.tmp 133) (Operand.tmp 134), type := 0, pos := "l07_linear.go:105", after := #[{ on := 0, ground := Ground.data }, { on := 1, ground := Ground.data }], guard := none }, { dst := some 136, op := Op.load 3 (Operand.tmp 135), type := 3, pos := "l07_linear.go:105", after := #[{ on := 2, ground := Ground.data }], guard := none }, { dst := some 137, op := Op.binOp BinOp.geq 3 (Operand.tmp 136) (Operand.const (Value.int IntKind.i64 0)) 3, type := 4, pos := "l07_linear.go:105", after := #[{ on := 3, ground := Ground.data }], guard := none }] false).seq (Code.cond (Operand.tmp 137) (Code.region 35 #[{ dst := some 138, op := Op.move (Operand.tmp 11), type := 25, pos := "l07_linear.go:106", after := #[], guard := none }, { dst := some 139, op := Op.move (Operand.tmp 6), type := 60, pos := "l07_linear.go:106", after := #[], guard := none }, { dst := some 140, op := Op.move (Operand.tmp 15), type := 2, pos := "l07_linear.go:106", after := #[], guard := none }, { dst := some 141, op := Op.indexAddr 60 (Operand.tmp 139) (Operand.tmp 140), type := 0, pos := "l07_linear.go:106", after := #[{ on := 1, ground := Ground.data }, { on := 2, ground := Ground.data }], guard := none }, { dst := some 142, op := Op.load 3 (Operand.tmp 141), type := 3, pos := "l07_linear.go:106", after := #[{ on := 3, ground := Ground.data }], guard := none }, { dst := some 143, op := Op.move (Operand.tmp 11), type := 25, pos := "l07_linear.go:106", after := #[], guard := none }, { dst := some 144, op := Op.move (Operand.tmp 6), type := 60, pos := "l07_linear.go:106", after := #[], guard := none }, { dst := some 145, op := Op.move (Operand.tmp 15), type := 2, pos := "l07_linear.go:106", after := #[], guard := none }, { dst := some 146, op := Op.indexAddr 60 (Operand.tmp 144) (Operand.tmp 145), type := 0, pos := "l07_linear.go:106", after := #[{ on := 6, ground := Ground.data }, { on := 7, ground := Ground.data }], guard := none }, { dst := some 147, op := Op.load 3 (Operand.tmp 146), type := 3, pos := "l07_linear.go:106", after := #[{ on := 8, ground := Ground.data }], guard := none }, { dst := some 148, op := Op.indexAddr 25 (Operand.tmp 143) (Operand.tmp 147), type := 0, pos := "l07_linear.go:106", after := #[{ on := 5, ground := Ground.data }, { on := 9, ground := Ground.data }], guard := none }, { dst := some 149, op := Op.load 2 (Operand.tmp 148), type := 2, pos := "l07_linear.go:106", after := #[{ on := 10, ground := Ground.data }], guard := none }, { dst := some 150, op := Op.fieldAddr 68 (Operand.tmp 14) 2, type := 0, pos := "l07_linear.go:106", after := #[], guard := none }, { dst := some 151, op := Op.load 2 (Operand.tmp 150), type := 2, pos := "l07_linear.go:106", after := #[{ on := 12, ground := Ground.data }], guard := none }, { dst := some 152, op := Op.binOp BinOp.sub 2 (Operand.tmp 149) (Operand.tmp 151) 2, type := 2, pos := "l07_linear.go:106", after := #[{ on := 11, ground := Ground.data }, { on := 13, ground := Ground.data }], guard := none }, { dst := some 153, op := Op.indexAddr 25 (Operand.tmp 138) (Operand.tmp 142), type := 0, pos := "l07_linear.go:106", after := #[{ on := 0, ground := Ground.data }, { on := 4, ground := Ground.data }, { on := 0, ground := Ground.phase }, { on := 1, ground := Ground.phase }, { on := 2, ground := Ground.phase }, { on := 3, ground := Ground.phase }, { on := 4, ground := Ground.phase }, { on := 5, ground := Ground.phase }, { on := 6, ground := Ground.phase }, { on := 7, ground := Ground.phase }, { on := 8, ground := Ground.phase }, { on := 9, ground := Ground.phase }, { on := 10, ground := Ground.phase }, { on := 11, ground := Ground.phase }, { on := 12, ground := Ground.phase }, { on := 13, ground := Ground.phase }, { on := 14, ground := Ground.phase }], guard := none }, { dst := none, op := Op.store 2 (Operand.tmp 153) (Operand.tmp 152), type := 0, pos := "l07_linear.go:106", after := #[{ on := 15, ground := Ground.data }, { on := 14, ground := Ground.data }, { on := 0, ground := Ground.phase }, { on := 1, ground := Ground.phase }, { on := 2, ground := Ground.phase }, { on := 3, ground := Ground.phase }, { on := 4, ground := Ground.phase }, { on := 5, ground := Ground.phase }, { on := 6, ground := Ground.phase }, { on := 7, ground := Ground.phase }, { on := 8, ground := Ground.phase }, { on := 9, ground := Ground.phase }, { on := 10, ground := Ground.phase }, { on := 11, ground := Ground.phase }, { on := 12, ground := Ground.phase }, { on := 13, ground := Ground.phase }, { on := 14, ground := Ground.phase }], guard := none }] true) (Code.region 36 #[{ dst := some 154, op := Op.move (Operand.tmp 4), type := 57, pos := "l07_linear.go:108", after := #[], guard := none }, { dst := some 155, op := Op.load 35 (Operand.tmp 12), type := 35, pos := "l07_linear.go:108", after := #[], guard := none }, { dst := some 156, op := Op.move (Operand.tmp 4), type := 57, pos := "l07_linear.go:108", after := #[], guard := none }, { dst := some 157, op := Op.fieldAddr 68 (Operand.tmp 14) 2, type := 0, pos := "l07_linear.go:108", after := #[], guard := none }, { dst := some 158, op := Op.load 2 (Operand.tmp 157), type := 2, pos := "l07_linear.go:108", after := #[{ on := 3, ground := Ground.data }], guard := none }, { dst := some 159, op := Op.fieldAddr 27 (Operand.tmp 1) 2, type := 0, pos := "l07_linear.go:108", after := #[], guard := none }, { dst := some 160, op := Op.load 24 (Operand.tmp 159), type := 24, pos := "l07_linear.go:108", after := #[{ on := 5, ground := Ground.data }], guard := none }, { dst := some 161, op := Op.load 27 (Operand.tmp 1), type := 27, pos := "l07_linear.go:108", after := #[], guard := none }, { dst := some 162, op := Op.move (Operand.tmp 15), type := 2, pos := "l07_linear.go:108", after := #[], guard := none }, { dst := some 163, op := Op.call { callee := Callee.value (Operand.func 23), args := #[Operand.tmp 161, Operand.tmp 162], argTypes := #[27, 2] }, type := 3, pos := "l07_linear.go:108", after := #[{ on := 7, ground := Ground.data }, { on := 8, ground := Ground.data }], guard := none }, { dst := some 164, op := Op.indexAddr 24 (Operand.tmp 160) (Operand.tmp 163), type := 0, pos := "l07_linear.go:108", after := #[{ on := 6, ground := Ground.data }, { on := 9, ground := Ground.data }], guard := none }, { dst := some 165, op := Op.fieldAddr 39 (Operand.tmp 164) 1, type := 0, pos := "l07_linear.go:108", after := #[{ on := 10, ground := Ground.data }], guard := none }, { dst := some 166, op := Op.load 2 (Operand.tmp 165), type := 2, pos := "l07_linear.go:108", after := #[{ on := 11, ground := Ground.data }], guard := none }, { dst := some 167, op := Op.binOp BinOp.mul 2 (Operand.tmp 158) (Operand.tmp 166) 2, type := 2, pos := "l07_linear.go:108", after := #[{ on := 4, ground := Ground.data }, { on := 12, ground := Ground.data }], guard := none }, { dst := some 168, op := Op.call { callee := Callee.value (Operand.func 25), args := #[Operand.tmp 167, Operand.const (Value.int IntKind.i64 1)], argTypes := #[2, 2] }, type := 65, pos := "l07_linear.go:108", after := #[{ on := 13, ground := Ground.data }, { on := 9, ground := Ground.chain }], guard := none }, { dst := some 169, op := Op.call { callee := Callee.value (Operand.func 24), args := #[Operand.tmp 156, Operand.tmp 168], argTypes := #[57, 65] }, type := 35, pos := "l07_linear.go:108", after := #[{ on := 2, ground := Ground.data }, { on := 14, ground := Ground.data }, { on := 14, ground := Ground.chain }], guard := none }, { dst := some 170, op := Op.call { callee := Callee.value (Operand.func 26), args := #[Operand.tmp 155, Operand.tmp 169], argTypes := #[35, 35] }, type := 65, pos := "l07_linear.go:108", after := #[{ on := 1, ground := Ground.data }, { on := 15, ground := Ground.data }, { on := 15, ground := Ground.chain }], guard := none }, { dst := some 171, op := Op.call { callee := Callee.value (Operand.func 24), args := #[Operand.tmp 154, Operand.tmp 170], argTypes := #[57, 65] }, type := 35, pos := "l07_linear.go:108", after := #[{ on := 0, ground := Ground.data }, { on := 16, ground := Ground.data }, { on := 16, ground := Ground.chain }], guard := none }, { dst := none, op := Op.store 35 (Operand.tmp 12) (Operand.tmp 171), type := 0, pos := "l07_linear.go:108", after := #[{ on := 17, ground := Ground.data }, { on := 17, ground := Ground.chain }, { on := 0, ground := Ground.phase }, { on := 1, ground := Ground.phase }, { on := 2, ground := Ground.phase }, { on := 3, ground := Ground.phase }, { on := 4, ground := Ground.phase }, { on := 5, ground := Ground.phase }, { on := 6, ground := Ground.phase }, { on := 7, ground := Ground.phase }, { on := 8, ground := Ground.phase }, { on := 9, ground := Ground.phase }, { on := 10, ground := Ground.phase }, { on := 11, ground := Ground.phase }, { on := 12, ground := Ground.phase }, { on := 13, ground := Ground.phase }, { on := 14, ground := Ground.phase }, { on := 15, ground := Ground.phase }, { on := 16, ground := Ground.phase }, { on := 17, ground := Ground.phase }], guard := none }] true))))))))).seq (Code.region 25 #[{ dst := some 96, op := Op.move (Operand.tmp 13), type := 3, pos := "l07_linear.go:93", after := #[], guard := none }, { dst := some 97, op := Op.binOp BinOp.add 3 (Operand.tmp 96) (Operand.const (Value.int IntKind.i64 1)) 3, type := 3, pos := "l07_linear.go:93", after := #[{ on := 0, ground := Ground.data }], guard := none }, { dst := some 13, op := Op.assign (Operand.tmp 97), type := 3, pos := "l07_linear.go:93", after := #[{ on := 1, ground := Ground.data }, { on := 0, ground := Ground.phase }, { on := 1, ground := Ground.phase }], guard := none }] false))).loop).wp Tryz.prog Q { tmps := #[x0, (.pointer (some ⟨w.heap.size, 0, none⟩)), x2, x3, (.pointer (some ⟨gc, 0, none⟩)), (.slice (some ⟨nb, 0, none⟩) (Nt.mm n) nk), (.slice (some ⟨gn, 0, none⟩) (Nt.nn n) (Nt.nn n)), x7, x8, x9, (.int .i64 r), (.slice (some ⟨gw, 0, none⟩) (Nt.mm n) (Nt.mm n)), (.pointer (some ⟨gt, 0, none⟩)), (.int .i64 0), x14, x15, x16, x17, x18, x19, x20, x21, x22, x23, x24, x25, x26, x27, x28, x29, x30, x31, x32, x33, x34, x35, x36, x37, x38, x39, x40, x41, x42, x43, x44, x45, x46, x47, x48, x49, x50, x51, x52, x53, x54, x55, x56, x57, x58, x59, x60, x61, x62, x63, x64, x65, x66, x67, x68, x69, x70, x71, x72, x73, x74, x75, x76, x77, x78, x79, x80, x81, x82, x83, x84, x85, x86, x87, x88, x89, x90, x91, x92, x93, x94, x95, x96, x97, x98, x99, x100, x101, x102, x103, x104, x105, x106, x107, x108, x109, x110, x111, x112, x113, x114, x115, x116, x117, x118, x119, x120, x121, x122, x123, x124, x125, x126, x127, x128, x129, x130, x131, x132, x133, x134, x135, x136, x137, x138, x139, x140, x141, x142, x143, x144, x145, x146, x147, x148, x149, x150, x151, x152, x153, x154, x155, x156, x157, x158, x159, x160, x161, x162, x163, x164, x165, x166, x167, x168, x169, x170, x171, x172, x173, x174, x175, x176, x177, x178, x179, x180, x181, x182, x183, x184, x185, x186, x187, x188, x189, x190, x191, x192, x193, x194, x195, x196, x197, x198, x199, x200, x201, x202, x203, x204, x205, x206, x207, x208, x209, x210, x211, x212, x213, x214, x215, x216, x217, x218, x219, x220, x221, x222, x223, x224, x225, x226, x227, x228, x229, x230, x231, x232, x233, x234, x235, x236, x237, x238, x239, x240, x241, x242, x243, x244, x245, x246, x247, x248, x249, x250, x251, x252, x253, x254, x255, x256, x257, x258, x259, x260, x261, x262, x263, x264, x265, x266, x267, x268, x269, x270, x271, x272, x273, x274, x275, x276, x277, x278, x279, x280, x281, x282, x283, x284, x285, x286, x287, x288, x289, x290, x291, x292, x293, x294, x295, x296, x297, x298, x299, x300, x301, x302, x303, x304, x305, x306, x307, x308, x309, x310, x311, x312, x313, x314, x315, x316, x317, x318, x319, x320, x321, x322, x323, x324, x325, x326, x327, x328, x329, x330, x331, x332, x333, x334, x335, x336, x337, x338, x339, x340, x341, x342, x343, x344, x345, x346, x347, x348, x349, x350, x351, x352, x353, x354, x355, x356, x357, x358, x359, x360, x361, x362, x363, x364, x365, x366, x367, x368, x369, x370, x371, x372, x373, x374, x375, x376], defers := ds } W0 := by
  dsimp only
  go_loopw [13] (fun iv wr => ∃ (i : Nat) (wh : Nat → Int) (x : Int × Int) (z : Int), iv = .int .i64 i ∧ i ≤ n.ln ∧ Hid (Nt.Wh n (Nt.nd n r) i wh) ∧ Hid (Nt.Rk n Z Pre (Nt.nd n r) i z x) ∧ Hid (R3 gc gw gt (Nt.mm n) wh x z b wr)) (fun iv _ => n.ln - (intOf iv).toNat)
  case atStart => exact ⟨0, wh, x, z, rfl, Nat.zero_le _, HW, HK, HR⟩
  case round =>
    obtain ⟨i, wh, x, z, rfl, hil, hW, hK, hR⟩ := hrel
    clear HW HK HR
    obtain ⟨W1, hW1⟩ : ∃ W, W = wr := ⟨_, rfl⟩
    rw [← hW1] at hR ⊢
    clear hW1
    have HW := hW
    have HK := hK
    have HR := hR
    clear hW hK hR
    have hln := HRT.out.ln
    have hrz : (r : Int) < (Nt.mm n : Int) := by omega
    obtain ⟨⟨r0, r1, r2, r3⟩, _⟩ := rowN4 (HT.out.keep HR.out.fr).row
    by_cases hi : i < n.ln
    · have hiz : (i : Int) < (n.ln : Int) := by omega
      obtain ⟨G, hG⟩ : ∃ G, G = n.L (i * 3 + 2) := ⟨_, rfl⟩
      have HG : Hid (n.L (i * 3 + 2) = G) := hG.symm
      have hGb := (HRT.out.l i hi).2.2.2
      rw [← hG] at hGb
      obtain ⟨lb, e, c0, c1, c2⟩ := (HAT.out.below (HT.out.keep HR.out.fr).old).l.at3 hi
      subst e
      rw [(HRT.out.fr hi).1] at c0
      rw [(HRT.out.tt hi).1] at c1
      rw [← hG] at c2
      clear hG
      have hfrn := (HRT.out.fr hi).2
      have httn := (HRT.out.tt hi).2
      have hft := HRT.out.frtt hi
      obtain ⟨W2, hW2⟩ : ∃ W, W = W1.alloc (.cells #[.int .i64 (Nt.fr n i : Int), .int .i64 (Nt.tt n i : Int), .int .i64 G] 68) := ⟨_, rfl⟩
      obtain ⟨gl, hgl⟩ : ∃ x, x = W1.heap.size := ⟨_, rfl⟩
      have hb2 : Below W1.heap.size W1 W2 := by rw [hW2]; exact nbel_alloc _ _
      have HL : Hid (Lx gc gw gt gl (Nt.fr n i : Int) (Nt.tt n i : Int) G W2) := ⟨by rw [hW2, hgl]; exact rowN_alloc _ _ _, by have := HR.out.rc.lt; omega, by have := HR.out.wh.lt; omega, by have := HR.out.bx.lt; omega⟩
      replace HR := Lib.hid (HR.out.below hb2)
      have HW2 := Lib.hid hW2
      have HGL := Lib.hid hgl
      clear hb2 hW2 hgl
      go_wp2_with fail
      rw [← HW2.out, ← HGL.out]
      clear HW2 HGL c0 c1 c2 r0 r1 r2 r3
      obtain ⟨k0, k1⟩ : W2.cell? ⟨gl, 0, none⟩ = some (.int .i64 (Nt.fr n i : Int)) ∧ W2.cell? ⟨gl, 1, none⟩ = some (.int .i64 (Nt.tt n i : Int)) := ⟨HL.out.row.cell (i := 0) (by omega), HL.out.row.cell (i := 1) (by omega)⟩
      have k2 : W2.cell? ⟨nb, r, none⟩ = some (.int .i64 (Nt.nd n r : Int)) := at_cell3 (HT.out.keep HR.out.fr).nod hr
      go_quiet (fail)
      obtain ⟨W3, hW3⟩ : ∃ W, W = W2.drewN nq := ⟨_, rfl⟩
      have hbq : Below W2.heap.size W2 W3 := by rw [hW3]; exact ⟨rfl, rfl, rfl, Nat.le_refl _, fun _ _ => rfl⟩
      replace HR := Lib.hid (HR.out.below hbq)
      replace HL := Lib.hid (HL.out.below hbq)
      rw [← hW3]
      clear hW3 hbq
      clear k0 k1 k2
      obtain ⟨k0, k1⟩ : W3.cell? ⟨gl, 0, none⟩ = some (.int .i64 (Nt.fr n i : Int)) ∧ W3.cell? ⟨gl, 1, none⟩ = some (.int .i64 (Nt.tt n i : Int)) := ⟨HL.out.row.cell (i := 0) (by omega), HL.out.row.cell (i := 1) (by omega)⟩
      have k2 : W3.cell? ⟨nb, r, none⟩ = some (.int .i64 (Nt.nd n r : Int)) := at_cell3 (HT.out.keep HR.out.fr).nod hr
      by_cases h1 : Nt.fr n i = Nt.nd n r
      · have h1b : ((Nt.fr n i : Int) == (Nt.nd n r : Int)) = true := by rw [h1]; simp
        have HOT : Hid (Nt.Oth n (Nt.nd n r) i (Nt.tt n i)) := Or.inl ⟨h1, rfl⟩
        have hov : Nt.tt n i ≠ Nt.nd n r := fun e => hft (h1.trans e.symm)
        have ho := httn
        clear h1
        have hom : ¬ ((Nt.tt n i) : Int) = -1 := by omega
        have hwb := HW.out r hr
        have hcb := Nt.coefTo_bd HRT.out (Nt.nd n r) (Nt.nd n r) i (by omega)
        go_wp2_with fail
        apply sreg33 (HR := HR) (HL := HL) (HT := HT) (hr := hr) (hb := by omega) (hP := fun c a o v w h => by exact hP c a o v w h)
        intro y123 y124 y125 y126 y127 y128 y129 y130 y131 y132 W5 HR5 HL5
        clear HR HL hwb hcb
        have l9 := (HT.out.keep HR5.out.fr).nu.cell (i := (Nt.tt n i)) ho
        cases hfo : Nt.fixed n (Nt.tt n i) with
        | true =>
          have eno : noF n (Nt.tt n i) = -1 := by unfold noF; rw [if_pos hfo]
          rw [eno] at l9
          clear eno
          have HW2 := Lib.hid (HW.out.fixed hr rfl HOT.out hfo)
          have HRF := Lib.hid (Nt.rhs_fixed HOT.out hfo)
          have HGB := Lib.hid (Nt.give_bd HRT.out (i := i) hi hfo)
          rw [HG.out] at HGB HRF HW2
          go_wp2_with fail
          apply sreg36 (HR := HR5) (HL := HL5) (HT := HT) (HAT := HAT) (HRT := HRT) (hfix := hfo) (HRx := HK.out.rx) (HGB := HGB) (hP := fun c a o v w h => by exact hP c a o v w h)
          intro y154 y155 y156 y157 y158 y159 y160 y161 y162 y163 y164 y165 y166 y167 y168 y169 y170 y171 W6 q1 q2 hq1 hq2 HR6
          have HK2 := Lib.hid (HK.out.more HRT.out hi (fun hz j hj => HZ.out hz j (by omega)) (p := q1) (q := q2) (by rw [HRF.out]; exact hq1) hq2)
          clear HR5 HL5 HK hq1 hq2 HRF HGB l9 hfo HW
          go_wp2_with fail
          go_roundw
          case rel => exact ⟨i + 1, _, _, _, by go_num, by omega, HW2, HK2, HR6⟩
          case measure => simp [intOf]; omega
        | false =>
          obtain ⟨hs1, hs2⟩ := nd_no ho hfo
          have hno : noF n (Nt.tt n i) = ((Nt.freeTo n (Nt.tt n i)).length : Int) := by unfold noF; rw [hfo]; rfl
          obtain ⟨s, hs⟩ : ∃ s, s = (Nt.freeTo n (Nt.tt n i)).length := ⟨_, rfl⟩
          rw [← hs] at hs1 hs2 hno
          clear hs
          rw [hno] at l9
          have HNO := Lib.hid hno
          clear hno
          have HW2 := Lib.hid (HW.out.free hr hs1 rfl HOT.out hov hs2)
          have HK2 := Lib.hid (HK.out.same (Nt.rhs_free HOT.out hfo))
          rw [HG.out] at HW2
          have hs0 : (0 : Int) ≤ (s : Int) := by omega
          have hrs : s ≠ r := fun e => hov (by rw [← hs2, e])
          have hwb := HW.out s hs1
          have hcb := Nt.coefTo_bd HRT.out (Nt.nd n r) (Nt.nd n s) i (by omega)
          have hup : updI wh r (wh r + G) s = wh s := by unfold updI; rw [if_neg hrs]
          have HUP := Lib.hid hup
          have HBB : Hid (-1000000 ≤ updI wh r (wh r + G) s ∧ updI wh r (wh r + G) s ≤ 1000000 ∧ -1000000 ≤ G ∧ G ≤ 1000000) := by rw [hup]; exact ⟨by omega, by omega, by omega, by omega⟩
          clear hup hwb hcb hs2
          go_wp2_with fail
          apply sreg35 (HR := HR5) (HL := HL5) (HT := HT) (ho := ho) (HNO := HNO) (hs := hs1) (hb := HBB.out) (hP := fun c a o v w h => by exact hP c a o v w h)
          intro y138 y139 y140 y141 y142 y143 y144 y145 y146 y147 y148 y149 y150 y151 y152 y153 W6 HR6 HL6
          clear HR5 HL5 HL6 HK l9 hfo HW
          go_wp2_with fail
          go_roundw
          case rel => exact ⟨i + 1, _, _, _, by go_num, by omega, HW2, HK2, HR6⟩
          case measure => simp [intOf]; omega
      · have h1b : ((Nt.fr n i : Int) == (Nt.nd n r : Int)) = false := by simp; omega
        go_wp2_with fail
        go_quiet (fail)
        obtain ⟨W4, hW4⟩ : ∃ W, W = W3.drewN nq := ⟨_, rfl⟩
        have hbq : Below W3.heap.size W3 W4 := by rw [hW4]; exact ⟨rfl, rfl, rfl, Nat.le_refl _, fun _ _ => rfl⟩
        replace HR := Lib.hid (HR.out.below hbq)
        replace HL := Lib.hid (HL.out.below hbq)
        rw [← hW4]
        clear hW4 hbq
        clear k0 k1 k2
        obtain ⟨k0, k1⟩ : W4.cell? ⟨gl, 0, none⟩ = some (.int .i64 (Nt.fr n i : Int)) ∧ W4.cell? ⟨gl, 1, none⟩ = some (.int .i64 (Nt.tt n i : Int)) := ⟨HL.out.row.cell (i := 0) (by omega), HL.out.row.cell (i := 1) (by omega)⟩
        have k2 : W4.cell? ⟨nb, r, none⟩ = some (.int .i64 (Nt.nd n r : Int)) := at_cell3 (HT.out.keep HR.out.fr).nod hr
        by_cases h2 : Nt.tt n i = Nt.nd n r
        · have h2b : ((Nt.tt n i : Int) == (Nt.nd n r : Int)) = true := by rw [h2]; simp
          have HOT : Hid (Nt.Oth n (Nt.nd n r) i (Nt.fr n i)) := Or.inr ⟨h1, h2, rfl⟩
          have hov : Nt.fr n i ≠ Nt.nd n r := h1
          have ho := hfrn
          clear h1 h2
          have hom : ¬ ((Nt.fr n i) : Int) = -1 := by omega
          have hwb := HW.out r hr
          have hcb := Nt.coefTo_bd HRT.out (Nt.nd n r) (Nt.nd n r) i (by omega)
          go_wp2_with fail
          apply sreg33 (HR := HR) (HL := HL) (HT := HT) (hr := hr) (hb := by omega) (hP := fun c a o v w h => by exact hP c a o v w h)
          intro y123 y124 y125 y126 y127 y128 y129 y130 y131 y132 W5 HR5 HL5
          clear HR HL hwb hcb
          have l9 := (HT.out.keep HR5.out.fr).nu.cell (i := (Nt.fr n i)) ho
          cases hfo : Nt.fixed n (Nt.fr n i) with
          | true =>
            have eno : noF n (Nt.fr n i) = -1 := by unfold noF; rw [if_pos hfo]
            rw [eno] at l9
            clear eno
            have HW2 := Lib.hid (HW.out.fixed hr rfl HOT.out hfo)
            have HRF := Lib.hid (Nt.rhs_fixed HOT.out hfo)
            have HGB := Lib.hid (Nt.give_bd HRT.out (i := i) hi hfo)
            rw [HG.out] at HGB HRF HW2
            go_wp2_with fail
            apply sreg36 (HR := HR5) (HL := HL5) (HT := HT) (HAT := HAT) (HRT := HRT) (hfix := hfo) (HRx := HK.out.rx) (HGB := HGB) (hP := fun c a o v w h => by exact hP c a o v w h)
            intro y154 y155 y156 y157 y158 y159 y160 y161 y162 y163 y164 y165 y166 y167 y168 y169 y170 y171 W6 q1 q2 hq1 hq2 HR6
            have HK2 := Lib.hid (HK.out.more HRT.out hi (fun hz j hj => HZ.out hz j (by omega)) (p := q1) (q := q2) (by rw [HRF.out]; exact hq1) hq2)
            clear HR5 HL5 HK hq1 hq2 HRF HGB l9 hfo HW
            go_wp2_with fail
            go_roundw
            case rel => exact ⟨i + 1, _, _, _, by go_num, by omega, HW2, HK2, HR6⟩
            case measure => simp [intOf]; omega
          | false =>
            obtain ⟨hs1, hs2⟩ := nd_no ho hfo
            have hno : noF n (Nt.fr n i) = ((Nt.freeTo n (Nt.fr n i)).length : Int) := by unfold noF; rw [hfo]; rfl
            obtain ⟨s, hs⟩ : ∃ s, s = (Nt.freeTo n (Nt.fr n i)).length := ⟨_, rfl⟩
            rw [← hs] at hs1 hs2 hno
            clear hs
            rw [hno] at l9
            have HNO := Lib.hid hno
            clear hno
            have HW2 := Lib.hid (HW.out.free hr hs1 rfl HOT.out hov hs2)
            have HK2 := Lib.hid (HK.out.same (Nt.rhs_free HOT.out hfo))
            rw [HG.out] at HW2
            have hs0 : (0 : Int) ≤ (s : Int) := by omega
            have hrs : s ≠ r := fun e => hov (by rw [← hs2, e])
            have hwb := HW.out s hs1
            have hcb := Nt.coefTo_bd HRT.out (Nt.nd n r) (Nt.nd n s) i (by omega)
            have hup : updI wh r (wh r + G) s = wh s := by unfold updI; rw [if_neg hrs]
            have HUP := Lib.hid hup
            have HBB : Hid (-1000000 ≤ updI wh r (wh r + G) s ∧ updI wh r (wh r + G) s ≤ 1000000 ∧ -1000000 ≤ G ∧ G ≤ 1000000) := by rw [hup]; exact ⟨by omega, by omega, by omega, by omega⟩
            clear hup hwb hcb hs2
            go_wp2_with fail
            apply sreg35 (HR := HR5) (HL := HL5) (HT := HT) (ho := ho) (HNO := HNO) (hs := hs1) (hb := HBB.out) (hP := fun c a o v w h => by exact hP c a o v w h)
            intro y138 y139 y140 y141 y142 y143 y144 y145 y146 y147 y148 y149 y150 y151 y152 y153 W6 HR6 HL6
            clear HR5 HL5 HL6 HK l9 hfo HW
            go_wp2_with fail
            go_roundw
            case rel => exact ⟨i + 1, _, _, _, by go_num, by omega, HW2, HK2, HR6⟩
            case measure => simp [intOf]; omega
        · have h2b : ((Nt.tt n i : Int) == (Nt.nd n r : Int)) = false := by simp; omega
          have HW2 := Lib.hid (HW.out.none h1 h2)
          have HK2 := Lib.hid (HK.out.same (Nt.coef_none h1 h2 0).2)
          clear HW HK h1 h2 HL
          go_wp2_with fail
          go_roundw
          case rel => exact ⟨i + 1, _, _, _, by go_num, by omega, HW2, HK2, HR⟩
          case measure => simp [intOf]; omega
    · obtain rfl : i = n.ln := by omega
      go_wp2_with fail
      exact hQ _ _ _ _ _ _ _ _ _ _ _ _ _ _ _ _ _ _ _ _ _ _ _ _ _ _ _ _ _ _ _ _ _ _ _ _ _ _ _ _ _ _ _ _ _ _ _ _ _ _ _ _ _ _ _ _ _ _ _ _ _ _ _ _ _ _ _ _ _ _ _ _ _ _ _ _ _ _ _ _ _ _ _ _ _ wh x z HW HK HR
end Go.Proofs.YtkaokfmaecdkiaaGreatDoor
namespace Go.Proofs.YtkaokfmaecdkiaaGreatDoor
open Go Go.RowKit Go.Deep

namespace Nt
open Fq El
/-- Behind the elimination: all is good so far, or it is not. -/
def Mid (n : Net) (z : Int) (M : El.Mx) : Prop :=
  (z = 0 ∧ AllR (mm n) M ∧ (∀ r, r < mm n → RhsOk n (nd n r) n.ln) ∧ El.Good (mm n) (U0 n) (mm n) (mm n) ∧ ∀ r c, r < mm n → c ≤ mm n → M r c = Um n r c) ∨ (z = 5 ∧ AllR (mm n) M ∧ ¬ SvGood n)
/-- At the end. -/
def Fin_ (n : Net) (z : Int) (h : Nat → Int × Int) : Prop := (z = 0 ∧ SvGood n ∧ ∀ j, j < mm n → h j = svH n (nd n j)) ∨ (z = 5 ∧ ¬ SvGood n)
theorem sv_none {n : Net} (h : mm n = 0) : SvGood n := ⟨fun r hr => absurd hr (by omega), ⟨fun j hj => absurd hj (by omega), fun r h1 h2 => absurd h2 (by omega)⟩, fun j hj => absurd hj (by omega)⟩
theorem Rz.plan {n : Net} {z : Int} {M : El.Mx} (h : Rz n (SvGood n) (mm n) z M) (hr : Right n) (hh : ∀ j, j < nn n → held n j = true) : ∃ (U : El.Mx) (Z : Prop), Ek (mm n) U Z 0 1 z M ∧ (Z → El.Good (mm n) U (mm n) (mm n)) ∧ ∀ z3 M3, Ek (mm n) U Z (mm n) (mm n + 1) z3 M3 → Mid n z3 M3 := by
  rcases h.zp with hz | ⟨hz, hn⟩
  · refine ⟨U0 n, SvGood n, h.whole hr hh, fun q => q.el, fun z3 M3 q => ?_⟩
    rcases q.zp with e | ⟨e, e2⟩
    · obtain ⟨_, g, k⟩ := q.ok e
      refine Or.inl ⟨e, q.ar, fun r hr2 => (h.ok hz r hr2).1, ⟨g.1, fun r h1 h2 => absurd h1 (by omega)⟩, fun r c h1 h2 => ?_⟩
      rw [k r c h1 h2, part_start]
      rfl
    · exact Or.inr ⟨e, q.ar, e2⟩
  · have hm : 0 < mm n := Nat.pos_of_ne_zero (fun e => hn (sv_none e))
    have bad : ¬ Base (mm n) (fun _ _ => (0, 0)) := fun q => by
      have q2 : Fq.R ((0 : Int), (0 : Int)) := q.1 0 0 hm (Nat.zero_le _)
      exact absurd q2 (by unfold Fq.R; decide)
    refine ⟨fun _ _ => (0, 0), False, ⟨fun s c hs hc => h.ar s c hs hc, Or.inr ⟨hz, id⟩, fun e => by omega⟩, fun q => q.elim, fun z3 M3 q => ?_⟩
    rcases q.zp with e | ⟨e, _⟩
    · exact absurd (q.ok e).1 bad
    · exact Or.inr ⟨e, q.ar, hn⟩
theorem Mid.plan {n : Net} {z : Int} {M : El.Mx} (h : Mid n z M) (hr : Right n) (hh : ∀ j, j < nn n → held n j = true) : AllR (mm n) M ∧ ∃ (V : El.Mx) (Z : Prop), (∀ h0, Hk (mm n) V Z M 0 z h0) ∧ (Z → HdOk (mm n) V (mm n)) ∧ ∀ s z3 h3, Hk (mm n) V Z M s z3 h3 → (z3 = 0 → s = mm n) → Fin_ n z3 h3 := by
  rcases h with ⟨hz, ar, hrh, hg, hM⟩ | ⟨hz, ar, hn⟩
  · refine ⟨ar, Um n, SvGood n, fun h0 => ⟨Or.inl hz, fun j h1 h2 => absurd h1 (by omega), fun _ => ⟨hM, (Um_piv hr hh hrh hg).2, fun j hj => absurd hj (Nat.not_lt_zero _), fun j h1 h2 => absurd h1 (by omega)⟩⟩, fun q => q.hd, fun s z3 h3 q e => ?_⟩
    rcases q.zp with e2 | ⟨e2, e3⟩
    · obtain ⟨_, _, k1, k2⟩ := q.ok e2
      obtain rfl := e e2
      refine Or.inl ⟨e2, ⟨hrh, hg, k1⟩, fun j hj => ?_⟩
      rw [k2 j (by omega) hj]
      exact (hv_nd (mm n) (Nat.le_refl _) j (by omega) hj).symm
    · exact Or.inr ⟨e2, e3⟩
  · have hm : 0 < mm n := Nat.pos_of_ne_zero (fun e => hn (sv_none e))
    refine ⟨ar, fun _ _ => (0, 1), False, fun h0 => ⟨Or.inr ⟨hz, id⟩, fun j h1 h2 => absurd h1 (by omega), fun e => by omega⟩, fun q => q.elim, fun s z3 h3 q e => ?_⟩
    rcases q.zp with e2 | ⟨e2, _⟩
    · exact absurd rfl ((q.ok e2).2.1 0 hm)
    · exact Or.inr ⟨e2, hn⟩
end Nt
section
variable {gc m r : Nat} {g c : Nat → Nat} {M : El.Mx} {z : Int} {v : Value} {w0 W W' : World}
theorem Rw.es (h : Rw gc m m g c M z v w0 W) : ∃ gr ra rk, v = .slice ra m rk ∧ (0 < m → ra = some ⟨gr, 0, none⟩) ∧ Es w0.heap.size gc gr g c m M z w0 W := by
  by_cases hm : 0 < m
  · obtain ⟨gr, rk, e, q⟩ := h.whole hm
    exact ⟨gr, _, rk, e, fun _ => rfl, q⟩
  · obtain ⟨a, k, e⟩ := lpown_shape h.own
    exact ⟨w0.heap.size, a, k, e, fun q => absurd q hm, ⟨⟨fun r hr => absurd hr (by omega), fun r hr => absurd hr (by omega), fun r s hr => absurd hr (by omega), fun r hr => absurd hr (by omega), fun r hr => absurd hr (by omega), Nat.le_refl _⟩, h.rc, h.fr, h.gl, Nat.le_refl _⟩⟩
end
end Go.Proofs.YtkaokfmaecdkiaaGreatDoor
namespace Go.Proofs.YtkaokfmaecdkiaaGreatDoor
open Go Go.RowKit Go.Deep

set_option maxRecDepth 100000 in
set_option maxHeartbeats 32000000 in
theorem sreg22 {w : World} (n : Nt.Net) (la : Option Addr) (lk : Nat) (fa : Option Addr) (fk : Nat) (wa : Option Addr) (wk gc gn nb nk gw m : Nat) (wh : Nat → Int) (z : Int) (b : World) (r : Nat) (x0 x2 x3 x6 x7 x8 x9 x11 x12 x13 x14 x15 x16 x17 x18 x19 x20 x21 x22 x23 x24 x25 x26 x27 x28 x29 x30 x31 x32 x33 x34 x35 x36 x37 x38 x39 x40 x41 x42 x43 x44 x45 x46 x47 x48 x49 x50 x51 x52 x53 x54 x55 x56 x57 x58 x59 x60 x61 x62 x63 x64 x65 x66 x67 x68 x69 x70 x71 x72 x73 x74 x75 x76 x77 x78 x79 x80 x81 x82 x83 x84 x85 x86 x87 x88 x89 x90 x91 x92 x93 x94 x95 x96 x97 x98 x99 x100 x101 x102 x103 x104 x105 x106 x107 x108 x109 x110 x111 x112 x113 x114 x115 x116 x117 x118 x119 x120 x121 x122 x123 x124 x125 x126 x127 x128 x129 x130 x131 x132 x133 x134 x135 x136 x137 x138 x139 x140 x141 x142 x143 x144 x145 x146 x147 x148 x149 x150 x151 x152 x153 x154 x155 x156 x157 x158 x159 x160 x161 x162 x163 x164 x165 x166 x167 x168 x169 x170 x171 x172 x173 x174 x175 x176 x177 x178 x179 x180 x181 x182 x183 x184 x185 x186 x187 x188 x189 x190 x191 x192 x193 x194 x195 x196 x197 x198 x199 x200 x201 x202 x203 x204 x205 x206 x207 x208 x209 x210 x211 x212 x213 x214 x215 x216 x217 x218 x219 x220 x221 x222 x223 x224 x225 x226 x227 x228 x229 x230 x231 x232 x233 x234 x235 x236 x237 x238 x239 x240 x241 x242 x243 x244 x245 x246 x247 x248 x249 x250 x251 x252 x253 x254 x255 x256 x257 x258 x259 x260 x261 x262 x263 x264 x265 x266 x267 x268 x269 x270 x271 x272 x273 x274 x275 x276 x277 x278 x279 x280 x281 x282 x283 x284 x285 x286 x287 x288 x289 x290 x291 x292 x293 x294 x295 x296 x297 x298 x299 x300 x301 x302 x303 x304 x305 x306 x307 x308 x309 x310 x311 x312 x313 x314 x315 x316 x317 x318 x319 x320 x321 x322 x323 x324 x325 x326 x327 x328 x329 x330 x331 x332 x333 x334 x335 x336 x337 x338 x339 x340 x341 x342 x343 x344 x345 x346 x347 x348 x349 x350 x351 x352 x353 x354 x355 x356 x357 x358 x359 x360 x361 x362 x363 x364 x365 x366 x367 x368 x369 x370 x371 x372 x373 x374 x375 x376 : Value) (ds : _) (Q : Exit → Act → World → Prop) (W0 : World)
    (HE : Hid (R2 gc gw m wh z b W0)) (HT : Hid (St2 n la lk fa fk wa wk gc gn (some ⟨nb, 0, none⟩) w b)) (HAT : Hid (NtAt n la fa wa w)) (HRT : Hid (Nt.Right n)) (hr : r < Nt.mm n) (hP : ∀ c (a : Act) o v w, Q (.panic c) (a.put o v) w → Q (.panic c) a w)
    (hQ : ∀ (y79 y80 y81 y82 y83 y84 y85 y86 y87 y88 y89 y90 : Value) (WZ : World) (gt : Nat) (q1 : Int × Int), q1 = (-n.W (Nt.nd n r), 1) → Hid (R3 gc gw gt m wh (Fq.tkv q1) (Fq.tkz q1 z) b WZ) → Q .normal { tmps := #[x0, (.pointer (some ⟨w.heap.size, 0, none⟩)), x2, x3, (.pointer (some ⟨gc, 0, none⟩)), (.slice (some ⟨nb, 0, none⟩) (Nt.mm n) nk), x6, x7, x8, x9, (.int .i64 r), x11, (.pointer (some ⟨gt, 0, none⟩)), x13, x14, x15, x16, x17, x18, x19, x20, x21, x22, x23, x24, x25, x26, x27, x28, x29, x30, x31, x32, x33, x34, x35, x36, x37, x38, x39, x40, x41, x42, x43, x44, x45, x46, x47, x48, x49, x50, x51, x52, x53, x54, x55, x56, x57, x58, x59, x60, x61, x62, x63, x64, x65, x66, x67, x68, x69, x70, x71, x72, x73, x74, x75, x76, x77, x78, y79, y80, y81, y82, y83, y84, y85, y86, y87, y88, y89, y90, x91, x92, x93, x94, x95, x96, x97, x98, x99, x100, x101, x102, x103, x104, x105, x106, x107, x108, x109, x110, x111, x112, x113, x114, x115, x116, x117, x118, x119, x120, x121, x122, x123, x124, x125, x126, x127, x128, x129, x130, x131, x132, x133, x134, x135, x136, x137, x138, x139, x140, x141, x142, x143, x144, x145, x146, x147, x148, x149, x150, x151, x152, x153, x154, x155, x156, x157, x158, x159, x160, x161, x162, x163, x164, x165, x166, x167, x168, x169, x170, x171, x172, x173, x174, x175, x176, x177, x178, x179, x180, x181, x182, x183, x184, x185, x186, x187, x188, x189, x190, x191, x192, x193, x194, x195, x196, x197, x198, x199, x200, x201, x202, x203, x204, x205, x206, x207, x208, x209, x210, x211, x212, x213, x214, x215, x216, x217, x218, x219, x220, x221, x222, x223, x224, x225, x226, x227, x228, x229, x230, x231, x232, x233, x234, x235, x236, x237, x238, x239, x240, x241, x242, x243, x244, x245, x246, x247, x248, x249, x250, x251, x252, x253, x254, x255, x256, x257, x258, x259, x260, x261, x262, x263, x264, x265, x266, x267, x268, x269, x270, x271, x272, x273, x274, x275, x276, x277, x278, x279, x280, x281, x282, x283, x284, x285, x286, x287, x288, x289, x290, x291, x292, x293, x294, x295, x296, x297, x298, x299, x300, x301, x302, x303, x304, x305, x306, x307, x308, x309, x310, x311, x312, x313, x314, x315, x316, x317, x318, x319, x320, x321, x322, x323, x324, x325, x326, x327, x328, x329, x330, x331, x332, x333, x334, x335, x336, x337, x338, x339, x340, x341, x342, x343, x344, x345, x346, x347, x348, x349, x350, x351, x352, x353, x354, x355, x356, x357, x358, x359, x360, x361, x362, x363, x364, x365, x366, x367, x368, x369, x370, x371, x372, x373, x374, x375, x376], defers := ds } WZ) :
    (Code.region 22 #[{ dst := some 79, op := Op.move (Operand.tmp 4), type := 57, pos := "l07_linear.go:92", after := #[], guard := none }, { dst := some 80, op := Op.fieldAddr 27 (Operand.tmp 1) 3, type := 0, pos := "l07_linear.go:92", after := #[], guard := none }, { dst := some 81, op := Op.load 25 (Operand.tmp 80), type := 25, pos := "l07_linear.go:92", after := #[{ on := 1, ground := Ground.data }], guard := none }, { dst := some 82, op := Op.move (Operand.tmp 5), type := 25, pos := "l07_linear.go:92", after := #[], guard := none }, { dst := some 83, op := Op.move (Operand.tmp 10), type := 3, pos := "l07_linear.go:92", after := #[], guard := none }, { dst := some 84, op := Op.indexAddr 25 (Operand.tmp 82) (Operand.tmp 83), type := 0, pos := "l07_linear.go:92", after := #[{ on := 3, ground := Ground.data }, { on := 4, ground := Ground.data }], guard := none }, { dst := some 85, op := Op.load 2 (Operand.tmp 84), type := 2, pos := "l07_linear.go:92", after := #[{ on := 5, ground := Ground.data }], guard := none }, { dst := some 86, op := Op.indexAddr 25 (Operand.tmp 81) (Operand.tmp 85), type := 0, pos := "l07_linear.go:92", after := #[{ on := 2, ground := Ground.data }, { on := 6, ground := Ground.data }], guard := none }, { dst := some 87, op := Op.load 2 (Operand.tmp 86), type := 2, pos := "l07_linear.go:92", after := #[{ on := 7, ground := Ground.data }], guard := none }, { dst := some 88, op := Op.unOp UnOp.neg 2 (Operand.tmp 87), type := 2, pos := "l07_linear.go:92", after := #[{ on := 8, ground := Ground.data }], guard := none }, { dst := some 89, op := Op.call { callee := Callee.value (Operand.func 25), args := #[Operand.tmp 88, Operand.const (Value.int IntKind.i64 1)], argTypes := #[2, 2] }, type := 65, pos := "l07_linear.go:92", after := #[{ on := 9, ground := Ground.data }], guard := none }, { dst := some 90, op := Op.call { callee := Callee.value (Operand.func 24), args := #[Operand.tmp 79, Operand.tmp 89], argTypes := #[57, 65] }, type := 35, pos := "l07_linear.go:92", after := #[{ on := 0, ground := Ground.data }, { on := 10, ground := Ground.data }, { on := 10, ground := Ground.chain }], guard := none }, { dst := some 12, op := Op.alloc 35, type := 0, pos := "l07_linear.go:92", after := #[], guard := none }, { dst := none, op := Op.store 35 (Operand.tmp 12) (Operand.tmp 90), type := 0, pos := "l07_linear.go:92", after := #[{ on := 12, ground := Ground.data }, { on := 11, ground := Ground.data }, { on := 11, ground := Ground.chain }, { on := 0, ground := Ground.phase }, { on := 1, ground := Ground.phase }, { on := 2, ground := Ground.phase }, { on := 3, ground := Ground.phase }, { on := 4, ground := Ground.phase }, { on := 5, ground := Ground.phase }, { on := 6, ground := Ground.phase }, { on := 7, ground := Ground.phase }, { on := 8, ground := Ground.phase }, { on := 9, ground := Ground.phase }, { on := 10, ground := Ground.phase }, { on := 11, ground := Ground.phase }, { on := 12, ground := Ground.phase }], guard := none }] true).wp Tryz.prog Q { tmps := #[x0, (.pointer (some ⟨w.heap.size, 0, none⟩)), x2, x3, (.pointer (some ⟨gc, 0, none⟩)), (.slice (some ⟨nb, 0, none⟩) (Nt.mm n) nk), x6, x7, x8, x9, (.int .i64 r), x11, x12, x13, x14, x15, x16, x17, x18, x19, x20, x21, x22, x23, x24, x25, x26, x27, x28, x29, x30, x31, x32, x33, x34, x35, x36, x37, x38, x39, x40, x41, x42, x43, x44, x45, x46, x47, x48, x49, x50, x51, x52, x53, x54, x55, x56, x57, x58, x59, x60, x61, x62, x63, x64, x65, x66, x67, x68, x69, x70, x71, x72, x73, x74, x75, x76, x77, x78, x79, x80, x81, x82, x83, x84, x85, x86, x87, x88, x89, x90, x91, x92, x93, x94, x95, x96, x97, x98, x99, x100, x101, x102, x103, x104, x105, x106, x107, x108, x109, x110, x111, x112, x113, x114, x115, x116, x117, x118, x119, x120, x121, x122, x123, x124, x125, x126, x127, x128, x129, x130, x131, x132, x133, x134, x135, x136, x137, x138, x139, x140, x141, x142, x143, x144, x145, x146, x147, x148, x149, x150, x151, x152, x153, x154, x155, x156, x157, x158, x159, x160, x161, x162, x163, x164, x165, x166, x167, x168, x169, x170, x171, x172, x173, x174, x175, x176, x177, x178, x179, x180, x181, x182, x183, x184, x185, x186, x187, x188, x189, x190, x191, x192, x193, x194, x195, x196, x197, x198, x199, x200, x201, x202, x203, x204, x205, x206, x207, x208, x209, x210, x211, x212, x213, x214, x215, x216, x217, x218, x219, x220, x221, x222, x223, x224, x225, x226, x227, x228, x229, x230, x231, x232, x233, x234, x235, x236, x237, x238, x239, x240, x241, x242, x243, x244, x245, x246, x247, x248, x249, x250, x251, x252, x253, x254, x255, x256, x257, x258, x259, x260, x261, x262, x263, x264, x265, x266, x267, x268, x269, x270, x271, x272, x273, x274, x275, x276, x277, x278, x279, x280, x281, x282, x283, x284, x285, x286, x287, x288, x289, x290, x291, x292, x293, x294, x295, x296, x297, x298, x299, x300, x301, x302, x303, x304, x305, x306, x307, x308, x309, x310, x311, x312, x313, x314, x315, x316, x317, x318, x319, x320, x321, x322, x323, x324, x325, x326, x327, x328, x329, x330, x331, x332, x333, x334, x335, x336, x337, x338, x339, x340, x341, x342, x343, x344, x345, x346, x347, x348, x349, x350, x351, x352, x353, x354, x355, x356, x357, x358, x359, x360, x361, x362, x363, x364, x365, x366, x367, x368, x369, x370, x371, x372, x373, x374, x375, x376], defers := ds } W0 := by
  have hrz : (r : Int) < (Nt.mm n : Int) := by omega
  obtain ⟨hvn, _⟩ := Nt.nd_lt hr
  have hwn : Nt.nd n r < n.wn := by have := HRT.out.wn; have := HRT.out.nn.1; omega
  have hvz : ((Nt.nd n r : Nat) : Int) < (n.wn : Int) := by omega
  have hwb := HRT.out.w (Nt.nd n r) hwn
  unfold Nt.wantOk at hwb
  obtain ⟨Y, hY⟩ : ∃ Y : Int, Y = n.W (Nt.nd n r) := ⟨_, rfl⟩
  have HY : Hid (n.W (Nt.nd n r) = Y) := hY.symm
  rw [← hY] at hwb
  clear hY
  obtain ⟨wb, rfl⟩ : ∃ wb, wa = some ⟨wb, 0, none⟩ := by
    obtain ⟨b, e, _⟩ := HAT.out.w.at1 hwn
    exact ⟨b, e⟩
  refine region_L (fun V => St2 n la lk fa fk (some ⟨wb, 0, none⟩) wk gc gn (some ⟨nb, 0, none⟩) w V) 13 (by kernel_rfl) (HT.out.keep (HE.out.below (Below.refl _ _).drew).fr) (fun hHeld => ?_)
  obtain ⟨Z, hZ⟩ : ∃ Z, Z = W0.drew := ⟨_, rfl⟩
  replace HE := Lib.hid (HE.out.below (Below.refl _ _).drew)
  rw [← hZ] at hHeld HE ⊢
  clear hZ
  refine takeL_do (i := 0) (v := (.pointer (some ⟨gc, 0, none⟩))) rfl (by kernel_rfl) (by kernel_rfl) (by kernel_rfl) (by kernel_rfl) (fun _ _ _ h => hP _ _ _ _ _ h) (by rfl) ?_ (by assumption) ?_
  · intro w hSw
    skip
    go_simp
  simp only [Act.put, List.setIfInBounds_toArray, List.set_cons_zero, List.set_cons_succ]
  refine takeL_do (i := 1) (v := (.pointer (some ⟨w.heap.size, 3, none⟩))) rfl (by kernel_rfl) (by kernel_rfl) (by kernel_rfl) (by kernel_rfl) (fun _ _ _ h => hP _ _ _ _ _ h) (by rfl) ?_ (by assumption) ?_
  · intro w hSw
    skip
    go_simp
  simp only [Act.put, List.setIfInBounds_toArray, List.set_cons_zero, List.set_cons_succ]
  refine takeL_do (i := 2) (v := (.slice (some ⟨wb, 0, none⟩) n.wn wk)) rfl (by kernel_rfl) (by kernel_rfl) (by kernel_rfl) (by kernel_rfl) (fun _ _ _ h => hP _ _ _ _ _ h) (by rfl) ?_ (by assumption) ?_
  · intro w hSw
    obtain ⟨⟨x0, x1, x2, x3⟩, _⟩ := rowN4 hSw.row
    go_simp
  simp only [Act.put, List.setIfInBounds_toArray, List.set_cons_zero, List.set_cons_succ]
  refine takeL_do (i := 3) (v := (.slice (some ⟨nb, 0, none⟩) (Nt.mm n) nk)) rfl (by kernel_rfl) (by kernel_rfl) (by kernel_rfl) (by kernel_rfl) (fun _ _ _ h => hP _ _ _ _ _ h) (by rfl) ?_ (by assumption) ?_
  · intro w hSw
    skip
    go_simp
  simp only [Act.put, List.setIfInBounds_toArray, List.set_cons_zero, List.set_cons_succ]
  refine takeL_do (i := 4) (v := (.int .i64 r)) rfl (by kernel_rfl) (by kernel_rfl) (by kernel_rfl) (by kernel_rfl) (fun _ _ _ h => hP _ _ _ _ _ h) (by rfl) ?_ (by assumption) ?_
  · intro w hSw
    skip
    go_simp
  simp only [Act.put, List.setIfInBounds_toArray, List.set_cons_zero, List.set_cons_succ]
  refine takeL_do (i := 5) (v := (.pointer (some ⟨nb, r, none⟩))) rfl (by kernel_rfl) (by kernel_rfl) (by kernel_rfl) (by kernel_rfl) (fun _ _ _ h => hP _ _ _ _ _ h) (by rfl) ?_ (by assumption) ?_
  · intro w hSw
    skip
    go_simp
  simp only [Act.put, List.setIfInBounds_toArray, List.set_cons_zero, List.set_cons_succ]
  refine takeL_do (i := 6) (v := (.int .i64 (Nt.nd n r : Int))) rfl (by kernel_rfl) (by kernel_rfl) (by kernel_rfl) (by kernel_rfl) (fun _ _ _ h => hP _ _ _ _ _ h) (by rfl) ?_ (by assumption) ?_
  · intro w hSw
    obtain ⟨b9, e9, l0⟩ := hSw.nod.at1 hr
    cases e9
    go_simp
  simp only [Act.put, List.setIfInBounds_toArray, List.set_cons_zero, List.set_cons_succ]
  refine takeL_do (i := 7) (v := (.pointer (some ⟨wb, (Nt.nd n r), none⟩))) rfl (by kernel_rfl) (by kernel_rfl) (by kernel_rfl) (by kernel_rfl) (fun _ _ _ h => hP _ _ _ _ _ h) (by rfl) ?_ (by assumption) ?_
  · intro w hSw
    skip
    go_simp
  simp only [Act.put, List.setIfInBounds_toArray, List.set_cons_zero, List.set_cons_succ]
  refine takeL_do (i := 8) (v := (.int .i64 Y)) rfl (by kernel_rfl) (by kernel_rfl) (by kernel_rfl) (by kernel_rfl) (fun _ _ _ h => hP _ _ _ _ _ h) (by rfl) ?_ (by assumption) ?_
  · intro w hSw
    obtain ⟨b9, e9, l0⟩ := (HAT.out.below hSw.old).w.at1 hwn
    cases e9
    rw [HY.out] at l0
    go_simp
  simp only [Act.put, List.setIfInBounds_toArray, List.set_cons_zero, List.set_cons_succ]
  refine takeL_do (i := 9) (v := (.int .i64 (-Y))) rfl (by kernel_rfl) (by kernel_rfl) (by kernel_rfl) (by kernel_rfl) (fun _ _ _ h => hP _ _ _ _ _ h) (by rfl) ?_ (by assumption) ?_
  · intro w hSw
    have hwr : IntKind.i64.wrap (-Y) = -Y := md_wrap (by omega) (by omega)
    go_simp
  simp only [Act.put, List.setIfInBounds_toArray, List.set_cons_zero, List.set_cons_succ]
  obtain ⟨q1, hq1⟩ : ∃ q : Int × Int, q = (-Y, 1) := ⟨_, rfl⟩
  have HV1 : Hid (∀ V : World, Calls Tryz.prog 25 #[.int .i64 (-Y), .int .i64 1] V fun e w' => e = .returned (foV q1) ∧ Below V.heap.size V w') := by
    intro V
    rw [hq1]
    exact specOf_any (-Y) 1 V (by omega) (by omega) (by omega) (by omega)
  have Hq1 := Lib.hid hq1
  clear hq1
  refine L_ready (rs := [10, 12]) (by kernel_rfl) (by simp) (AllL.cons (i := 10) rfl (fun K2 hK => ?_) (AllL.cons (i := 12) rfl (fun K2 hK => ?_) AllL.nil))
  · go_simp
    refine (HV1.out _).mono ?_
    rintro e Z4 ⟨rfl, hb⟩
    replace HE := Lib.hid (HE.out.below hb)
    clear hb HV1
    go_wp2_with fail
    refine hK.out _ _ (HT.out.keep HE.out.fr) (fun hHeld2 => ?_)
    clear hK hHeld
    have hHeld := hHeld2
    clear hHeld2
    refine L_ready (rs := [11, 12]) (by kernel_rfl) (by simp) (AllL.cons (i := 11) rfl (fun K2 hK => ?_) (AllL.cons (i := 12) rfl (fun K2 hK => ?_) AllL.nil))
    · obtain ⟨p2, hp2⟩ : ∃ v, v = Fq.tkv q1 := ⟨_, rfl⟩
      obtain ⟨z2, hz2⟩ : ∃ v, v = Fq.tkz q1 z := ⟨_, rfl⟩
      have HCp2 := Lib.hid (take_any gc q1 z _ HE.out.rc)
      rw [← hp2, ← hz2] at HCp2
      have Hp2 := Lib.hid hp2
      have Hz2 := Lib.hid hz2
      clear hp2 hz2
      go_simp
      refine HCp2.out.mono ?_
      rintro e Z7 ⟨rfl, hrz, hon⟩
      replace HE := Lib.hid (HE.out.take hrz hon)
      clear hrz hon HCp2
      go_wp2_with fail
      refine hK.out _ _ (HT.out.keep HE.out.fr) (fun hHeld2 => ?_)
      clear hK hHeld
      have hHeld := hHeld2
      clear hHeld2
      refine takeL_call (i := 12) rfl (by kernel_rfl) (fun K2 hK => ?_)
      obtain ⟨Z8, hZ8⟩ : ∃ ZZ, ZZ = Z7.alloc (.cells #[.int .i64 0, .int .i64 0] 35) := ⟨_, rfl⟩
      have hb : Below Z7.heap.size Z7 Z8 := by rw [hZ8]; exact nbel_alloc _ _
      obtain ⟨gt, hgt⟩ : ∃ gf, gf = Z7.heap.size := ⟨_, rfl⟩
      have RZ : Hid (Z8.rowIs gt 35 2 (rowN [.int .i64 (0, 0).1, .int .i64 (0, 0).2])) := by show World.rowIs _ _ _ _ _; rw [hZ8, hgt]; exact rowN_alloc _ _ _
      have HGF : Hid (b.heap.size ≤ gt ∧ gw ≠ gt) := ⟨by rw [hgt]; exact HE.out.fr.size, by have := HE.out.wh.lt; omega⟩
      replace HE := Lib.hid (HE.out.below hb)
      go_simp
      rw [← hZ8, ← hgt]
      refine hK.out _ _ (HT.out.keep HE.out.fr) (fun hHeld2 => ?_)
      clear hK hHeld
      have hHeld := hHeld2
      clear hHeld2
      clear hb hZ8 hgt
      obtain ⟨o0, o1⟩ := frN2 RZ.out
      have z0 := RZ.out.frozen 0
      have z1' := RZ.out.frozen 1
      have l0 := RZ.out.lt
      have HB : Hid (R3 gc gw gt m wh (0, 0) z2 b Z8) := ⟨HE.out.wh, RZ.out, HE.out.rc, HE.out.fr, by have := HE.out.lo; have := HGF.out; omega⟩
      obtain ⟨WZ, hWZ⟩ : ∃ WZ, WZ = (Z8.setCell ⟨gt, 0, none⟩ (.int .i64 p2.1)).setCell ⟨gt, 1, none⟩ (.int .i64 p2.2) := ⟨_, rfl⟩
      have HB2 := Lib.hid (HB.out.box p2)
      rw [← hWZ] at HB2
      have HWZ := Lib.hid hWZ
      clear hWZ
      refine takeL_last rfl (by kernel_rfl) (by kernel_rfl) (fun K2 hK => ?_)
      go_simp
      rw [← HWZ.out]
      refine hK.out _ _ ?_
      clear hK hHeld HWZ o0 o1 z0 z1' l0 HE HB RZ
      exact hQ _ _ _ _ _ _ _ _ _ _ _ _ _ gt q1 (by rw [Hq1.out, HY.out]) (by rw [Hz2.out, Hp2.out] at HB2; exact HB2)
    · obtain ⟨Z5, hZ5⟩ : ∃ ZZ, ZZ = Z4.alloc (.cells #[.int .i64 0, .int .i64 0] 35) := ⟨_, rfl⟩
      have hb : Below Z4.heap.size Z4 Z5 := by rw [hZ5]; exact nbel_alloc _ _
      obtain ⟨gt, hgt⟩ : ∃ gf, gf = Z4.heap.size := ⟨_, rfl⟩
      have RZ : Hid (Z5.rowIs gt 35 2 (rowN [.int .i64 (0, 0).1, .int .i64 (0, 0).2])) := by show World.rowIs _ _ _ _ _; rw [hZ5, hgt]; exact rowN_alloc _ _ _
      have HGF : Hid (b.heap.size ≤ gt ∧ gw ≠ gt) := ⟨by rw [hgt]; exact HE.out.fr.size, by have := HE.out.wh.lt; omega⟩
      replace HE := Lib.hid (HE.out.below hb)
      go_simp
      rw [← hZ5, ← hgt]
      refine hK.out _ _ (HT.out.keep HE.out.fr) (fun hHeld2 => ?_)
      clear hK hHeld
      have hHeld := hHeld2
      clear hHeld2
      clear hb hZ5 hgt
      obtain ⟨p2, hp2⟩ : ∃ v, v = Fq.tkv q1 := ⟨_, rfl⟩
      obtain ⟨z2, hz2⟩ : ∃ v, v = Fq.tkz q1 z := ⟨_, rfl⟩
      have HCp2 := Lib.hid (take_any gc q1 z _ HE.out.rc)
      rw [← hp2, ← hz2] at HCp2
      have Hp2 := Lib.hid hp2
      have Hz2 := Lib.hid hz2
      clear hp2 hz2
      refine takeL_call (i := 11) rfl (by kernel_rfl) (fun K2 hK => ?_)
      go_simp
      refine HCp2.out.mono ?_
      rintro e Z6 ⟨rfl, hrz, hon⟩
      replace RZ := Lib.hid (RZ.out.of_block (hon.block _ RZ.out.lt (by have := HGF.out; have := HE.out.lo; omega)))
      replace HE := Lib.hid (HE.out.take hrz hon)
      clear hrz hon HCp2
      go_wp2_with fail
      refine hK.out _ _ (HT.out.keep HE.out.fr) (fun hHeld2 => ?_)
      clear hK hHeld
      have hHeld := hHeld2
      clear hHeld2
      obtain ⟨o0, o1⟩ := frN2 RZ.out
      have z0 := RZ.out.frozen 0
      have z1' := RZ.out.frozen 1
      have l0 := RZ.out.lt
      have HB : Hid (R3 gc gw gt m wh (0, 0) z2 b Z6) := ⟨HE.out.wh, RZ.out, HE.out.rc, HE.out.fr, by have := HE.out.lo; have := HGF.out; omega⟩
      obtain ⟨WZ, hWZ⟩ : ∃ WZ, WZ = (Z6.setCell ⟨gt, 0, none⟩ (.int .i64 p2.1)).setCell ⟨gt, 1, none⟩ (.int .i64 p2.2) := ⟨_, rfl⟩
      have HB2 := Lib.hid (HB.out.box p2)
      rw [← hWZ] at HB2
      have HWZ := Lib.hid hWZ
      clear hWZ
      refine takeL_last rfl (by kernel_rfl) (by kernel_rfl) (fun K2 hK => ?_)
      go_simp
      rw [← HWZ.out]
      refine hK.out _ _ ?_
      clear hK hHeld HWZ o0 o1 z0 z1' l0 HE HB RZ
      exact hQ _ _ _ _ _ _ _ _ _ _ _ _ _ gt q1 (by rw [Hq1.out, HY.out]) (by rw [Hz2.out, Hp2.out] at HB2; exact HB2)
  · obtain ⟨Z1, hZ1⟩ : ∃ ZZ, ZZ = Z.alloc (.cells #[.int .i64 0, .int .i64 0] 35) := ⟨_, rfl⟩
    have hb : Below Z.heap.size Z Z1 := by rw [hZ1]; exact nbel_alloc _ _
    obtain ⟨gt, hgt⟩ : ∃ gf, gf = Z.heap.size := ⟨_, rfl⟩
    have RZ : Hid (Z1.rowIs gt 35 2 (rowN [.int .i64 (0, 0).1, .int .i64 (0, 0).2])) := by show World.rowIs _ _ _ _ _; rw [hZ1, hgt]; exact rowN_alloc _ _ _
    have HGF : Hid (b.heap.size ≤ gt ∧ gw ≠ gt) := ⟨by rw [hgt]; exact HE.out.fr.size, by have := HE.out.wh.lt; omega⟩
    replace HE := Lib.hid (HE.out.below hb)
    go_simp
    rw [← hZ1, ← hgt]
    refine hK.out _ _ (HT.out.keep HE.out.fr) (fun hHeld2 => ?_)
    clear hK hHeld
    have hHeld := hHeld2
    clear hHeld2
    clear hb hZ1 hgt
    refine takeL_call (i := 10) rfl (by kernel_rfl) (fun K2 hK => ?_)
    go_simp
    refine (HV1.out _).mono ?_
    rintro e Z2 ⟨rfl, hb⟩
    replace HE := Lib.hid (HE.out.below hb)
    replace RZ := Lib.hid (nrow_below RZ.out hb)
    clear hb HV1
    go_wp2_with fail
    refine hK.out _ _ (HT.out.keep HE.out.fr) (fun hHeld2 => ?_)
    clear hK hHeld
    have hHeld := hHeld2
    clear hHeld2
    obtain ⟨p2, hp2⟩ : ∃ v, v = Fq.tkv q1 := ⟨_, rfl⟩
    obtain ⟨z2, hz2⟩ : ∃ v, v = Fq.tkz q1 z := ⟨_, rfl⟩
    have HCp2 := Lib.hid (take_any gc q1 z _ HE.out.rc)
    rw [← hp2, ← hz2] at HCp2
    have Hp2 := Lib.hid hp2
    have Hz2 := Lib.hid hz2
    clear hp2 hz2
    refine takeL_call (i := 11) rfl (by kernel_rfl) (fun K2 hK => ?_)
    go_simp
    refine HCp2.out.mono ?_
    rintro e Z3 ⟨rfl, hrz, hon⟩
    replace RZ := Lib.hid (RZ.out.of_block (hon.block _ RZ.out.lt (by have := HGF.out; have := HE.out.lo; omega)))
    replace HE := Lib.hid (HE.out.take hrz hon)
    clear hrz hon HCp2
    go_wp2_with fail
    refine hK.out _ _ (HT.out.keep HE.out.fr) (fun hHeld2 => ?_)
    clear hK hHeld
    have hHeld := hHeld2
    clear hHeld2
    obtain ⟨o0, o1⟩ := frN2 RZ.out
    have z0 := RZ.out.frozen 0
    have z1' := RZ.out.frozen 1
    have l0 := RZ.out.lt
    have HB : Hid (R3 gc gw gt m wh (0, 0) z2 b Z3) := ⟨HE.out.wh, RZ.out, HE.out.rc, HE.out.fr, by have := HE.out.lo; have := HGF.out; omega⟩
    obtain ⟨WZ, hWZ⟩ : ∃ WZ, WZ = (Z3.setCell ⟨gt, 0, none⟩ (.int .i64 p2.1)).setCell ⟨gt, 1, none⟩ (.int .i64 p2.2) := ⟨_, rfl⟩
    have HB2 := Lib.hid (HB.out.box p2)
    rw [← hWZ] at HB2
    have HWZ := Lib.hid hWZ
    clear hWZ
    refine takeL_last rfl (by kernel_rfl) (by kernel_rfl) (fun K2 hK => ?_)
    go_simp
    rw [← HWZ.out]
    refine hK.out _ _ ?_
    clear hK hHeld HWZ o0 o1 z0 z1' l0 HE HB RZ
    exact hQ _ _ _ _ _ _ _ _ _ _ _ _ _ gt q1 (by rw [Hq1.out, HY.out]) (by rw [Hz2.out, Hp2.out] at HB2; exact HB2)
end Go.Proofs.YtkaokfmaecdkiaaGreatDoor
namespace Go.Proofs.YtkaokfmaecdkiaaGreatDoor
open Go Go.RowKit Go.Deep

theorem sinfo_row : (Tryz.prog.info? 29).map (fun i => (i.zero, i.size, i.bytes)) = some (some (.slice none 0 0), 1, 24) := by kernel_rfl
theorem smk_i64 (n : Nat) (hn : n ≤ 1048576) (w : World) : (Instr.makeSlice 25 (.int .i64 (n : Int)) (.int .i64 (n : Int))).run Tryz.prog w = .ok (.slice (some ⟨w.heap.size, 0, none⟩) n n) (w.alloc (.cells (madeCells #[.int .i64 0] n) 2)) := by
  obtain ⟨i0, hi, hz0, hz1, hz2⟩ := info_parts ninfo_int
  have := run_make (P := Tryz.prog) w 25 2 i0 _ Tryz.underlying25 hi hz0 .i64 .i64 n n (by omega) (Int.le_refl _) (by rw [hz2]; omega) (by omega)
  rw [hz1] at this
  simp only [Int.toNat_natCast, Nat.mul_one] at this
  exact this
set_option maxRecDepth 100000 in
set_option maxHeartbeats 32000000 in
theorem sloop2 {w : World} (n : Nt.Net) (la : Option Addr) (lk : Nat) (fa : Option Addr) (fk : Nat) (wa : Option Addr) (wk gc gn : Nat) (na : Option Addr) (nk : Nat) (Z : Prop) (v0 : Value) (w0 : World) (x0 x2 x3 x7 x11 x12 x13 x14 x15 x16 x17 x18 x19 x20 x21 x22 x23 x24 x25 x26 x27 x28 x29 x30 x31 x32 x33 x34 x35 x36 x37 x38 x39 x40 x41 x42 x43 x44 x45 x46 x47 x48 x49 x50 x51 x52 x53 x54 x55 x56 x57 x58 x59 x60 x61 x62 x63 x64 x65 x66 x67 x68 x69 x70 x71 x72 x73 x74 x75 x76 x77 x78 x79 x80 x81 x82 x83 x84 x85 x86 x87 x88 x89 x90 x91 x92 x93 x94 x95 x96 x97 x98 x99 x100 x101 x102 x103 x104 x105 x106 x107 x108 x109 x110 x111 x112 x113 x114 x115 x116 x117 x118 x119 x120 x121 x122 x123 x124 x125 x126 x127 x128 x129 x130 x131 x132 x133 x134 x135 x136 x137 x138 x139 x140 x141 x142 x143 x144 x145 x146 x147 x148 x149 x150 x151 x152 x153 x154 x155 x156 x157 x158 x159 x160 x161 x162 x163 x164 x165 x166 x167 x168 x169 x170 x171 x172 x173 x174 x175 x176 x177 x178 x179 x180 x181 x182 x183 x184 x185 x186 x187 x188 x189 x190 x191 x192 x193 x194 x195 x196 x197 x198 x199 x200 x201 x202 x203 x204 x205 x206 x207 x208 x209 x210 x211 x212 x213 x214 x215 x216 x217 x218 x219 x220 x221 x222 x223 x224 x225 x226 x227 x228 x229 x230 x231 x232 x233 x234 x235 x236 x237 x238 x239 x240 x241 x242 x243 x244 x245 x246 x247 x248 x249 x250 x251 x252 x253 x254 x255 x256 x257 x258 x259 x260 x261 x262 x263 x264 x265 x266 x267 x268 x269 x270 x271 x272 x273 x274 x275 x276 x277 x278 x279 x280 x281 x282 x283 x284 x285 x286 x287 x288 x289 x290 x291 x292 x293 x294 x295 x296 x297 x298 x299 x300 x301 x302 x303 x304 x305 x306 x307 x308 x309 x310 x311 x312 x313 x314 x315 x316 x317 x318 x319 x320 x321 x322 x323 x324 x325 x326 x327 x328 x329 x330 x331 x332 x333 x334 x335 x336 x337 x338 x339 x340 x341 x342 x343 x344 x345 x346 x347 x348 x349 x350 x351 x352 x353 x354 x355 x356 x357 x358 x359 x360 x361 x362 x363 x364 x365 x366 x367 x368 x369 x370 x371 x372 x373 x374 x375 x376 : Value) (ds : _) (Q : Exit → Act → World → Prop) (W0 : World)
    (HR0 : Hid (Rw gc (Nt.mm n) 0 (fun _ => 0) (fun _ => 0) (fun _ _ => (0, 1)) 0 v0 w0 W0)) (HT : Hid (St2 n la lk fa fk wa wk gc gn na w w0)) (HAT : Hid (NtAt n la fa wa w)) (HRT : Hid (Nt.Right n)) (HM : Hid (Nt.mm n ≤ 12)) (HZ : Hid (Z → ∀ r, r < Nt.mm n → Nt.RhsOk n (Nt.nd n r) n.ln))
    (hP : ∀ c (a : Act) o v w, Q (.panic c) (a.put o v) w → Q (.panic c) a w)
    (hQ : ∀ (y10 y11 y12 y13 y14 y15 y16 y17 y72 y73 y74 y75 y76 y77 y78 y79 y80 y81 y82 y83 y84 y85 y86 y87 y88 y89 y90 y91 y92 y93 y94 y95 y96 y97 y98 y99 y100 y101 y102 y103 y104 y105 y106 y107 y108 y109 y110 y111 y112 y113 y114 y115 y116 y117 y118 y119 y120 y121 y122 y123 y124 y125 y126 y127 y128 y129 y130 y131 y132 y133 y134 y135 y136 y137 y138 y139 y140 y141 y142 y143 y144 y145 y146 y147 y148 y149 y150 y151 y152 y153 y154 y155 y156 y157 y158 y159 y160 y161 y162 y163 y164 y165 y166 y167 y168 y169 y170 y171 y172 y173 y174 y175 y176 y177 y178 y179 y180 y181 y182 y183 y184 y185 y186 y187 y188 y189 y190 y191 y192 y193 y194 : Value) (WZ : World) (v : Value) (g c : Nat → Nat) (M : El.Mx) (z : Int), Hid (Nt.Rz n Z (Nt.mm n) z M) → Hid (Rw gc (Nt.mm n) (Nt.mm n) g c M z v w0 WZ) → Q (.exit 2) { tmps := #[x0, (.pointer (some ⟨w.heap.size, 0, none⟩)), x2, x3, (.pointer (some ⟨gc, 0, none⟩)), (.slice na (Nt.mm n) nk), (.slice (some ⟨gn, 0, none⟩) (Nt.nn n) (Nt.nn n)), x7, (.int .i64 (Nt.mm n : Nat)), v, y10, y11, y12, y13, y14, y15, y16, y17, x18, x19, x20, x21, x22, x23, x24, x25, x26, x27, x28, x29, x30, x31, x32, x33, x34, x35, x36, x37, x38, x39, x40, x41, x42, x43, x44, x45, x46, x47, x48, x49, x50, x51, x52, x53, x54, x55, x56, x57, x58, x59, x60, x61, x62, x63, x64, x65, x66, x67, x68, x69, x70, x71, y72, y73, y74, y75, y76, y77, y78, y79, y80, y81, y82, y83, y84, y85, y86, y87, y88, y89, y90, y91, y92, y93, y94, y95, y96, y97, y98, y99, y100, y101, y102, y103, y104, y105, y106, y107, y108, y109, y110, y111, y112, y113, y114, y115, y116, y117, y118, y119, y120, y121, y122, y123, y124, y125, y126, y127, y128, y129, y130, y131, y132, y133, y134, y135, y136, y137, y138, y139, y140, y141, y142, y143, y144, y145, y146, y147, y148, y149, y150, y151, y152, y153, y154, y155, y156, y157, y158, y159, y160, y161, y162, y163, y164, y165, y166, y167, y168, y169, y170, y171, y172, y173, y174, y175, y176, y177, y178, y179, y180, y181, y182, y183, y184, y185, y186, y187, y188, y189, y190, y191, y192, y193, y194, x195, x196, x197, x198, x199, x200, x201, x202, x203, x204, x205, x206, x207, x208, x209, x210, x211, x212, x213, x214, x215, x216, x217, x218, x219, x220, x221, x222, x223, x224, x225, x226, x227, x228, x229, x230, x231, x232, x233, x234, x235, x236, x237, x238, x239, x240, x241, x242, x243, x244, x245, x246, x247, x248, x249, x250, x251, x252, x253, x254, x255, x256, x257, x258, x259, x260, x261, x262, x263, x264, x265, x266, x267, x268, x269, x270, x271, x272, x273, x274, x275, x276, x277, x278, x279, x280, x281, x282, x283, x284, x285, x286, x287, x288, x289, x290, x291, x292, x293, x294, x295, x296, x297, x298, x299, x300, x301, x302, x303, x304, x305, x306, x307, x308, x309, x310, x311, x312, x313, x314, x315, x316, x317, x318, x319, x320, x321, x322, x323, x324, x325, x326, x327, x328, x329, x330, x331, x332, x333, x334, x335, x336, x337, x338, x339, x340, x341, x342, x343, x344, x345, x346, x347, x348, x349, x350, x351, x352, x353, x354, x355, x356, x357, x358, x359, x360, x361, x362, x363, x364, x365, x366, x367, x368, x369, x370, x371, x372, x373, x374, x375, x376], defers := ds } WZ) :
    ((((Code.region 19 #[{ dst := some 72, op := Op.move (Operand.tmp 10), type := 3, pos := "l07_linear.go:90", after := #[], guard := none }, { dst := some 73, op := Op.move (Operand.tmp 8), type := 3, pos := "l07_linear.go:90", after := #[], guard := none }, { dst := some 74, op := Op.binOp BinOp.lss 3 (Operand.tmp 72) (Operand.tmp 73) 3, type := 4, pos := "l07_linear.go:90", after := #[{ on := 0, ground := Ground.data }, { on := 1, ground := Ground.data }], guard := none }] false).seq (Code.cond (Operand.tmp 74) Code.skip (Code.exit 2))).seq ((Code.block 3 ((Code.region 21 #[{ dst := some 77, op := Op.move (Operand.tmp 8), type := 3, pos := "l07_linear.go:91", after := #[], guard := none }, { dst := some 78, op := Op.makeSlice 25 (Operand.tmp 77) (Operand.tmp 77), type := 25, pos := "l07_linear.go:91", after := #[{ on := 0, ground := Ground.data }, { on := 0, ground := Ground.data }], guard := none }, { dst := some 11, op := Op.assign (Operand.tmp 78), type := 25, pos := "l07_linear.go:91", after := #[{ on := 1, ground := Ground.data }, { on := 0, ground := Ground.phase }, { on := 1, ground := Ground.phase }], guard := none }] false).seq ((Code.region 22 #[{ dst := some 79, op := Op.move (Operand.tmp 4), type := 57, pos := "l07_linear.go:92", after := #[], guard := none }, { dst := some 80, op := Op.fieldAddr 27 (Operand.tmp 1) 3, type := 0, pos := "l07_linear.go:92", after := #[], guard := none }, { dst := some 81, op := Op.load 25 (Operand.tmp 80), type := 25, pos := "l07_linear.go:92", after := #[{ on := 1, ground := Ground.data }], guard := none }, { dst := some 82, op := Op.move (Operand.tmp 5), type := 25, pos := "l07_linear.go:92", after := #[], guard := none }, { dst := some 83, op := Op.move (Operand.tmp 10), type := 3, pos := "l07_linear.go:92", after := #[], guard := none }, { dst := some 84, op := Op.indexAddr 25 (Operand.tmp 82) (Operand.tmp 83), type := 0, pos := "l07_linear.go:92", after := #[{ on := 3, ground := Ground.data }, { on := 4, ground := Ground.data }], guard := none }, { dst := some 85, op := Op.load 2 (Operand.tmp 84), type := 2, pos := "l07_linear.go:92", after := #[{ on := 5, ground := Ground.data }], guard := none }, { dst := some 86, op := Op.indexAddr 25 (Operand.tmp 81) (Operand.tmp 85), type := 0, pos := "l07_linear.go:92", after := #[{ on := 2, ground := Ground.data }, { on := 6, ground := Ground.data }], guard := none }, { dst := some 87, op := Op.load 2 (Operand.tmp 86), type := 2, pos := "l07_linear.go:92", after := #[{ on := 7, ground := Ground.data }], guard := none }, { dst := some 88, op := Op.unOp UnOp.neg 2 (Operand.tmp 87), type := 2, pos := "l07_linear.go:92", after := #[{ on := 8, ground := Ground.data }], guard := none }, { dst := some 89, op := Op.call { callee := Callee.value (Operand.func 25), args := #[Operand.tmp 88, Operand.const (Value.int IntKind.i64 1)], argTypes := #[2, 2] }, type := 65, pos := "l07_linear.go:92", after := #[{ on := 9, ground := Ground.data }], guard := none }, { dst := some 90, op := Op.call { callee := Callee.value (Operand.func 24), args := #[Operand.tmp 79, Operand.tmp 89], argTypes := #[57, 65] }, type := 35, pos := "l07_linear.go:92", after := #[{ on := 0, ground := Ground.data }, { on := 10, ground := Ground.data }, { on := 10, ground := Ground.chain }], guard := none }, { dst := some 12, op := Op.alloc 35, type := 0, pos := "l07_linear.go:92", after := #[], guard := none }, { dst := none, op := Op.store 35 (Operand.tmp 12) (Operand.tmp 90), type := 0, pos := "l07_linear.go:92", after := #[{ on := 12, ground := Ground.data }, { on := 11, ground := Ground.data }, { on := 11, ground := Ground.chain }, { on := 0, ground := Ground.phase }, { on := 1, ground := Ground.phase }, { on := 2, ground := Ground.phase }, { on := 3, ground := Ground.phase }, { on := 4, ground := Ground.phase }, { on := 5, ground := Ground.phase }, { on := 6, ground := Ground.phase }, { on := 7, ground := Ground.phase }, { on := 8, ground := Ground.phase }, { on := 9, ground := Ground.phase }, { on := 10, ground := Ground.phase }, { on := 11, ground := Ground.phase }, { on := 12, ground := Ground.phase }], guard := none }] true).seq (((Code.region 23 #[{ dst := some 13, op := Op.assign (Operand.const (Value.int IntKind.i64 0)), type := 3, pos := "l07_linear.go:93", after := #[], guard := none }] false).seq (Code.block 4 (((Code.region 24 #[{ dst := some 91, op := Op.move (Operand.tmp 13), type := 3, pos := "l07_linear.go:93", after := #[], guard := none }, { dst := some 92, op := Op.fieldAddr 27 (Operand.tmp 1) 1, type := 0, pos := "l07_linear.go:93", after := #[], guard := none }, { dst := some 93, op := Op.load 23 (Operand.tmp 92), type := 23, pos := "l07_linear.go:93", after := #[{ on := 1, ground := Ground.data }], guard := none }, { dst := some 94, op := Op.call { callee := Callee.builtin Builtin.len, args := #[Operand.tmp 93], argTypes := #[23] }, type := 3, pos := "l07_linear.go:93", after := #[{ on := 2, ground := Ground.data }], guard := none }, { dst := some 95, op := Op.binOp BinOp.lss 3 (Operand.tmp 91) (Operand.tmp 94) 3, type := 4, pos := "l07_linear.go:93", after := #[{ on := 0, ground := Ground.data }, { on := 3, ground := Ground.data }], guard := none }] false).seq (Code.cond (Operand.tmp 95) Code.skip (Code.exit 4))).seq ((Code.block 5 ((Code.region 26 #[{ dst := some 98, op := Op.fieldAddr 27 (Operand.tmp 1) 1, type := 0, pos := "l07_linear.go:94", after := #[], guard := none }, { dst := some 99, op := Op.load 23 (Operand.tmp 98), type := 23, pos := "l07_linear.go:94", after := #[{ on := 0, ground := Ground.data }], guard := none }, { dst := some 100, op := Op.move (Operand.tmp 13), type := 3, pos := "l07_linear.go:94", after := #[], guard := none }, { dst := some 101, op := Op.indexAddr 23 (Operand.tmp 99) (Operand.tmp 100), type := 0, pos := "l07_linear.go:94", after := #[{ on := 1, ground := Ground.data }, { on := 2, ground := Ground.data }], guard := none }, { dst := some 102, op := Op.load 68 (Operand.tmp 101), type := 68, pos := "l07_linear.go:94", after := #[{ on := 3, ground := Ground.data }], guard := none }, { dst := some 14, op := Op.alloc 68, type := 0, pos := "l07_linear.go:94", after := #[], guard := none }, { dst := none, op := Op.store 68 (Operand.tmp 14) (Operand.tmp 102), type := 0, pos := "l07_linear.go:94", after := #[{ on := 5, ground := Ground.data }, { on := 4, ground := Ground.data }, { on := 0, ground := Ground.phase }, { on := 1, ground := Ground.phase }, { on := 2, ground := Ground.phase }, { on := 3, ground := Ground.phase }, { on := 4, ground := Ground.phase }, { on := 5, ground := Ground.phase }], guard := none }] false).seq ((Code.region 27 #[{ dst := some 15, op := Op.assign (Operand.const (Value.int IntKind.i64 (-1))), type := 2, pos := "l07_linear.go:95", after := #[], guard := none }] false).seq (((Code.region 28 #[{ dst := some 103, op := Op.fieldAddr 68 (Operand.tmp 14) 0, type := 0, pos := "l07_linear.go:96", after := #[], guard := none }, { dst := some 104, op := Op.load 2 (Operand.tmp 103), type := 2, pos := "l07_linear.go:96", after := #[{ on := 0, ground := Ground.data }], guard := none }, { dst := some 105, op := Op.move (Operand.tmp 5), type := 25, pos := "l07_linear.go:96", after := #[], guard := none }, { dst := some 106, op := Op.move (Operand.tmp 10), type := 3, pos := "l07_linear.go:96", after := #[], guard := none }, { dst := some 107, op := Op.indexAddr 25 (Operand.tmp 105) (Operand.tmp 106), type := 0, pos := "l07_linear.go:96", after := #[{ on := 2, ground := Ground.data }, { on := 3, ground := Ground.data }], guard := none }, { dst := some 108, op := Op.load 2 (Operand.tmp 107), type := 2, pos := "l07_linear.go:96", after := #[{ on := 4, ground := Ground.data }], guard := none }, { dst := some 109, op := Op.binOp BinOp.eql 2 (Operand.tmp 104) (Operand.tmp 108) 2, type := 4, pos := "l07_linear.go:96", after := #[{ on := 1, ground := Ground.data }, { on := 5, ground := Ground.data }], guard := none }] true).seq (Code.cond (Operand.tmp 109) (Code.region 29 #[{ dst := some 110, op := Op.fieldAddr 68 (Operand.tmp 14) 1, type := 0, pos := "l07_linear.go:97", after := #[], guard := none }, { dst := some 111, op := Op.load 2 (Operand.tmp 110), type := 2, pos := "l07_linear.go:97", after := #[{ on := 0, ground := Ground.data }], guard := none }, { dst := some 15, op := Op.assign (Operand.tmp 111), type := 2, pos := "l07_linear.go:97", after := #[{ on := 1, ground := Ground.data }, { on := 0, ground := Ground.phase }, { on := 1, ground := Ground.phase }], guard := none }] false) ((Code.region 30 #[{ dst := some 112, op := Op.fieldAddr 68 (Operand.tmp 14) 1, type := 0, pos := "l07_linear.go:98", after := #[], guard := none }, { dst := some 113, op := Op.load 2 (Operand.tmp 112), type := 2, pos := "l07_linear.go:98", after := #[{ on := 0, ground := Ground.data }], guard := none }, { dst := some 114, op := Op.move (Operand.tmp 5), type := 25, pos := "l07_linear.go:98", after := #[], guard := none }, { dst := some 115, op := Op.move (Operand.tmp 10), type := 3, pos := "l07_linear.go:98", after := #[], guard := none }, { dst := some 116, op := Op.indexAddr 25 (Operand.tmp 114) (Operand.tmp 115), type := 0, pos := "l07_linear.go:98", after := #[{ on := 2, ground := Ground.data }, { on := 3, ground := Ground.data }], guard := none }, { dst := some 117, op := Op.load 2 (Operand.tmp 116), type := 2, pos := "l07_linear.go:98", after := #[{ on := 4, ground := Ground.data }], guard := none }, { dst := some 118, op := Op.binOp BinOp.eql 2 (Operand.tmp 113) (Operand.tmp 117) 2, type := 4, pos := "l07_linear.go:98", after := #[{ on := 1, ground := Ground.data }, { on := 5, ground := Ground.data }], guard := none }] true).seq (Code.cond (Operand.tmp 118) (Code.region 31 #[{ dst := some 119, op := Op.fieldAddr 68 (Operand.tmp 14) 0, type := 0, pos := "l07_linear.go:99", after := #[], guard := none }, { dst := some 120, op := Op.load 2 (Operand.tmp 119), type := 2, pos := "l07_linear.go:99", after := #[{ on := 0, ground := Ground.data }], guard := none }, { dst := some 15, op := Op.assign (Operand.tmp 120), type := 2, pos := "l07_linear.go:99", after := #[{ on := 1, ground := Ground.data }, { on := 0, ground := Ground.phase }, { on := 1, ground := Ground.phase }], guard := none }] false) Code.skip)))).seq (((Code.region 32 #[{ dst := some 121, op := Op.move (Operand.tmp 15), type := 2, pos := "l07_linear.go:101", after := #[], guard := none }, { dst := some 122, op := Op.binOp BinOp.eql 2 (Operand.tmp 121) (Operand.const (Value.int IntKind.i64 (-1))) 2, type := 4, pos := "l07_linear.go:101", after := #[{ on := 0, ground := Ground.data }], guard := none }] false).seq (Code.cond (Operand.tmp 122) (Code.exit 5) Code.skip)).seq ((Code.region 33 #[{ dst := some 123, op := Op.move (Operand.tmp 11), type := 25, pos := "l07_linear.go:104", after := #[], guard := none }, { dst := some 124, op := Op.move (Operand.tmp 10), type := 3, pos := "l07_linear.go:104", after := #[], guard := none }, { dst := some 125, op := Op.move (Operand.tmp 11), type := 25, pos := "l07_linear.go:104", after := #[], guard := none }, { dst := some 126, op := Op.move (Operand.tmp 10), type := 3, pos := "l07_linear.go:104", after := #[], guard := none }, { dst := some 127, op := Op.indexAddr 25 (Operand.tmp 125) (Operand.tmp 126), type := 0, pos := "l07_linear.go:104", after := #[{ on := 2, ground := Ground.data }, { on := 3, ground := Ground.data }], guard := none }, { dst := some 128, op := Op.load 2 (Operand.tmp 127), type := 2, pos := "l07_linear.go:104", after := #[{ on := 4, ground := Ground.data }], guard := none }, { dst := some 129, op := Op.fieldAddr 68 (Operand.tmp 14) 2, type := 0, pos := "l07_linear.go:104", after := #[], guard := none }, { dst := some 130, op := Op.load 2 (Operand.tmp 129), type := 2, pos := "l07_linear.go:104", after := #[{ on := 6, ground := Ground.data }], guard := none }, { dst := some 131, op := Op.binOp BinOp.add 2 (Operand.tmp 128) (Operand.tmp 130) 2, type := 2, pos := "l07_linear.go:104", after := #[{ on := 5, ground := Ground.data }, { on := 7, ground := Ground.data }], guard := none }, { dst := some 132, op := Op.indexAddr 25 (Operand.tmp 123) (Operand.tmp 124), type := 0, pos := "l07_linear.go:104", after := #[{ on := 0, ground := Ground.data }, { on := 1, ground := Ground.data }, { on := 0, ground := Ground.phase }, { on := 1, ground := Ground.phase }, { on := 2, ground := Ground.phase }, { on := 3, ground := Ground.phase }, { on := 4, ground := Ground.phase }, { on := 5, ground := Ground.phase }, { on := 6, ground := Ground.phase }, { on := 7, ground := Ground.phase }, { on := 8, ground := Ground.phase }], guard := none }, { dst := none, op := Op.store 2 (Operand.tmp 132) (Operand.tmp 131), type := 0, pos := "l07_linear.go:104", after := #[{ on := 9, ground := Ground.data }, { on := 8, ground := Ground.data }, { on := 0, ground := Ground.phase }, { on := 1, ground := Ground.phase }, { on := 2, ground := Ground.phase }, { on := 3, ground := Ground.phase }, { on := 4, ground := Ground.phase }, { on := 5, ground := Ground.phase }, { on := 6, ground := Ground.phase }, { on := 7, ground := Ground.phase }, { on := 8, ground := Ground.phase }], guard := none }] true).seq ((Code.region 34 #[{ dst := some 133, op := Op.move (Operand.tmp 6), type := 60, pos := "l07_linear.go:105", after := #[], guard := none }, { dst := some 134, op := Op.move (Operand.tmp 15), type := 2, pos := "l07_linear.go:105", after := #[], guard := none }, { dst := some 135, op := Op.indexAddr 60 (Operand.tmp 133) (Operand.tmp 134), type := 0, pos := "l07_linear.go:105", after := #[{ on := 0, ground := Ground.data }, { on := 1, ground := Ground.data }], guard := none }, { dst := some 136, op := Op.load 3 (Operand.tmp 135), type := 3, pos := "l07_linear.go:105", after := #[{ on := 2, ground := Ground.data }], guard := none }, { dst := some 137, op := Op.binOp BinOp.geq 3 (Operand.tmp 136) (Operand.const (Value.int IntKind.i64 0)) 3, type := 4, pos := "l07_linear.go:105", after := #[{ on := 3, ground := Ground.data }], guard := none }] false).seq (Code.cond (Operand.tmp 137) (Code.region 35 #[{ dst := some 138, op := Op.move (Operand.tmp 11), type := 25, pos := "l07_linear.go:106", after := #[], guard := none }, { dst := some 139, op := Op.move (Operand.tmp 6), type := 60, pos := "l07_linear.go:106", after := #[], guard := none }, { dst := some 140, op := Op.move (Operand.tmp 15), type := 2, pos := "l07_linear.go:106", after := #[], guard := none }, { dst := some 141, op := Op.indexAddr 60 (Operand.tmp 139) (Operand.tmp 140), type := 0, pos := "l07_linear.go:106", after := #[{ on := 1, ground := Ground.data }, { on := 2, ground := Ground.data }], guard := none }, { dst := some 142, op := Op.load 3 (Operand.tmp 141), type := 3, pos := "l07_linear.go:106", after := #[{ on := 3, ground := Ground.data }], guard := none }, { dst := some 143, op := Op.move (Operand.tmp 11), type := 25, pos := "l07_linear.go:106", after := #[], guard := none }, { dst := some 144, op := Op.move (Operand.tmp 6), type := 60, pos := "l07_linear.go:106", after := #[], guard := none }, { dst := some 145, op := Op.move (Operand.tmp 15), type := 2, pos := "l07_linear.go:106", after := #[], guard := none }, { dst := some 146, op := Op.indexAddr 60 (Operand.tmp 144) (Operand.tmp 145), type := 0, pos := "l07_linear.go:106", after := #[{ on := 6, ground := Ground.data }, { on := 7, ground := Ground.data }], guard := none }, { dst := some 147, op := Op.load 3 (Operand.tmp 146), type := 3, pos := "l07_linear.go:106", after := #[{ on := 8, ground := Ground.data }], guard := none }, { dst := some 148, op := Op.indexAddr 25 (Operand.tmp 143) (Operand.tmp 147), type := 0, pos := "l07_linear.go:106", after := #[{ on := 5, ground := Ground.data }, { on := 9, ground := Ground.data }], guard := none }, { dst := some 149, op := Op.load 2 (Operand.tmp 148), type := 2, pos := "l07_linear.go:106", after := #[{ on := 10, ground := Ground.data }], guard := none }, { dst := some 150, op := Op.fieldAddr 68 (Operand.tmp 14) 2, type := 0, pos := "l07_linear.go:106", after := #[], guard := none }, { dst := some 151, op := Op.load 2 (Operand.tmp 150), type := 2, pos := "l07_linear.go:106", after := #[{ on := 12, ground := Ground.data }], guard := none }, { dst := some 152, op := Op.binOp BinOp.sub 2 (Operand.tmp 149) (Operand.tmp 151) 2, type := 2, pos := "l07_linear.go:106", after := #[{ on := 11, ground := Ground.data }, { on := 13, ground := Ground.data }], guard := none }, { dst := some 153, op := Op.indexAddr 25 (Operand.tmp 138) (Operand.tmp 142), type := 0, pos := "l07_linear.go:106", after := #[{ on := 0, ground := Ground.data }, { on := 4, ground := Ground.data }, { on := 0, ground := Ground.phase }, { on := 1, ground := Ground.phase }, { on := 2, ground := Ground.phase }, { on := 3, ground := Ground.phase }, { on := 4, ground := Ground.phase }, { on := 5, ground := Ground.phase }, { on := 6, ground := Ground.phase }, { on := 7, ground := Ground.phase }, { on := 8, ground := Ground.phase }, { on := 9, ground := Ground.phase }, { on := 10, ground := Ground.phase }, { on := 11, ground := Ground.phase }, { on := 12, ground := Ground.phase }, { on := 13, ground := Ground.phase }, { on := 14, ground := Ground.phase }], guard := none }, { dst := none, op := Op.store 2 (Operand.tmp 153) (Operand.tmp 152), type := 0, pos := "l07_linear.go:106", after := #[{ on := 15, ground := Ground.data }, { on := 14, ground := Ground.data }, { on := 0, ground := Ground.phase }, { on := 1, ground := Ground.phase }, { on := 2, ground := Ground.phase }, { on := 3, ground := Ground.phase }, { on := 4, ground := Ground.phase }, { on := 5, ground := Ground.phase }, { on := 6, ground := Ground.phase }, { on := 7, ground := Ground.phase }, { on := 8, ground := Ground.phase }, { on := 9, ground := Ground.phase }, { on := 10, ground := Ground.phase }, { on := 11, ground := Ground.phase }, { on := 12, ground := Ground.phase }, { on := 13, ground := Ground.phase }, { on := 14, ground := Ground.phase }], guard := none }] true) (Code.region 36 #[{ dst := some 154, op := Op.move (Operand.tmp 4), type := 57, pos := "l07_linear.go:108", after := #[], guard := none }, { dst := some 155, op := Op.load 35 (Operand.tmp 12), type := 35, pos := "l07_linear.go:108", after := #[], guard := none }, { dst := some 156, op := Op.move (Operand.tmp 4), type := 57, pos := "l07_linear.go:108", after := #[], guard := none }, { dst := some 157, op := Op.fieldAddr 68 (Operand.tmp 14) 2, type := 0, pos := "l07_linear.go:108", after := #[], guard := none }, { dst := some 158, op := Op.load 2 (Operand.tmp 157), type := 2, pos := "l07_linear.go:108", after := #[{ on := 3, ground := Ground.data }], guard := none }, { dst := some 159, op := Op.fieldAddr 27 (Operand.tmp 1) 2, type := 0, pos := "l07_linear.go:108", after := #[], guard := none }, { dst := some 160, op := Op.load 24 (Operand.tmp 159), type := 24, pos := "l07_linear.go:108", after := #[{ on := 5, ground := Ground.data }], guard := none }, { dst := some 161, op := Op.load 27 (Operand.tmp 1), type := 27, pos := "l07_linear.go:108", after := #[], guard := none }, { dst := some 162, op := Op.move (Operand.tmp 15), type := 2, pos := "l07_linear.go:108", after := #[], guard := none }, { dst := some 163, op := Op.call { callee := Callee.value (Operand.func 23), args := #[Operand.tmp 161, Operand.tmp 162], argTypes := #[27, 2] }, type := 3, pos := "l07_linear.go:108", after := #[{ on := 7, ground := Ground.data }, { on := 8, ground := Ground.data }], guard := none }, { dst := some 164, op := Op.indexAddr 24 (Operand.tmp 160) (Operand.tmp 163), type := 0, pos := "l07_linear.go:108", after := #[{ on := 6, ground := Ground.data }, { on := 9, ground := Ground.data }], guard := none }, { dst := some 165, op := Op.fieldAddr 39 (Operand.tmp 164) 1, type := 0, pos := "l07_linear.go:108", after := #[{ on := 10, ground := Ground.data }], guard := none }, { dst := some 166, op := Op.load 2 (Operand.tmp 165), type := 2, pos := "l07_linear.go:108", after := #[{ on := 11, ground := Ground.data }], guard := none }, { dst := some 167, op := Op.binOp BinOp.mul 2 (Operand.tmp 158) (Operand.tmp 166) 2, type := 2, pos := "l07_linear.go:108", after := #[{ on := 4, ground := Ground.data }, { on := 12, ground := Ground.data }], guard := none }, { dst := some 168, op := Op.call { callee := Callee.value (Operand.func 25), args := #[Operand.tmp 167, Operand.const (Value.int IntKind.i64 1)], argTypes := #[2, 2] }, type := 65, pos := "l07_linear.go:108", after := #[{ on := 13, ground := Ground.data }, { on := 9, ground := Ground.chain }], guard := none }, { dst := some 169, op := Op.call { callee := Callee.value (Operand.func 24), args := #[Operand.tmp 156, Operand.tmp 168], argTypes := #[57, 65] }, type := 35, pos := "l07_linear.go:108", after := #[{ on := 2, ground := Ground.data }, { on := 14, ground := Ground.data }, { on := 14, ground := Ground.chain }], guard := none }, { dst := some 170, op := Op.call { callee := Callee.value (Operand.func 26), args := #[Operand.tmp 155, Operand.tmp 169], argTypes := #[35, 35] }, type := 65, pos := "l07_linear.go:108", after := #[{ on := 1, ground := Ground.data }, { on := 15, ground := Ground.data }, { on := 15, ground := Ground.chain }], guard := none }, { dst := some 171, op := Op.call { callee := Callee.value (Operand.func 24), args := #[Operand.tmp 154, Operand.tmp 170], argTypes := #[57, 65] }, type := 35, pos := "l07_linear.go:108", after := #[{ on := 0, ground := Ground.data }, { on := 16, ground := Ground.data }, { on := 16, ground := Ground.chain }], guard := none }, { dst := none, op := Op.store 35 (Operand.tmp 12) (Operand.tmp 171), type := 0, pos := "l07_linear.go:108", after := #[{ on := 17, ground := Ground.data }, { on := 17, ground := Ground.chain }, { on := 0, ground := Ground.phase }, { on := 1, ground := Ground.phase }, { on := 2, ground := Ground.phase }, { on := 3, ground := Ground.phase }, { on := 4, ground := Ground.phase }, { on := 5, ground := Ground.phase }, { on := 6, ground := Ground.phase }, { on := 7, ground := Ground.phase }, { on := 8, ground := Ground.phase }, { on := 9, ground := Ground.phase }, { on := 10, ground := Ground.phase }, { on := 11, ground := Ground.phase }, { on := 12, ground := Ground.phase }, { on := 13, ground := Ground.phase }, { on := 14, ground := Ground.phase }, { on := 15, ground := Ground.phase }, { on := 16, ground := Ground.phase }, { on := 17, ground := Ground.phase }], guard := none }] true))))))))).seq (Code.region 25 #[{ dst := some 96, op := Op.move (Operand.tmp 13), type := 3, pos := "l07_linear.go:93", after := #[], guard := none }, { dst := some 97, op := Op.binOp BinOp.add 3 (Operand.tmp 96) (Operand.const (Value.int IntKind.i64 1)) 3, type := 3, pos := "l07_linear.go:93", after := #[{ on := 0, ground := Ground.data }], guard := none }, { dst := some 13, op := Op.assign (Operand.tmp 97), type := 3, pos := "l07_linear.go:93", after := #[{ on := 1, ground := Ground.data }, { on := 0, ground := Ground.phase }, { on := 1, ground := Ground.phase }], guard := none }] false))).loop)).seq ((Code.region 37 #[{ dst := some 172, op := Op.buildSlice 29 0 #[], type := 29, pos := "l07_linear.go:111", after := #[], guard := none }, { dst := some 16, op := Op.assign (Operand.tmp 172), type := 29, pos := "l07_linear.go:111", after := #[{ on := 0, ground := Ground.data }, { on := 0, ground := Ground.phase }], guard := none }] false).seq (((Code.region 38 #[{ dst := some 17, op := Op.assign (Operand.const (Value.int IntKind.i64 0)), type := 3, pos := "l07_linear.go:112", after := #[], guard := none }] false).seq (Code.block 6 (((Code.region 39 #[{ dst := some 173, op := Op.move (Operand.tmp 17), type := 3, pos := "l07_linear.go:112", after := #[], guard := none }, { dst := some 174, op := Op.move (Operand.tmp 8), type := 3, pos := "l07_linear.go:112", after := #[], guard := none }, { dst := some 175, op := Op.binOp BinOp.lss 3 (Operand.tmp 173) (Operand.tmp 174) 3, type := 4, pos := "l07_linear.go:112", after := #[{ on := 0, ground := Ground.data }, { on := 1, ground := Ground.data }], guard := none }] false).seq (Code.cond (Operand.tmp 175) Code.skip (Code.exit 6))).seq ((Code.block 7 (Code.region 41 #[{ dst := some 178, op := Op.move (Operand.tmp 16), type := 29, pos := "l07_linear.go:113", after := #[], guard := none }, { dst := some 179, op := Op.move (Operand.tmp 4), type := 57, pos := "l07_linear.go:113", after := #[], guard := none }, { dst := some 180, op := Op.move (Operand.tmp 11), type := 25, pos := "l07_linear.go:113", after := #[], guard := none }, { dst := some 181, op := Op.move (Operand.tmp 17), type := 3, pos := "l07_linear.go:113", after := #[], guard := none }, { dst := some 182, op := Op.indexAddr 25 (Operand.tmp 180) (Operand.tmp 181), type := 0, pos := "l07_linear.go:113", after := #[{ on := 2, ground := Ground.data }, { on := 3, ground := Ground.data }], guard := none }, { dst := some 183, op := Op.load 2 (Operand.tmp 182), type := 2, pos := "l07_linear.go:113", after := #[{ on := 4, ground := Ground.data }], guard := none }, { dst := some 184, op := Op.call { callee := Callee.value (Operand.func 25), args := #[Operand.tmp 183, Operand.const (Value.int IntKind.i64 1)], argTypes := #[2, 2] }, type := 65, pos := "l07_linear.go:113", after := #[{ on := 5, ground := Ground.data }], guard := none }, { dst := some 185, op := Op.call { callee := Callee.value (Operand.func 24), args := #[Operand.tmp 179, Operand.tmp 184], argTypes := #[57, 65] }, type := 35, pos := "l07_linear.go:113", after := #[{ on := 1, ground := Ground.data }, { on := 6, ground := Ground.data }, { on := 6, ground := Ground.chain }], guard := none }, { dst := some 186, op := Op.buildSlice 29 1 #[(0, Operand.tmp 185)], type := 29, pos := "l07_linear.go:113", after := #[{ on := 7, ground := Ground.data }], guard := none }, { dst := some 187, op := Op.call { callee := Callee.builtin Builtin.append, args := #[Operand.tmp 178, Operand.tmp 186], argTypes := #[29, 29] }, type := 29, pos := "l07_linear.go:113", after := #[{ on := 0, ground := Ground.data }, { on := 8, ground := Ground.data }, { on := 7, ground := Ground.chain }], guard := none }, { dst := some 16, op := Op.assign (Operand.tmp 187), type := 29, pos := "l07_linear.go:113", after := #[{ on := 9, ground := Ground.data }, { on := 9, ground := Ground.chain }, { on := 0, ground := Ground.phase }, { on := 1, ground := Ground.phase }, { on := 2, ground := Ground.phase }, { on := 3, ground := Ground.phase }, { on := 4, ground := Ground.phase }, { on := 5, ground := Ground.phase }, { on := 6, ground := Ground.phase }, { on := 7, ground := Ground.phase }, { on := 8, ground := Ground.phase }, { on := 9, ground := Ground.phase }], guard := none }] false)).seq (Code.region 40 #[{ dst := some 176, op := Op.move (Operand.tmp 17), type := 3, pos := "l07_linear.go:112", after := #[], guard := none }, { dst := some 177, op := Op.binOp BinOp.add 3 (Operand.tmp 176) (Operand.const (Value.int IntKind.i64 1)) 3, type := 3, pos := "l07_linear.go:112", after := #[{ on := 0, ground := Ground.data }], guard := none }, { dst := some 17, op := Op.assign (Operand.tmp 177), type := 3, pos := "l07_linear.go:112", after := #[{ on := 1, ground := Ground.data }, { on := 0, ground := Ground.phase }, { on := 1, ground := Ground.phase }], guard := none }] false))).loop)).seq (Code.region 42 #[{ dst := some 188, op := Op.move (Operand.tmp 9), type := 62, pos := "l07_linear.go:115", after := #[], guard := none }, { dst := some 189, op := Op.move (Operand.tmp 16), type := 29, pos := "l07_linear.go:115", after := #[], guard := none }, { dst := some 190, op := Op.load 35 (Operand.tmp 12), type := 35, pos := "l07_linear.go:115", after := #[], guard := none }, { dst := some 191, op := Op.buildSlice 29 1 #[(0, Operand.tmp 190)], type := 29, pos := "l07_linear.go:115", after := #[{ on := 2, ground := Ground.data }], guard := none }, { dst := some 192, op := Op.call { callee := Callee.builtin Builtin.append, args := #[Operand.tmp 189, Operand.tmp 191], argTypes := #[29, 29] }, type := 29, pos := "l07_linear.go:115", after := #[{ on := 1, ground := Ground.data }, { on := 3, ground := Ground.data }], guard := none }, { dst := some 193, op := Op.buildSlice 62 1 #[(0, Operand.tmp 192)], type := 62, pos := "l07_linear.go:115", after := #[{ on := 4, ground := Ground.data }], guard := none }, { dst := some 194, op := Op.call { callee := Callee.builtin Builtin.append, args := #[Operand.tmp 188, Operand.tmp 193], argTypes := #[62, 62] }, type := 62, pos := "l07_linear.go:115", after := #[{ on := 0, ground := Ground.data }, { on := 5, ground := Ground.data }, { on := 4, ground := Ground.chain }], guard := none }, { dst := some 9, op := Op.assign (Operand.tmp 194), type := 62, pos := "l07_linear.go:115", after := #[{ on := 6, ground := Ground.data }, { on := 6, ground := Ground.chain }, { on := 0, ground := Ground.phase }, { on := 1, ground := Ground.phase }, { on := 2, ground := Ground.phase }, { on := 3, ground := Ground.phase }, { on := 4, ground := Ground.phase }, { on := 5, ground := Ground.phase }, { on := 6, ground := Ground.phase }], guard := none }] false))))))).seq (Code.region 20 #[{ dst := some 75, op := Op.move (Operand.tmp 10), type := 3, pos := "l07_linear.go:90", after := #[], guard := none }, { dst := some 76, op := Op.binOp BinOp.add 3 (Operand.tmp 75) (Operand.const (Value.int IntKind.i64 1)) 3, type := 3, pos := "l07_linear.go:90", after := #[{ on := 0, ground := Ground.data }], guard := none }, { dst := some 10, op := Op.assign (Operand.tmp 76), type := 3, pos := "l07_linear.go:90", after := #[{ on := 1, ground := Ground.data }, { on := 0, ground := Ground.phase }, { on := 1, ground := Ground.phase }], guard := none }] false))).loop).wp Tryz.prog Q { tmps := #[x0, (.pointer (some ⟨w.heap.size, 0, none⟩)), x2, x3, (.pointer (some ⟨gc, 0, none⟩)), (.slice na (Nt.mm n) nk), (.slice (some ⟨gn, 0, none⟩) (Nt.nn n) (Nt.nn n)), x7, (.int .i64 (Nt.mm n : Nat)), v0, (.int .i64 0), x11, x12, x13, x14, x15, x16, x17, x18, x19, x20, x21, x22, x23, x24, x25, x26, x27, x28, x29, x30, x31, x32, x33, x34, x35, x36, x37, x38, x39, x40, x41, x42, x43, x44, x45, x46, x47, x48, x49, x50, x51, x52, x53, x54, x55, x56, x57, x58, x59, x60, x61, x62, x63, x64, x65, x66, x67, x68, x69, x70, x71, x72, x73, x74, x75, x76, x77, x78, x79, x80, x81, x82, x83, x84, x85, x86, x87, x88, x89, x90, x91, x92, x93, x94, x95, x96, x97, x98, x99, x100, x101, x102, x103, x104, x105, x106, x107, x108, x109, x110, x111, x112, x113, x114, x115, x116, x117, x118, x119, x120, x121, x122, x123, x124, x125, x126, x127, x128, x129, x130, x131, x132, x133, x134, x135, x136, x137, x138, x139, x140, x141, x142, x143, x144, x145, x146, x147, x148, x149, x150, x151, x152, x153, x154, x155, x156, x157, x158, x159, x160, x161, x162, x163, x164, x165, x166, x167, x168, x169, x170, x171, x172, x173, x174, x175, x176, x177, x178, x179, x180, x181, x182, x183, x184, x185, x186, x187, x188, x189, x190, x191, x192, x193, x194, x195, x196, x197, x198, x199, x200, x201, x202, x203, x204, x205, x206, x207, x208, x209, x210, x211, x212, x213, x214, x215, x216, x217, x218, x219, x220, x221, x222, x223, x224, x225, x226, x227, x228, x229, x230, x231, x232, x233, x234, x235, x236, x237, x238, x239, x240, x241, x242, x243, x244, x245, x246, x247, x248, x249, x250, x251, x252, x253, x254, x255, x256, x257, x258, x259, x260, x261, x262, x263, x264, x265, x266, x267, x268, x269, x270, x271, x272, x273, x274, x275, x276, x277, x278, x279, x280, x281, x282, x283, x284, x285, x286, x287, x288, x289, x290, x291, x292, x293, x294, x295, x296, x297, x298, x299, x300, x301, x302, x303, x304, x305, x306, x307, x308, x309, x310, x311, x312, x313, x314, x315, x316, x317, x318, x319, x320, x321, x322, x323, x324, x325, x326, x327, x328, x329, x330, x331, x332, x333, x334, x335, x336, x337, x338, x339, x340, x341, x342, x343, x344, x345, x346, x347, x348, x349, x350, x351, x352, x353, x354, x355, x356, x357, x358, x359, x360, x361, x362, x363, x364, x365, x366, x367, x368, x369, x370, x371, x372, x373, x374, x375, x376], defers := ds } W0 := by
  obtain ⟨i0, hi0, hi1, hi2, hi3⟩ := info_parts ninfo_fr
  obtain ⟨j0, hj0, hj1, hj2, hj3⟩ := info_parts sinfo_row
  have hm12 := HM.out
  dsimp only
  go_loopw [9, 10] (fun v rv wr => ∃ (r : Nat) (g c : Nat → Nat) (M : El.Mx) (z : Int), rv = .int .i64 r ∧ r ≤ Nt.mm n ∧ Hid (Nt.Rz n Z r z M) ∧ Hid (Rw gc (Nt.mm n) r g c M z v w0 wr)) (fun _ rv _ => Nt.mm n - (intOf rv).toNat)
  case atStart => exact ⟨0, fun _ => 0, fun _ => 0, fun _ _ => (0, 1), 0, rfl, Nat.zero_le _, Nt.Rz.start _ _ _, HR0⟩
  case round =>
    obtain ⟨r, g, c, M, z, rfl, hrm, hZ, hR⟩ := hrel
    clear HR0
    obtain ⟨W1, hW1⟩ : ∃ W, W = wr := ⟨_, rfl⟩
    rw [← hW1] at hR ⊢
    clear hW1
    obtain ⟨a1, c1, rfl⟩ := lpown_shape hR.out.own
    by_cases hr : r < Nt.mm n
    case neg =>
      obtain rfl : r = Nt.mm n := by omega
      go_wp2_with fail
      exact hQ _ _ _ _ _ _ _ _ _ _ _ _ _ _ _ _ _ _ _ _ _ _ _ _ _ _ _ _ _ _ _ _ _ _ _ _ _ _ _ _ _ _ _ _ _ _ _ _ _ _ _ _ _ _ _ _ _ _ _ _ _ _ _ _ _ _ _ _ _ _ _ _ _ _ _ _ _ _ _ _ _ _ _ _ _ _ _ _ _ _ _ _ _ _ _ _ _ _ _ _ _ _ _ _ _ _ _ _ _ _ _ _ _ _ _ _ _ _ _ _ _ _ _ _ _ _ _ _ _ _ _ _ _ g c M z hZ hR
    have hrz : (r : Int) < (Nt.mm n : Int) := by omega
    have HT1 := Lib.hid (HT.out.keep hR.out.fr)
    obtain ⟨nb, e, _⟩ := HT1.out.nod.at1 hr
    subst e
    have hmk := smk_i64 (Nt.mm n) (by omega)
    obtain ⟨W2, hW2⟩ : ∃ W, W = W1.alloc (.cells (madeCells #[.int .i64 0] (Nt.mm n)) 2) := ⟨_, rfl⟩
    obtain ⟨gw, hgw⟩ : ∃ x, x = W1.heap.size := ⟨_, rfl⟩
    have HE : Hid (R2 gc gw (Nt.mm n) (fun _ => 0) z W1 W2) := by
      have hb2 : Below W1.heap.size W1 W2 := by rw [hW2]; exact nbel_alloc _ _
      refine ⟨?_, nrow_below hR.out.rc hb2, Fr2.of_below hb2 (Nat.le_refl _), by omega, hR.out.rc.lt⟩
      rw [hW2, hgw]
      exact ⟨_, _, Nat.le_refl _, made_is _ _ W1 _ (by intro i hi; simp at hi; subst hi; rfl) (by simp), fun j _ => rfl⟩
    have HW2 := Lib.hid hW2
    have HGW := Lib.hid hgw
    clear hW2 hgw
    go_wp2_with fail
    rw [← HW2.out, ← HGW.out]
    clear HW2 hmk
    apply sreg22 (HE := HE) (HT := HT1) (HAT := HAT) (HRT := HRT) (hr := hr) (hP := fun c a o v w h => by exact hP c a o v w h)
    intro y79 y80 y81 y82 y83 y84 y85 y86 y87 y88 y89 y90 W3 gt q1 hq1 HR3
    have HK3 : Hid (Nt.Rk n Z (z = 0) (Nt.nd n r) 0 (Fq.tkz q1 z) (Fq.tkv q1)) := by
      rw [hq1]
      exact Nt.Rk.start HRT.out (Nt.nd_lt hr).1 hZ.out.zp id
    have HW3 : Hid (Nt.Wh n (Nt.nd n r) 0 (fun _ => 0)) := fun k _ => by simp [Nt.coefTo]
    have HZr : Hid (Z → Nt.RhsOk n (Nt.nd n r) n.ln) := fun q => HZ.out q r hr
    obtain ⟨x1, hx1⟩ : ∃ x1, x1 = Fq.tkv q1 := ⟨_, rfl⟩
    obtain ⟨z1, hz1⟩ : ∃ z1, z1 = Fq.tkz q1 z := ⟨_, rfl⟩
    rw [← hx1, ← hz1] at HR3 HK3
    clear hx1 hz1 hq1 HE
    go_wp2_with fail
    apply sloop3 (HR := HR3) (HW := HW3) (HK := HK3) (HT := HT1) (HAT := HAT) (HRT := HRT) (hr := hr) (HZ := HZr) (hP := fun c a o v w h => by exact hP c a o v w h)
    intro y13 y14 y15 y91 y92 y93 y94 y95 y96 y97 y98 y99 y100 y101 y102 y103 y104 y105 y106 y107 y108 y109 y110 y111 y112 y113 y114 y115 y116 y117 y118 y119 y120 y121 y122 y123 y124 y125 y126 y127 y128 y129 y130 y131 y132 y133 y134 y135 y136 y137 y138 y139 y140 y141 y142 y143 y144 y145 y146 y147 y148 y149 y150 y151 y152 y153 y154 y155 y156 y157 y158 y159 y160 y161 y162 y163 y164 y165 y166 y167 y168 y169 y170 y171 W4 wh x z2 HW4 HK4 HR4
    clear HR3 HW3 HK3 HZr
    obtain ⟨W5, hW5⟩ : ∃ W, W = W4.alloc (.cells #[] 35) := ⟨_, rfl⟩
    obtain ⟨lo, hlo⟩ : ∃ x, x = W4.heap.size := ⟨_, rfl⟩
    have HR5 : Hid (R4 lo gc gw gt (Nt.mm n) wh x z2 0 (.slice (some ⟨lo, 0, none⟩) 0 0) W1 W5) := by
      have hb5 : Below W4.heap.size W4 W5 := by rw [hW5]; exact nbel_alloc _ _
      refine ⟨HR4.out.below hb5, ?_, ⟨by have := HR4.out.wh.lt; omega, by have := HR4.out.bx.lt; omega, by have := HR4.out.fr.size; omega⟩, by rw [hlo]; exact hb5.size⟩
      rw [hW5, hlo]
      exact World.ownsRow_made W4 #[] 0 (Nat.le_refl _) (Nat.zero_le _) rfl
    have HFI : Hid (∀ k, k < Nt.mm n → Nt.Fits (wh k)) := fun k hk => by rw [HW4.out k hk]; exact Nt.coef_fits HRT.out _ _ _ (Nat.le_refl _)
    have HW5 := Lib.hid hW5
    have HLO := Lib.hid hlo
    clear hW5 hlo HR4
    go_wp2_with fail
    rw [← HW5.out, ← HLO.out]
    clear HW5 HLO
    apply sloop4 (HR := HR5) (HF := HFI) (HM := by show Nt.mm n ≤ 100; omega)
    intro y17 y173 y174 y175 y176 y177 y178 y179 y180 y181 y182 y183 y184 y185 y186 y187 W6 v6 HR6
    clear HR5 HFI
    obtain ⟨a6, c6, rfl⟩ := lpown_shape HR6.out.own
    obtain ⟨l0, l1⟩ := frN2 HR6.out.r.bx
    have hx2 : ∀ u ∈ [Value.int .i64 x.1, .int .i64 x.2], u.oneCell' = true := by intro u hu; simp at hu; rcases hu with rfl | rfl <;> rfl
    go_wp2_with (at_builtin; refine wpList_append_own _ rfl _ _ 29 rfl lo 35 i0 (.agg #[.int .i64 0, .int .i64 0]) 2 16 Tryz.underlying29 hi0 hi1 hi2 hi3 rfl (by decide) _ _ _ rfl (World.ownsRow.alloc HR6.out.own _) ⟨W6.heap.size, 0, none⟩ 1 1 [.int .i64 x.1, .int .i64 x.2] rfl rfl (ncells2 _ _ _ _) ?d2 ?d3 ?d4 ?d5 ?_)
    case d2 => exact hx2
    case d3 => unfold maxLen; omega
    case d4 => omega
    case d5 => have := HR6.out.ls; first | omega | (simp; omega)
    intro va WA hown hgrow _
    obtain ⟨ga, ca, rfl, hga, hblk⟩ := row_own hown
    obtain ⟨f1, f2⟩ := HR6.out.done (nbel_alloc _ _) hgrow
    have HRA := Lib.hid (hR.out.keep f1 f2)
    have HBL := Lib.hid hblk
    have HNE : Hid (∀ s, s < r → g s ≠ ga) := fun s hs => by
      have q1 := (hR.out.rows s hs).lt
      have q2 := HR6.out.lt.2.2
      omega
    have HGA : Hid (w0.heap.size ≤ ga) := by
      show _ ≤ _
      have q1 := hR.out.fr.size
      have q2 := HR6.out.lt.2.2
      omega
    have hrow1 : ∀ u ∈ [Value.slice (some ⟨ga, 0, none⟩) (Nt.mm n + 1) ca], u.oneCell' = true := by intro u hu; simp at hu; subst hu; rfl
    have HZ2 := Lib.hid (hZ.out.push HRT.out HW4.out HK4.out)
    clear hown hgrow hblk f1 f2 hga hR hZ HW4 HK4 HR6 l0 l1 hx2
    go_wp2_with (at_builtin; refine wpList_append_own _ rfl _ _ 62 rfl w0.heap.size 29 j0 (.slice none 0 0) 1 24 Tryz.underlying62 hj0 hj1 hj2 hj3 rfl (by decide) _ _ _ rfl (World.ownsRow.alloc HRA.out.own _) ⟨WA.heap.size, 0, none⟩ 1 1 [.slice (some ⟨ga, 0, none⟩) (Nt.mm n + 1) ca] rfl rfl (ncells1 _ _ _) ?d2 ?d3 ?d4 ?d5 ?_)
    case d2 => exact hrow1
    case d3 => unfold maxLen; omega
    case d4 => omega
    case d5 => have := HRA.out.fr.size; first | omega | (simp; omega)
    intro vb WB hown hgrow _
    have HRB := Lib.hid ((HRA.out.below (nbel_alloc _ _)).push (HBL.out.below (nbel_alloc _ _)) HGA.out HNE.out hown hgrow)
    clear hown hgrow HRA HBL HNE HGA hrow1
    go_wp2_with fail
    go_roundw
    case rel => exact ⟨r + 1, _, _, _, _, by go_num, by omega, HZ2, HRB⟩
    case measure => simp [intOf]; omega
end Go.Proofs.YtkaokfmaecdkiaaGreatDoor
namespace Go.Proofs.YtkaokfmaecdkiaaGreatDoor
open Go Go.RowKit Go.Deep

section
variable {n : Nt.Net} {la : Option Addr} {lk : Nat} {fa : Option Addr} {fk : Nat} {wa : Option Addr} {wk : Nat} {w W : World}
theorem N1.start {V : World} (hr : V.rowIs w.heap.size 27 4 (rowN (ntL n la lk fa fk wa wk))) (ho : V.rowIs (w.heap.size + 1) 31 3 (rowN (noL none 0 0 0 0))) (hb : Below w.heap.size w V) (hW : W = ((V.alloc (.cells #[.int .i64 0] 59)).alloc (.cells #[] 2)).alloc (.cells (madeCells #[.int .i64 0] (Nt.nn n)) 3)) : N1 n la lk fa fk wa wk V.heap.size (V.heap.size + 2) 0 (.slice (some ⟨V.heap.size + 1, 0, none⟩) 0 0) w W := by
  obtain ⟨A, hA⟩ : ∃ A, A = V.alloc (.cells #[.int .i64 0] 59) := ⟨_, rfl⟩
  obtain ⟨B, hB⟩ : ∃ B, B = A.alloc (.cells #[] 2) := ⟨_, rfl⟩
  have sA : A.heap.size = V.heap.size + 1 := by rw [hA]; simp
  have sB : B.heap.size = V.heap.size + 2 := by rw [hB]; simp [sA]
  rw [← hA, ← hB] at hW
  have b1 : Below V.heap.size V A := by rw [hA]; exact nbel_alloc _ _
  have b2 : Below A.heap.size A B := by rw [hB]; exact nbel_alloc _ _
  have b3 : Below B.heap.size B W := by rw [hW]; exact nbel_alloc _ _
  have hl := ho.lt
  refine ⟨nrow_below (nrow_below (nrow_below hr b1) b2) b3, nrow_below (nrow_below (nrow_below ho b1) b2) b3, ((hb.trans (b1.mono hb.size)).trans (b2.mono (by have := hb.size; omega))).trans (b3.mono (by have := hb.size; omega)), ?_, ?_, ?_, by omega⟩
  · have := rowN_alloc V [.int .i64 0] 59
    rw [← hA] at this
    exact nrow_below (nrow_below this b2) b3
  · refine ⟨fun _ => .int .i64 0, ?_, fun j hj => absurd hj (Nat.not_lt_zero _)⟩
    have := made_is 3 #[.int .i64 0] B (Nt.nn n) (by intro i hi; simp at hi; subst hi; rfl) (by simp)
    rw [sB, ← hW] at this
    exact this
  · have := World.ownsRow_made (e := 2) (size := 1) (base := V.heap.size + 1) A #[] 0 (by omega) (Nat.zero_le _) rfl
    rw [sA, ← hB] at this
    exact lpown_below this b3
theorem N1.list {gc gn : Nat} {v : Value} (h : N1 n la lk fa fk wa wk gc gn (Nt.nn n) v w W) : ∃ a c, v = .slice a (Nt.mm n) c ∧ St2 n la lk fa fk wa wk gc gn a w W := by
  have hn := h.num
  have hod := h.nod
  obtain ⟨a, c, e⟩ := lpown_shape hod
  subst e
  refine ⟨a, c, rfl, ⟨h.row, h.old, h.nu.full (Nat.le_refl _), ?_, by omega, by omega, fun b e => ?_⟩⟩
  · by_cases hm : Nt.mm n = 0
    · exact Or.inl hm
    · rcases hod.2 with h2 | ⟨g, cap, cur, e1, e2, _⟩
      · exact absurd h2.2 hm
      · injection e1 with e1 _ e3
        subst e1
        refine Or.inr ⟨g, rfl, fun j hj => ?_⟩
        have q := World.ownsRow.cells hod (show Value.ownBlock (.slice (some ⟨g, 0, none⟩) (Nt.freeTo n (Nt.nn n)).length c) = some g from rfl) j (.int .i64 (Nt.nd n j : Int)) (by
          have hj2 : j < (Nt.freeTo n (Nt.nn n)).length := hj
          unfold frl Nt.nd Nt.free
          simp [hj2])
        rw [Addr.add_lit, Nat.zero_add] at q
        exact q
  · subst e
    have := (World.ownsRow.lt hod b rfl).1
    omega
theorem Rw.start {gc m : Nat} (hr : W.rowIs gc 59 1 (rowN [.int .i64 0])) {W' : World} (hW : W' = W.alloc (.cells #[] 29)) : Rw gc m 0 (fun _ => 0) (fun _ => 0) (fun _ _ => (0, 1)) 0 (.slice (some ⟨W.heap.size, 0, none⟩) 0 0) W W' := by
  have b : Below W.heap.size W W' := by rw [hW]; exact nbel_alloc _ _
  refine ⟨?_, fun s hs => absurd hs (Nat.not_lt_zero _), fun s t hs => absurd hs (Nat.not_lt_zero _), fun s hs => absurd hs (Nat.not_lt_zero _), nrow_below hr b, Fr2.of_below b (Nat.le_refl _), hr.lt⟩
  rw [hW]
  exact World.ownsRow_made W #[] 0 (Nat.le_refl _) (Nat.zero_le _) rfl
theorem Hx.start {hi gc gr : Nat} {g c : Nat → Nat} {m : Nat} {M : El.Mx} {z : Int} {w0 W' : World} (h : Es hi gc gr g c m M z w0 W) (hW : W' = W.alloc (.cells (madeCells #[.int .i64 0, .int .i64 0] (m * 2)) 35)) : ∃ gr2, (0 < m → gr2 = gr) ∧ Es hi gc gr2 g c m M z w0 W' ∧ Hx hi gr2 g m W.heap.size (fun _ => (0, 0)) W' := by
  have b : Below W.heap.size W W' := by rw [hW]; exact nbel_alloc _ _
  have hz := h.hz2
  have hbk : IsBlk 35 W.heap.size (m * 2) (Nt.cells2 (fun _ => (0, 0))) W' := by
    rw [hW]
    refine ⟨_, _, Nat.le_refl _, made_is _ _ W _ (by intro i hi; simp at hi; have : i = 0 ∨ i = 1 := (by omega); rcases this with rfl | rfl <;> rfl) (by simp), fun j _ => ?_⟩
    show _ = Value.int .i64 (Nt.cells2 (fun _ => (0, 0)) j)
    unfold Nt.cells2
    split <;> rfl
  by_cases hm : 0 < m
  · refine ⟨gr, fun _ => rfl, h.below b, ⟨hbk, h.hz2, ?_, fun r hr => ?_⟩⟩
    · have q : gr < W.heap.size := World.block_lt_of_cell? _ _ (h.mt.list 0 hm)
      omega
    · have := (h.mt.rows r hr).lt
      omega
  · have q := h.below b
    exact ⟨W.heap.size + 1, fun e => absurd e hm, ⟨⟨fun r hr => absurd hr (by omega), fun r hr => absurd hr (by omega), fun r s hr => absurd hr (by omega), fun r hr => absurd hr (by omega), fun r hr => absurd hr (by omega), by omega⟩, q.rc, q.fr, q.gl, q.hz⟩, ⟨hbk, h.hz2, by omega, fun r hr => absurd hr (by omega)⟩⟩
theorem N1.past {gc gn k : Nat} {v : Value} {w0 : World} (hN : N1 n la lk fa fk wa wk gc gn k v w w0) (hf : Fr2 gc w0.heap.size w0 W) : W.rowIs (w.heap.size + 1) 31 3 (rowN (noL none 0 0 0 0)) ∧ Below w.heap.size w W := by
  have hn := hN.num
  have o := hN.old
  exact ⟨hN.res.of_block (hf.block _ hN.res.lt (by omega)), ⟨hf.os.trans o.os, hf.tape.trans o.tape, hf.output.trans o.output, Nat.le_trans o.size hf.size, fun k hk => (hf.block k (Nat.lt_of_lt_of_le hk o.size) (by omega)).trans (o.block k hk)⟩⟩
/-- What the answer's loop starts from. -/
theorem Ou.start {gc gn gr gh : Nat} {g c : Nat → Nat} {m : Nat} {M : El.Mx} {h : Nat → Int × Int} {v : Value} {f : Nat → Int × Int} {w0 W' : World} (hN : N1 n la lk fa fk wa wk gc gn (Nt.nn n) v w w0) (hE : Es w0.heap.size gc gr g c m M 0 w0 W) (hH : IsBlk 35 gh (m * 2) (Nt.cells2 h) W) (hW : W' = W.alloc (.cells #[.slice none 0 0, .int .i64 0, .int .i64 0] 31)) : Ou n la lk fa fk wa wk gc W.heap.size 0 f (.slice none 0 0) gn (Nt.nn n) gh m (noF n) h w W' := by
  have hn := hN.num
  have hf := hE.fr
  have b : Below W.heap.size W W' := by rw [hW]; exact nbel_alloc _ _
  have hnu : IsBlk 3 gn (Nt.nn n) (noF n) w0 := hN.nu.full (Nat.le_refl _)
  have l1 := hnu.lt
  have l2 := hN.rc.lt
  have hsz := hf.size
  have hnu2 : IsBlk 3 gn (Nt.nn n) (noF n) W := hnu.block (hf.block _ l1 (by omega))
  refine ⟨⟨nrow_below (hN.row.of_block (hf.block _ hN.row.lt (by omega))) b, nrow_below (hN.res.of_block (hf.block _ hN.res.lt (by omega))) b, ?_, nrow_below hE.rc b, ?_, World.ownsRow_nil _ _ _ _, by omega⟩, hnu2.below b, hH.below b, by omega, hH.lt⟩
  · have o := hN.old
    exact (Below.trans (⟨hf.os.trans o.os, hf.tape.trans o.tape, hf.output.trans o.output, Nat.le_trans o.size hf.size, fun k hk => (hf.block k (Nat.lt_of_lt_of_le hk o.size) (by omega)).trans (o.block k hk)⟩ : Below w.heap.size w W) (b.mono (Nat.le_trans o.size hf.size)))
  · rw [hW]
    exact rowN_alloc W _ _
theorem Nt.Fin_.heads {h : Nat → Int × Int} (hF : Nt.Fin_ n 0 h) : Nt.SvGood n ∧ ∀ k, k < Nt.nn n → (Nt.fixed n k = true ∧ noF n k = -1 ∧ Nt.kh n n.fn k = Nt.svH n k) ∨ ∃ r : Nat, r < Nt.mm n ∧ noF n k = (r : Int) ∧ h r = Nt.svH n k := by
  rcases hF with ⟨_, hg, hh⟩ | ⟨e, _⟩
  · refine ⟨hg, fun k hk => ?_⟩
    cases hf : Nt.fixed n k with
    | true =>
      refine Or.inl ⟨rfl, by unfold noF; rw [if_pos hf], ?_⟩
      exact (Nt.hv_fixed hf (Nt.mm n) (Nat.le_refl _)).symm
    | false =>
      obtain ⟨q1, q2⟩ := nd_no hk hf
      refine Or.inr ⟨_, q1, by unfold noF; rw [hf]; rfl, ?_⟩
      rw [hh _ q1, q2]
  · omega
end
end Go.Proofs.YtkaokfmaecdkiaaGreatDoor
