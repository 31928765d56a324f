/-
  The contract of the law's own draw of some right frames.
-/
import Derived.Test.YtgkgpdionhfkmaaDoorFrDrawB
import Derived.Test.YtgkgpdionhfkmaaDoorFrSpec
namespace Go.Proofs.YtgkgpdionhfkmaaDoor
open Go.RowKit Go.Deep

/-- A frame's fields. -/
structure FrD where
  u : Int
  k : Int
  q : Int
  b : ByteArray
def FrD.cells (f : FrD) : List Value := [.int .i64 f.u, .int .i64 f.k, .int .i64 f.q, .string f.b]
def FrD.right (f : FrD) : Prop := Fr.rightB f.u f.k f.q f.b.size = true
theorem info_frame : (Tryd.prog.info? 27).map (fun i => (i.zero, i.size, i.bytes)) = some (some (.agg #[.int .i64 0, .int .i64 0, .int .i64 0, .string ⟨#[]⟩]), 4, 40) := by kernel_rfl

/-- A value, not nil, that owns a list of frames among blocks from B on. -/
def OwnF (B : Nat) (v : Value) (fs : List FrD) (W : World) : Prop := W.ownsRow B 27 4 v fs.length (fs.flatMap FrD.cells) ∧ v ≠ .slice none 0 0

theorem OwnF.below {B : Nat} {v : Value} {zs : List FrD} {W W' : World} (h : OwnF B v zs W) (hb : Below W.heap.size W W') : OwnF B v zs W' := by
  obtain ⟨⟨h1, h2⟩, hn⟩ := h
  refine ⟨⟨h1, ?_⟩, hn⟩
  rcases h2 with h2 | ⟨g, cap, cur, e1, e2, e3, e4⟩
  · exact Or.inl h2
  · refine Or.inr ⟨g, cap, cur, e1, e2, ?_, e4⟩
    have hlt : g < W.heap.size := by
      rcases Nat.lt_or_ge g W.heap.size with h | h
      · exact h
      · rw [Array.getElem?_eq_none h] at e3; cases e3
    rw [hb.block g hlt]; exact e3

/-- Bytes that lie in memory, as a list. -/
theorem bytes_list {ad : Addr} {len : Nat} {W : World} (h : Bytes (some ad) len W) : ∃ zs : List UInt8, zs.length = len ∧ ∀ j u, (zs.map bcell)[j]? = some u → W.cell? (ad.add j) = some u := by
  have hx : ∀ i, ∃ c : UInt8, i < len → W.cell? (ad.add i) = some (bcell c) := fun i => by
    by_cases hi : i < len
    · obtain ⟨cb, co, z, e, hc, z0, z1⟩ := h i hi
      obtain rfl := Option.some.inj e
      refine ⟨UInt8.ofNat z.toNat, fun _ => ?_⟩
      unfold bcell
      rw [byte_of z z0 (by omega)]
      have ea : ((⟨cb, co, none⟩ : Addr).add i) = ⟨cb, co + i, none⟩ := by
        by_cases h0 : i = 0
        · subst h0; simp [Addr.add]
        · simp [Addr.add, h0]
      rw [ea]; exact hc
    · exact ⟨0, fun h => absurd h hi⟩
  refine ⟨(List.range len).map (fun i => (hx i).choose), by simp, fun j u hj => ?_⟩
  rw [List.getElem?_map, List.getElem?_map] at hj
  by_cases hl : j < len
  · rw [List.getElem?_range hl] at hj
    simp only [Option.map_some, Option.some.injEq] at hj
    rw [← hj]
    exact (hx j).choose_spec hl
  · rw [List.getElem?_eq_none (by simpa using hl)] at hj
    cases hj
theorem one_bcells (zs : List UInt8) (u : Value) (h : u ∈ zs.map bcell) : u.oneCell' = true := by
  obtain ⟨x, _, rfl⟩ := List.mem_map.1 h
  rfl
theorem ownB_start (w : World) : OwnB w.heap.size (.slice (some ⟨w.heap.size, 0, none⟩) 0 0) [] (w.alloc (.cells #[] 5)) :=
  ⟨⟨by simp, Or.inr ⟨w.heap.size, 0, #[], rfl, Nat.le_refl _, by show (w.heap.push _)[w.heap.size]? = _; simp, by simp, by simp, by simp, by simp⟩⟩, by simp⟩
theorem belowB {B : Nat} {v : Value} {zs : List UInt8} {w W W' : World} (hB : B = w.heap.size) (h : OwnB B v zs W) (hb : Below B w W) (hg : W.grownBy W' v.ownBlock) : Below B w W' := by
  subst hB
  refine hb.trans ⟨hg.os, hg.tape, hg.output, hg.size, fun k hk => hg.block k (by have := hb.size; omega) (fun e => by have := (h.1.lt k e.symm).1; omega)⟩
theorem app_none (g c : Nat) (w : World) : (Builtin.append_ #[22, 22] 22 #[.slice (some ⟨g, 0, none⟩) 0 0, .slice none 0 c]).run Tryd.prog w = .ok (.slice (some ⟨g, 0, none⟩) 0 0) w := by kernel_rfl
theorem wpList_append_none {w : World} {ops : Array Oper} {rest : List Oper} {o : Oper} {a : Act} {Q : Exit → Act → World → Prop} (hgd : o.guard = none) (s x : Operand)
    (ho : o.op = .call { callee := .builtin .append, args := #[s, x], argTypes := #[22, 22] }) (hty : o.type = 22) (g c : Nat) (hs : a.eval s = .slice (some ⟨g, 0, none⟩) 0 0) (hx : a.eval x = .slice none 0 c)
    (h : wpList Tryd.prog ops Q rest (a.put o.dst (.slice (some ⟨g, 0, none⟩) 0 0)) w) : wpList Tryd.prog ops Q (o :: rest) a w := by
  refine wpList_plain hgd fun K hK => ?_
  unfold Oper.wp execOp
  simp only [ho, hty, resolve, invoke, builtin, Sem.run_bind, Sem.run_pure, Result.andThen_ok, List.map_toArray, List.map_cons, List.map_nil, hs, hx, app_none]
  exact hK _ _ h
theorem belowF {B : Nat} {v : Value} {zs : List FrD} {w W W' : World} (hB : B = w.heap.size) (h : OwnF B v zs W) (hb : Below B w W) (hg : W.grownBy W' v.ownBlock) : Below B w W' := by
  subst hB
  refine hb.trans ⟨hg.os, hg.tape, hg.output, hg.size, fun k hk => hg.block k (by have := hb.size; omega) (fun e => by have := (h.1.lt k e.symm).1; omega)⟩
theorem OwnB.below {B : Nat} {v : Value} {zs : List UInt8} {W W' : World} (h : OwnB B v zs W) (hb : Below W.heap.size W W') : OwnB B v zs W' := by
  obtain ⟨⟨h1, h2⟩, hn⟩ := h
  refine ⟨⟨h1, ?_⟩, hn⟩
  rcases h2 with h2 | ⟨g, cap, cur, e1, e2, e3, e4⟩
  · exact Or.inl h2
  · refine Or.inr ⟨g, cap, cur, e1, e2, ?_, e4⟩
    have hlt : g < W.heap.size := by
      rcases Nat.lt_or_ge g W.heap.size with h | h
      · exact h
      · rw [Array.getElem?_eq_none h] at e3; cases e3
    rw [hb.block g hlt]; exact e3
theorem OwnB.bytes {B : Nat} {v : Value} {zs : List UInt8} {W : World} (h : OwnB B v zs W) : ∃ g cap, v = .slice (some ⟨g, 0, none⟩) zs.length cap ∧ Bytes (some ⟨g, 0, none⟩) zs.length W := by
  obtain ⟨g, cap, e, _, hc⟩ := h.form
  refine ⟨g, cap, e, fun i hi => ⟨g, 0, (((zs[i]'hi).toNat : Nat) : Int), rfl, ?_, by omega, ?_⟩⟩
  · have := hc i hi
    have ea : ((⟨g, 0, none⟩ : Addr).add i) = ⟨g, 0 + i, none⟩ := by
      by_cases h0 : i = 0
      · subst h0; simp [Addr.add]
      · simp [Addr.add, h0]
    rw [ea] at this; exact this
  · have := (zs[i]'hi).toNat_lt; omega

set_option maxRecDepth 100000 in
set_option maxHeartbeats 4000000 in
theorem lwFrames_any (a : Option Addr) (len cap : Nat) (w : World) (h : Bytes a len w) (hl : len ≤ 1048576) :
    Calls Tryd.prog 7 #[.slice a len cap] w fun e w' => ∃ v, e = .returned v ∧ ∃ fs : List FrD, fs.length ≤ 4 ∧ (∀ f ∈ fs, f.right) ∧ OwnF w.heap.size v fs w' ∧ Below w.heap.size w w' := by
  have H := Lib.hid h
  clear h
  obtain ⟨i0, hi, hz0, hz1, hz2⟩ := info_parts info_u8
  obtain ⟨i1, hi1, hy0, hy1, hy2⟩ := info_parts info_frame
  go_enter Tryd.func7, Tryd.ntmps7
  go_wp2_with fail
  go_loopw [3, 4, 5] (fun ov kv _ wr => ∃ (k : Nat) (fs : List FrD), k ≤ 4 ∧ kv = .int .i64 k ∧ Hid (fs.length ≤ k ∧ (∀ f ∈ fs, f.right) ∧ OwnF w.heap.size ov fs wr ∧ Below w.heap.size w wr)) (fun _ kv _ _ => 4 - (intOf kv).toNat)
  case atStart =>
    refine ⟨0, [], Nat.zero_le _, rfl, by simp, by simp, ?_, (Below.refl _ _).alloc (Nat.le_refl _) _⟩
    exact ⟨⟨by simp, Or.inr ⟨w.heap.size, 0, #[], rfl, Nat.le_refl _, by show (w.heap.push _)[w.heap.size]? = _; simp, by simp, by simp, by simp, by simp⟩⟩, by simp⟩
  case round =>
    obtain ⟨k, fs, hk, rfl, hF⟩ := hrel
    by_cases hk4 : k < 4
    · have hkz : (k : Int) < 4 := by omega
      cases a with
      | none =>
        obtain rfl : len = 0 := by
          rcases Nat.eq_zero_or_pos len with e | e
          · exact e
          · obtain ⟨_, _, _, e2, _⟩ := H.out 0 e
            cases e2
        have O1 : Hid (OwnB wr.heap.size (.slice (some ⟨wr.heap.size, 0, none⟩) 0 0) [] (wr.alloc (.cells #[] 5)) ∧ Below wr.heap.size wr (wr.alloc (.cells #[] 5))) := ⟨ownB_start wr, (Below.refl _ _).alloc (Nat.le_refl _) _⟩
        go_wp2_with (at_builtin; refine wpList_append_none rfl _ _ rfl rfl wr.heap.size cap rfl rfl ?_; refine Hid.out ?_)
        refine Lib.hid ?_
        obtain ⟨W1, hW1⟩ : ∃ W1 : World, W1 = wr.alloc (.cells #[] 5) := ⟨_, rfl⟩
        rw [← hW1] at O1 ⊢
        clear hW1
        obtain ⟨zs, hzs0⟩ : ∃ zs : List UInt8, zs = [] := ⟨_, rfl⟩
        rw [← hzs0] at O1
        have hzs : zs.length ≤ 1048576 := by rw [hzs0]; simp
        clear hzs0
        go_wp2_with (at_builtin; refine wpList_append_own _ rfl _ _ 22 rfl wr.heap.size 5 i0 (.int .u8 0) 1 1 Tryd.underlying22 hi hz0 hz1 hz2 rfl (by decide) _ _ _ rfl (O1.out.1.1.alloc _) ⟨W1.heap.size, 0, none⟩ 1 1 [.int .u8 k] rfl rfl ?d1 ?d2 ?d3 ?d4 ?d5 ?_)
        case d1 =>
          intro j u hj
          match j, hj with
          | 0, hj => simp at hj; subst hj; simp [Addr.add]
        case d2 => intro u hu; simp at hu; subst hu; rfl
        case d3 => unfold maxLen; simp <;> omega
        case d4 => simp <;> omega
        case d5 => have := O1.out.2.size; simp; omega
        intro v2 W2 hown hgrow hnil
        have hkb : ((zs ++ [UInt8.ofNat k]).map bcell) = zs.map bcell ++ [.int .u8 (k : Int)] := by
          have e : (((UInt8.ofNat k).toNat : Nat) : Int) = k := by rw [UInt8.toNat_ofNat']; omega
          rw [List.map_append]
          show _ ++ [Value.int .u8 (((UInt8.ofNat k).toNat : Nat) : Int)] = _
          rw [e]
        have O2 : Hid (OwnB wr.heap.size v2 (zs ++ [UInt8.ofNat k]) W2 ∧ Below wr.heap.size wr W2) :=
          ⟨⟨by rw [hkb, List.length_append]; exact hown, by simpa using hnil⟩, belowB rfl (O1.out.1.below ((Below.refl _ _).alloc (Nat.le_refl _) _)) (O1.out.2.alloc O1.out.2.size _) hgrow⟩
        clear hown hgrow hnil O1 hkb
        obtain ⟨g, cp, rfl, hBy⟩ := O2.out.1.bytes
        have HBy := Lib.hid hBy
        have HB2 : Hid (Below wr.heap.size wr W2) := O2.out.2
        clear hBy O2
        generalize hL : (zs ++ [UInt8.ofNat k]).length = L at *
        have hL2 : L ≤ 4194304 := by rw [← hL]; simp; omega
        clear hL
        go_wp2_with fail
        refine (drawFrame_any _ L cp _ HBy.out hL2).mono ?_
        rintro e W3 ⟨⟨u, kk, q, b, rfl, hin⟩, hb⟩
        have HB3 : Hid (Below wr.heap.size wr W3) := HB2.out.trans (hb.mono HB2.out.size)
        clear hb HB2 HBy hin
        go_wp2_with fail
        refine (specFrRight_any u kk q b _).mono ?_
        rintro e W4 ⟨rfl, hb⟩
        obtain ⟨q0, q1, q2, q3, hz, hB⟩ := four_later (hb.mono (by simp))
        have HB4 : Hid (Below wr.heap.size wr W4) := HB3.out.trans (hB.out.mono HB3.out.size)
        clear hb hB HB3
        have hFB : Hid (OwnF w.heap.size u3 fs W4 ∧ Below w.heap.size w W4) := ⟨hF.out.2.2.1.below HB4.out, hF.out.2.2.2.trans (HB4.out.mono hF.out.2.2.2.size)⟩
        cases hr : Fr.rightB u kk q b.size
        · go_wp2_with fail
          go_roundw
          case rel => exact ⟨k + 1, fs, by omega, by go_num, by have := hF.out.1; omega, hF.out.2.1, hFB.out.1, hFB.out.2⟩
          case measure => simp [intOf]; omega
        · have HR := Lib.hid hr
          clear hr
          have hlf := hF.out.1
          go_wp2_with (at_builtin; refine wpList_append_own _ rfl _ _ 23 rfl w.heap.size 27 i1 _ 4 40 Tryd.underlying23 hi1 hy0 hy1 hy2 rfl (by decide) _ _ _ rfl (hFB.out.1.1.alloc _) ⟨W4.heap.size, 0, none⟩ 1 1 [.int .i64 u, .int .i64 kk, .int .i64 q, .string b] rfl rfl ?d1 ?d2 ?d3 ?d4 ?d5 ?_)
          case d1 =>
            intro j x hj
            match j, hj with
            | 0, hj => simp at hj; subst hj; simp [Addr.add]
            | 1, hj => simp at hj; subst hj; simp [Addr.add]
            | 2, hj => simp at hj; subst hj; simp [Addr.add]
            | 3, hj => simp at hj; subst hj; simp [Addr.add]
          case d2 =>
            intro x hx
            simp at hx
            rcases hx with rfl | rfl | rfl | rfl <;> rfl
          case d3 => unfold maxLen; omega
          case d4 => omega
          case d5 => have := hFB.out.2.size; simp; omega
          intro v5 W5 hown hgrow hnil
          have O5 : Hid (OwnF w.heap.size v5 (fs ++ [⟨u, kk, q, b⟩]) W5 ∧ Below w.heap.size w W5) :=
            ⟨⟨by rw [List.flatMap_append, List.length_append]; exact hown, by simpa using hnil⟩, belowF rfl (hFB.out.1.below ((Below.refl _ _).alloc (Nat.le_refl _) _)) (hFB.out.2.alloc hFB.out.2.size _) hgrow⟩
          clear hown hgrow hnil
          have HQ : Hid (∀ f ∈ fs ++ [(⟨u, kk, q, b⟩ : FrD)], f.right) := fun f hf => by
            rcases List.mem_append.1 hf with hf | hf
            · exact hF.out.2.1 f hf
            · obtain rfl := List.mem_singleton.1 hf
              exact HR.out
          clear hFB HR
          go_wp2_with fail
          go_roundw
          case rel => exact ⟨k + 1, fs ++ [⟨u, kk, q, b⟩], by omega, by go_num, by simp; omega, HQ.out, O5.out.1, O5.out.2⟩
          case measure => simp [intOf]; omega
      | some ad =>
        obtain ⟨zs, rfl, hzc⟩ := bytes_list (H.out.below hF.out.2.2.2)
        have HN : Hid (∀ j u, (zs.map bcell)[j]? = some u → (wr.alloc (.cells #[] 5)).cell? (ad.add j) = some u) := fun j u hj => by
          have h1 := hzc j u hj
          have hlt := World.block_lt_of_cell? _ _ h1
          rw [World.cell?_alloc_lt _ _ _ hlt]; exact h1
        have hm1 : ([] : List UInt8).length + zs.length ≤ maxLen := by unfold maxLen; simp; omega
        have hm2 : (([] : List UInt8).length + zs.length) * 1 ≤ 140737488355328 := by simp; omega
        have hm3 : wr.heap.size ≤ (wr.alloc (.cells #[] 5)).heap.size := by simp
        clear hzc
        go_wp2_with (at_builtin; refine wpList_append_own _ rfl _ _ 22 rfl wr.heap.size 5 i0 (.int .u8 0) 1 1 Tryd.underlying22 hi hz0 hz1 hz2 rfl (by decide) _ _ _ rfl ((ownB_start wr).1) ad zs.length cap (zs.map bcell) rfl (by simp) HN.out (one_bcells zs) hm1 hm2 hm3 ?_)
        intro v1 W1 hown hgrow hnil
        have O1 : Hid (OwnB wr.heap.size v1 zs W1 ∧ Below wr.heap.size wr W1) := ⟨⟨by simpa using hown, by simpa using hnil⟩, belowB rfl (ownB_start wr) ((Below.refl _ _).alloc (Nat.le_refl _) _) hgrow⟩
        clear hown hgrow hnil HN hm1 hm2 hm3
        have hzs : zs.length ≤ 1048576 := by omega
        go_wp2_with (at_builtin; refine wpList_append_own _ rfl _ _ 22 rfl wr.heap.size 5 i0 (.int .u8 0) 1 1 Tryd.underlying22 hi hz0 hz1 hz2 rfl (by decide) _ _ _ rfl (O1.out.1.1.alloc _) ⟨W1.heap.size, 0, none⟩ 1 1 [.int .u8 k] rfl rfl ?d1 ?d2 ?d3 ?d4 ?d5 ?_)
        case d1 =>
          intro j u hj
          match j, hj with
          | 0, hj => simp at hj; subst hj; simp [Addr.add]
        case d2 => intro u hu; simp at hu; subst hu; rfl
        case d3 => unfold maxLen; simp <;> omega
        case d4 => simp <;> omega
        case d5 => have := O1.out.2.size; simp; omega
        intro v2 W2 hown hgrow hnil
        have hkb : ((zs ++ [UInt8.ofNat k]).map bcell) = zs.map bcell ++ [.int .u8 (k : Int)] := by
          have e : (((UInt8.ofNat k).toNat : Nat) : Int) = k := by rw [UInt8.toNat_ofNat']; omega
          rw [List.map_append]
          show _ ++ [Value.int .u8 (((UInt8.ofNat k).toNat : Nat) : Int)] = _
          rw [e]
        have O2 : Hid (OwnB wr.heap.size v2 (zs ++ [UInt8.ofNat k]) W2 ∧ Below wr.heap.size wr W2) :=
          ⟨⟨by rw [hkb, List.length_append]; exact hown, by simpa using hnil⟩, belowB rfl (O1.out.1.below ((Below.refl _ _).alloc (Nat.le_refl _) _)) (O1.out.2.alloc O1.out.2.size _) hgrow⟩
        clear hown hgrow hnil O1 hkb
        obtain ⟨g, cp, rfl, hBy⟩ := O2.out.1.bytes
        have HBy := Lib.hid hBy
        have HB2 : Hid (Below wr.heap.size wr W2) := O2.out.2
        clear hBy O2
        generalize hL : (zs ++ [UInt8.ofNat k]).length = L at *
        have hL2 : L ≤ 4194304 := by rw [← hL]; simp; omega
        clear hL
        go_wp2_with fail
        refine (drawFrame_any _ L cp _ HBy.out hL2).mono ?_
        rintro e W3 ⟨⟨u, kk, q, b, rfl, hin⟩, hb⟩
        have HB3 : Hid (Below wr.heap.size wr W3) := HB2.out.trans (hb.mono HB2.out.size)
        clear hb HB2 HBy hin
        go_wp2_with fail
        refine (specFrRight_any u kk q b _).mono ?_
        rintro e W4 ⟨rfl, hb⟩
        obtain ⟨q0, q1, q2, q3, hz, hB⟩ := four_later (hb.mono (by simp))
        have HB4 : Hid (Below wr.heap.size wr W4) := HB3.out.trans (hB.out.mono HB3.out.size)
        clear hb hB HB3
        have hFB : Hid (OwnF w.heap.size u3 fs W4 ∧ Below w.heap.size w W4) := ⟨hF.out.2.2.1.below HB4.out, hF.out.2.2.2.trans (HB4.out.mono hF.out.2.2.2.size)⟩
        cases hr : Fr.rightB u kk q b.size
        · go_wp2_with fail
          go_roundw
          case rel => exact ⟨k + 1, fs, by omega, by go_num, by have := hF.out.1; omega, hF.out.2.1, hFB.out.1, hFB.out.2⟩
          case measure => simp [intOf]; omega
        · have HR := Lib.hid hr
          clear hr
          have hlf := hF.out.1
          go_wp2_with (at_builtin; refine wpList_append_own _ rfl _ _ 23 rfl w.heap.size 27 i1 _ 4 40 Tryd.underlying23 hi1 hy0 hy1 hy2 rfl (by decide) _ _ _ rfl (hFB.out.1.1.alloc _) ⟨W4.heap.size, 0, none⟩ 1 1 [.int .i64 u, .int .i64 kk, .int .i64 q, .string b] rfl rfl ?d1 ?d2 ?d3 ?d4 ?d5 ?_)
          case d1 =>
            intro j x hj
            match j, hj with
            | 0, hj => simp at hj; subst hj; simp [Addr.add]
            | 1, hj => simp at hj; subst hj; simp [Addr.add]
            | 2, hj => simp at hj; subst hj; simp [Addr.add]
            | 3, hj => simp at hj; subst hj; simp [Addr.add]
          case d2 =>
            intro x hx
            simp at hx
            rcases hx with rfl | rfl | rfl | rfl <;> rfl
          case d3 => unfold maxLen; omega
          case d4 => omega
          case d5 => have := hFB.out.2.size; simp; omega
          intro v5 W5 hown hgrow hnil
          have O5 : Hid (OwnF w.heap.size v5 (fs ++ [⟨u, kk, q, b⟩]) W5 ∧ Below w.heap.size w W5) :=
            ⟨⟨by rw [List.flatMap_append, List.length_append]; exact hown, by simpa using hnil⟩, belowF rfl (hFB.out.1.below ((Below.refl _ _).alloc (Nat.le_refl _) _)) (hFB.out.2.alloc hFB.out.2.size _) hgrow⟩
          clear hown hgrow hnil
          have HQ : Hid (∀ f ∈ fs ++ [(⟨u, kk, q, b⟩ : FrD)], f.right) := fun f hf => by
            rcases List.mem_append.1 hf with hf | hf
            · exact hF.out.2.1 f hf
            · obtain rfl := List.mem_singleton.1 hf
              exact HR.out
          clear hFB HR
          go_wp2_with fail
          go_roundw
          case rel => exact ⟨k + 1, fs ++ [⟨u, kk, q, b⟩], by omega, by go_num, by simp; omega, HQ.out, O5.out.1, O5.out.2⟩
          case measure => simp [intOf]; omega
    · obtain rfl : k = 4 := by omega
      go_wp2_with fail
      go_ret
      exact ⟨_, rfl, fs, hF.out⟩
end Go.Proofs.YtgkgpdionhfkmaaDoor
