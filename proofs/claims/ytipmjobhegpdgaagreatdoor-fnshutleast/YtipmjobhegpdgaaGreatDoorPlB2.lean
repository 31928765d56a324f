/-
  The program's search for ways.
-/
import Derived.Test.YtipmjobhegpdgaaGreatDoorPlB1
namespace Go.Proofs.YtipmjobhegpdgaaGreatDoor
open Go Go.RowKit Go.Deep

/-- Room from one place to another, in a map of bundles. -/
def RoomR (cnt : Nat) (kf : Nat → Int × Int) (gl : Nat → Nat) (hb : Nat → Bool) (fl : Nat → Int) (a b : Nat) : Prop := ∃ j, j < cnt ∧ kf j = (Pl.lo a b, Pl.hi a b) ∧ (hb j = true ∨ dirF a b (fl j) < gl j)
/-- Keys between two unlike places. -/
def KeysOk (cnt : Nat) (kf : Nat → Int × Int) (pl : Nat) : Prop := ∀ j, j < cnt → 0 ≤ (kf j).1 ∧ (kf j).1 < (kf j).2 ∧ (kf j).2 < pl
/-- How many cells of a block are nowhere. -/
noncomputable def cntU (g pl : Nat) (W : World) : Nat := cntN (fun j => match W.cell? ⟨g, j, none⟩ with | some (.int .i64 z) => z | _ => 0) pl
theorem cntU_eq {g pl : Nat} {nx : Nat → Int} {W : World} (h : IsBlk 2 g pl nx W) : cntU g pl W = cntN nx pl := cntN_congr (fun j hj => by rw [h.cell hj])
/-- What stands in the search. -/
structure WyM (b cnt : Nat) (kf : Nat → Int × Int) (gl : Nat → Nat) (hb : Nat → Bool) (fl : Nat → Int) (g pl : Nat) (nx : Nat → Int) (kg : Nat) (ky : Nat → Int) (qv : Value) (q : List Int) (w W : World) : Prop where
  map : RoomS b cnt kf gl hb fl W
  nxt : IsBlk 2 g pl nx W
  keys : IsAt (some ⟨kg, 0, none⟩) (cnt * 2) ky W
  que : QueN qv q w.heap.size W
  ne : g ≠ kg ∧ ∀ k, qv.ownBlock = some k → k ≠ g ∧ (0 < cnt → k ≠ kg)
  lo : w.heap.size ≤ g ∧ w.heap.size ≤ kg
  old : Below w.heap.size w W
theorem acr_lo_hi {x l h : Int} (hlh : l < h) (hl : 0 ≤ l) (hn : Pl.acr l h x ≠ -1) : (l, h) = (Pl.lo (Pl.acr l h x) x, Pl.hi (Pl.acr l h x) x) ∧ (x = l ∨ x = h) ∧ (Pl.acr l h x = l ∨ Pl.acr l h x = h) := by
  unfold Pl.acr at hn ⊢
  by_cases h1 : x = l
  · subst h1
    rw [if_pos rfl] at hn ⊢
    refine ⟨?_, Or.inl rfl, Or.inr rfl⟩
    unfold Pl.lo Pl.hi
    rw [if_neg (by omega), if_neg (by omega)]
  · rw [if_neg h1] at hn ⊢
    by_cases h2 : x = h
    · subst h2
      rw [if_pos rfl] at hn ⊢
      refine ⟨?_, Or.inr rfl, Or.inl rfl⟩
      unfold Pl.lo Pl.hi
      rw [if_pos (by omega), if_pos (by omega)]
    · rw [if_neg h2] at hn; exact absurd rfl hn
theorem acr_of_key {a b : Int} (h : a ≠ b) : Pl.acr (Pl.lo a b) (Pl.hi a b) b = a := by
  unfold Pl.acr Pl.lo Pl.hi
  by_cases h1 : a ≤ b
  · rw [if_pos h1, if_pos h1, if_neg (Ne.symm h), if_pos rfl]
  · rw [if_neg h1, if_neg h1, if_pos rfl]
theorem cntN_le (nx : Nat → Int) (n : Nat) : cntN nx n ≤ n := by
  induction n with
  | zero => exact Nat.le_refl _
  | succ n ih => simp only [cntN]; split <;> omega
theorem QueN.shape {v : Value} {l : List Int} {B : Nat} {W : World} (h : QueN v l B W) : ∃ ad c, v = .slice ad l.length c := by
  rcases h with ⟨h1, h2⟩ | ⟨g, o, c, cur, h1, _⟩
  · exact ⟨none, 0, by rw [h1, h2]; rfl⟩
  · exact ⟨_, _, h1⟩
theorem wpList_append_run {P : Program} {w : World} {ops : Array Oper} {rest : List Oper} {o : Oper} {a : Act} {Q : Exit → Act → World → Prop} (hgd : o.guard = none) (s x : Operand) (t : TypeId)
    (ho : o.op = .call { callee := .builtin .append, args := #[s, x], argTypes := #[t, t] }) (v x' : Value) (hs : a.eval s = v) (hx : a.eval x = x') (v' : Value) (w' : World)
    (hr : (Builtin.append_ #[t, t] o.type #[v, x']).run P w = .ok v' w') (h : wpList P ops Q rest (a.put o.dst v') w') : wpList P ops Q (o :: rest) a w := by
  refine wpList_plain hgd fun K hK => ?_
  unfold Oper.wp execOp
  simp only [ho, resolve, invoke, builtin, Sem.run_bind, Sem.run_pure, Result.andThen_ok, List.map_toArray, List.map_cons, List.map_nil, hs, hx, hr]
  exact hK _ _ h
/-- The first of a queue is cut off. -/
theorem Que.cut {v : Value} {x : Int} {l : List Int} {B : Nat} {W : World} (h : Que v (x :: l) B W) (hl : l.length ≤ 1000000) : ∃ v2, (∀ W', (Instr.slice 23 v (some (.int .i64 1)) none none).run Tryz.prog W' = .ok v2 W') ∧ Que v2 l B W ∧ v2.ownBlock = v.ownBlock ∧ ∃ g o c a2 c2, v = .slice (some ⟨g, o, none⟩) (l.length + 1) c ∧ v2 = .slice a2 l.length c2 ∧ W.cell? ⟨g, o, none⟩ = some (.int .i64 x) := by
  obtain ⟨g, o, c, rfl, hc, hlc, hq⟩ := h.first
  refine ⟨_, fun W' => ?_, hq, ?_, g, o, c, _, _, rfl, rfl, hc⟩
  · have ha : (⟨g, o, none⟩ : Addr).add 1 = ⟨g, o + 1, none⟩ := rfl
    simp [Instr.slice, run_underlying Tryz.underlying23, Instr.sliceBounds, Instr.sliceBound, asIntOf, ha]
    intro hx
    omega
  · by_cases e : c = 1 <;> simp [e, Value.ownBlock]
theorem Only.of_grown {W W' : World} {k : Nat} (h : W.grownBy W' (some k)) : Only k W W' := ⟨h.os, h.tape, h.output, h.size, fun q hq hne => h.block q hq (fun e => hne (Option.some.inj e))⟩
set_option maxRecDepth 100000 in
set_option maxHeartbeats 4000000 in
theorem waysTo_any (b cnt : Nat) (kf : Nat → Int × Int) (gl : Nat → Nat) (hb : Nat → Bool) (fl : Nat → Int) (a : Option Addr) (m cap : Nat) (f : Nat → Int) (pl : Nat) (w : World) (h : RoomS b cnt kf gl hb fl w) (hc : cnt ≤ 1000) (hko : KeysOk cnt kf pl) (hfl : ∀ j, j < cnt → -1000000 ≤ fl j ∧ fl j ≤ 1000000) (hgl : ∀ j, j < cnt → gl j ≤ 1000000)
    (hg : IsAt a m f w) (hm : m ≤ 1000) (ha : a = none → m = 0) (hf : ∀ i, i < m → 0 ≤ f i ∧ f i < pl) (hp1 : 1 ≤ pl) (hp : pl ≤ 40) :
    Calls Tryz.prog 51 #[.map (some b), .slice a m cap, .int .i64 (pl : Nat)] w fun e w' => (∃ g nx, e = .returned (.slice (some ⟨g, 0, none⟩) pl pl) ∧ w.heap.size ≤ g ∧ IsBlk 2 g pl nx w' ∧ Found pl (fun v => Pl.Has m f (v : Int)) (RoomR cnt kf gl hb fl) nx) ∧ Below w.heap.size w w' := by
  have H := Lib.hid h
  have HKO := Lib.hid hko
  have HFL := Lib.hid hfl
  have HGL := Lib.hid hgl
  have HG := Lib.hid hg
  have HF := Lib.hid hf
  have HA := Lib.hid ha
  have HB0 : Hid (Below w.heap.size w (w.alloc (.cells #[.int .i64 (-1)] 2))) := nbel_alloc _ _
  have HC0 : Hid ((w.alloc (.cells #[.int .i64 (-1)] 2)).cell? ⟨w.heap.size, 0, none⟩ = some (.int .i64 (-1))) := (rowN_alloc w [.int .i64 (-1)] 2).cell (i := 0) (by simp)
  clear h hko hfl hgl hg hf ha
  go_enter Tryz.func51, Tryz.ntmps51
  go_wp2_with fail
  refine (repeat_any pl hp hp1 w.heap.size _ HC0.out).mono ?_
  rintro e w1 ⟨⟨g, rfl, hg0, F, hF, hFv⟩, hb1⟩
  have HB1 : Hid (Below w.heap.size w w1) := HB0.out.trans (hb1.mono HB0.out.size)
  have HN1 : Hid (IsBlk 2 g pl (fun _ => -1) w1) := ⟨pl, F, Nat.le_refl _, hF, hFv⟩
  have HG0 : Hid (w.heap.size < g) := by
    have : (w.alloc (.cells #[.int .i64 (-1)] 2)).heap.size = w.heap.size + 1 := by simp
    show w.heap.size < g
    omega
  clear hF hFv hb1 hg0 HB0 HC0
  go_wp2_with fail
  go_loopw [9, 21] (fun _ iv wr => ∃ (i : Nat) (nx : Nat → Int), i ≤ m ∧ iv = .int .i64 i ∧ Hid (IsBlk 2 g pl nx wr) ∧ Hid (Below w.heap.size w wr) ∧ Hid (∀ v, v < pl → nx v = if dB (Pl.Has i f (v : Int)) = true then (v : Int) else -1)) (fun _ iv _ => m - (intOf iv).toNat)
  case atStart => exact ⟨0, _, Nat.zero_le _, rfl, HN1, HB1, fun v _ => by rw [dB_ff (fun ⟨i, hi, _⟩ => by omega)]; rfl⟩
  case round =>
    obtain ⟨i, nx, hi, rfl, hN, hB, hV⟩ := hrel
    clear HN1 HB1
    by_cases hlt : i < m
    · have hltz : (i : Int) < (m : Int) := by omega
      obtain ⟨b2, eb, cf⟩ := (HG.out.below hB.out).at1 hlt
      subst eb
      obtain ⟨v, hv⟩ : ∃ v : Nat, f i = (v : Int) := ⟨(f i).toNat, by have := HF.out i hlt; omega⟩
      have hvp : v < pl := by have := HF.out i hlt; omega
      have hvz : (v : Int) < (pl : Int) := by omega
      rw [hv] at cf
      have cn := hN.out.cell hvp
      have zn := hN.out.frozen v
      have zg := hN.out.lt
      have HN2 := Lib.hid (hN.out.set v (v : Int))
      have HB2 : Hid (Below w.heap.size w (wr.setCell ⟨g, v, none⟩ (.int .i64 (v : Int)))) := hB.out.setCell (p := ⟨g, v, none⟩) (Nat.le_of_lt HG0.out) _
      have HV2 : Hid (∀ u, u < pl → updI nx v (v : Int) u = if dB (Pl.Has (i + 1) f (u : Int)) = true then (u : Int) else -1) := fun u hu => by
        unfold updI
        by_cases e : u = v
        · subst e
          rw [if_pos rfl, dB_tt ⟨i, by omega, hv⟩]; rfl
        · rw [if_neg e, hV.out u hu]
          have : dB (Pl.Has (i + 1) f (u : Int)) = dB (Pl.Has i f (u : Int)) := dB_congr ⟨fun ⟨j, hj, x⟩ => ⟨j, by
            by_cases ej : j = i
            · subst ej; rw [hv] at x; omega
            · omega, x⟩, fun ⟨j, hj, x⟩ => ⟨j, by omega, x⟩⟩
          rw [this]
      clear hN hB hV hv
      go_wp2_with fail
      go_roundw
      case rel => exact ⟨i + 1, _, by omega, by go_num, HN2, HB2, HV2⟩
      case measure => simp [intOf]; omega
    · obtain rfl : i = m := by omega
      go_wp2_with fail
      refine (sorted_any' b cnt kf gl hb fl _ (H.out.below hB.out) hc).mono ?_
      rintro e w2 ⟨⟨kg, kc, ky, rfl, hk0, hky, hk1, hk2⟩, hb2⟩
      have HB2 : Hid (Below w.heap.size w w2) := hB.out.trans (hb2.mono hB.out.size)
      have HN2 := Lib.hid (hN.out.below hb2)
      have HGK : Hid (g < kg) := by have := hN.out.lt; show g < kg; omega
      have HKY := Lib.hid hky
      have HK1 := Lib.hid hk1
      have HK2 := Lib.hid hk2
      have HM2 := Lib.hid ((H.out.below hB.out).below hb2)
      clear hb2 hky hk1 hk2 hk0 hN hB
      go_wp2_with fail
      refine (pclone_any a i cap f _ (HG.out.below HB2.out) hm HA.out).mono ?_
      rintro e w3 ⟨⟨qv, rfl, hq⟩, hb3⟩
      have HB3 : Hid (Below w.heap.size w w3) := HB2.out.trans (hb3.mono HB2.out.size)
      have HS3 : Hid (WyM b cnt kf gl hb fl g pl nx kg ky qv (listOf f i) w w3) := by
        refine ⟨HM2.out.below hb3, HN2.out.below hb3, HKY.out.below hb3, ?_, ⟨by have := HGK.out; omega, fun k hk => ?_⟩, ⟨by have := HG0.out; omega, by have := HG0.out; have := HGK.out; omega⟩, HB3.out⟩
        · rcases hq with h1 | h1
          · exact Or.inl h1
          · right
            obtain ⟨g', o, c, cur, e1, e2, r⟩ := h1
            exact ⟨g', o, c, cur, e1, by have := HB2.out.size; omega, r⟩
        · have h1 : w2.heap.size ≤ k := by
            rcases hq with ⟨h1, _⟩ | h1
            · rw [h1] at hk; simp [Value.ownBlock] at hk
            · exact (h1.lt k hk).1
          have h2 := HN2.out.lt
          refine ⟨by omega, fun hpos => ?_⟩
          obtain ⟨b', e, h4⟩ := HKY.out.pos (by omega)
          simp at e
          subst e
          have := World.block_lt_of_cell? _ _ (h4 0 (by omega))
          show k ≠ kg
          have h5 : kg < w2.heap.size := this
          omega
      have HBF0 : Hid (Bf pl (fun v => Pl.Has i f (v : Int)) (RoomR cnt kf gl hb fl) nx (listOf f i) (fun _ => 0) 0 (fun _ => False)) := by
        have hv : ∀ v, v < pl → nx v ≠ -1 → Pl.Has i f (v : Int) ∧ nx v = (v : Int) := fun v hv hn => by
          have h1 := hV.out v hv
          cases hd : dB (Pl.Has i f (v : Int)) with
          | true => rw [hd] at h1; exact ⟨dB_iff.1 hd, h1⟩
          | false => rw [hd] at h1; exact absurd h1 hn
        refine ⟨fun v hv => ?_, fun v hv hg => ?_, fun v hv2 hn => Or.inl (hv v hv2 hn), fun x hx => ?_, fun v hv2 hn => Or.inl ?_, fun _ _ _ => Nat.le_refl _⟩
        · rw [hV.out v hv]
          split
          · right; omega
          · left; rfl
        · rw [hV.out v hv, dB_tt hg]; rfl
        · obtain ⟨j, hj, rfl⟩ := List.mem_map.1 hx
          have hj2 := List.mem_range.1 hj
          have h1 := HF.out j hj2
          refine ⟨h1, ?_⟩
          have e2 : (((f j).toNat : Nat) : Int) = f j := by omega
          rw [hV.out _ (by omega), e2, dB_tt ⟨j, hj2, rfl⟩]
          simp only [if_true]
          omega
        · obtain ⟨⟨j, hj, e⟩, _⟩ := hv v hv2 hn
          exact List.mem_map.2 ⟨j, List.mem_range.2 hj, e⟩
      clear hq hb3 hV HM2 HB2 HN2 HKY HB3
      go_wp2_with fail
      go_loopw [11, 12, 14, 15] (fun qv _ _ _ wr => ∃ (ad : Option Addr) (c : Nat) (nx : Nat → Int) (q : List Int) (rk : Nat → Nat) (T : Nat), qv = .slice ad q.length c ∧ Hid (WyM b cnt kf gl hb fl g pl nx kg ky (.slice ad q.length c) q w wr) ∧ Hid (Bf pl (fun v => Pl.Has i f (v : Int)) (RoomR cnt kf gl hb fl) nx q rk T (fun _ => False)) ∧ 2 * cntN nx pl + q.length ≤ 1080) (fun qv _ _ _ wr => 2 * cntU g pl wr + lenV qv)
      case atStart =>
        obtain ⟨ad, c, e⟩ := QueN.shape HS3.out.que
        subst e
        refine ⟨ad, c, nx, _, _, _, rfl, HS3, HBF0, ?_⟩
        have h1 : cntN nx pl ≤ pl := cntN_le nx pl
        simp [listOf]
        omega
      case round =>
        obtain ⟨ad, c, nx, q, rk, T, rfl, hS, hBf, hM⟩ := hrel
        clear HS3 HBF0
        cases q with
        | nil =>
          have HFD := Lib.hid hBf.out.found
          go_wp2_with fail
          go_ret
          exact ⟨⟨g, nx, rfl, hS.out.lo.1, hS.out.nxt, HFD.out⟩, hS.out.old⟩
        | cons x q =>
          have hq : Que (.slice ad (x :: q).length c) (x :: q) w.heap.size wr := by
            rcases hS.out.que with ⟨_, h1⟩ | h1
            · cases h1
            · exact h1
          obtain ⟨v2, hcut, hq2, hown2, gq, o, c', a2, c2, hv, hv2, hx⟩ := hq.cut (by simp at hM; omega)
          simp at hv
          obtain ⟨rfl, rfl⟩ := hv
          subst hv2
          have hxr := (hBf.out.que x (by simp)).1
          obtain ⟨y, rfl⟩ : ∃ y : Nat, x = (y : Int) := ⟨x.toNat, by omega⟩
          have hyp : y < pl := by omega
          have HY : Hid (nx y ≠ -1) := by
            have h := (hBf.out.que (y : Int) (by simp)).2
            rw [show ((y : Int)).toNat = y by omega] at h
            exact h
          have HBF1 := Lib.hid hBf.out.take
          have HCU := Lib.hid (cntU_eq hS.out.nxt)
          have hlen1 : ((y : Int) :: q).length = q.length + 1 := rfl
          rw [hlen1] at hM
          have HS1 : Hid (WyM b cnt kf gl hb fl g pl nx kg ky (.slice a2 q.length c2) q w wr) := ⟨hS.out.map, hS.out.nxt, hS.out.keys, Or.inr hq2, ⟨hS.out.ne.1, fun k hk => hS.out.ne.2 k (by rw [← hown2]; exact hk)⟩, hS.out.lo, hS.out.old⟩
          have hcut1 := hcut wr
          have hposz : (0 : Int) < ((q.length + 1 : Nat) : Int) := by omega
          have HQ1 := Lib.hid hq2
          clear hq hq2 hown2 hcut hS hBf
          rw [hlen1] at hcut1 ⊢
          go_wp2_with fail
          clear hcut1 hx
          obtain ⟨M, hMM⟩ : ∃ M, M = 2 * cntN nx pl + q.length := ⟨_, rfl⟩
          have HMM := Lib.hid hMM
          have HMo : Hid (M + 1 ≤ 1080) := by show M + 1 ≤ 1080; omega
          clear hMM hM
          go_loopw [11, 14, 15, 44] (fun qv _ _ iv wr => ∃ (n : Nat) (ad : Option Addr) (c : Nat) (nx : Nat → Int) (q : List Int) (rk : Nat → Nat) (T : Nat), n ≤ cnt ∧ iv = .int .i64 n ∧ qv = .slice ad q.length c ∧ Hid (WyM b cnt kf gl hb fl g pl nx kg ky (.slice ad q.length c) q w wr) ∧ Hid (Que (.slice ad q.length c) q w.heap.size wr) ∧ Hid (Bf pl (fun v => Pl.Has i f (v : Int)) (RoomR cnt kf gl hb fl) nx q rk T (fun v => (v : Int) = (y : Int))) ∧ 2 * cntN nx pl + q.length ≤ M ∧ Hid (nx y ≠ -1) ∧ Hid (∀ n', n' < n → ∀ a, a < pl → a ≠ y → (ky (n' * 2), ky (n' * 2 + 1)) = (Pl.lo a y, Pl.hi a y) → RoomR cnt kf gl hb fl a y → nx a ≠ -1)) (fun _ _ _ iv _ => cnt - (intOf iv).toNat)
          case atStart => exact ⟨0, a2, c2, nx, q, rk, T, Nat.zero_le _, rfl, rfl, HS1, HQ1, HBF1, by rw [HMM.out]; exact Nat.le_refl _, HY, fun n' hn' => absurd hn' (by omega)⟩
          case round =>
            obtain ⟨n, ad, c, nx2, q2, rk2, T2, hn, rfl, rfl, hS, hQ, hBf, hMq, hY2, hDone⟩ := hrel
            clear HS1 HBF1 HY HQ1
            by_cases hlt2 : n < cnt
            · have hltz2 : (n : Int) < (cnt : Int) := by omega
              obtain ⟨kb, ekb, k0, k1⟩ := hS.out.keys.at2 hlt2
              simp at ekb
              subst ekb
              obtain ⟨j, hj, hkj⟩ := HK1.out n hlt2
              have hko := HKO.out j hj
              rw [hkj] at hko
              simp only at hko
              have zk : kg < wr.heap.size := World.block_lt_of_cell? _ _ k0
              obtain ⟨W1, hW1⟩ : ∃ W1, W1 = wr.alloc (.cells #[.int .i64 (ky (n * 2)), .int .i64 (ky (n * 2 + 1))] 112) := ⟨_, rfl⟩
              have hb1 : Below wr.heap.size wr W1 := by rw [hW1]; exact nbel_alloc _ _
              have HW1 := Lib.hid hW1
              go_wp2_with fail
              rw [← HW1.out]
              refine (pacross_any _ _ _ _).mono ?_
              rintro e w5 ⟨rfl, hb5⟩
              have hb15 : Below wr.heap.size wr w5 := hb1.trans (hb5.mono hb1.size)
              have low : ∀ W', Below wr.heap.size wr W' → WyM b cnt kf gl hb fl g pl nx2 kg ky (.slice ad q2.length c) q2 w W' ∧ Que (.slice ad q2.length c) q2 w.heap.size W' := fun W' hb' => ⟨⟨hS.out.map.below hb', hS.out.nxt.below hb', hS.out.keys.below hb', Or.inr (hQ.out.below hb'), hS.out.ne, hS.out.lo, hS.out.old.trans (hb'.mono hS.out.old.size)⟩, hQ.out.below hb'⟩
              have LOW := Lib.hid low
              have HB15 := Lib.hid hb15
              have next : (∀ a, a < pl → a ≠ y → (ky (n * 2), ky (n * 2 + 1)) = (Pl.lo a y, Pl.hi a y) → RoomR cnt kf gl hb fl a y → nx2 a ≠ -1) → ∀ n', n' < n + 1 → ∀ a, a < pl → a ≠ y → (ky (n' * 2), ky (n' * 2 + 1)) = (Pl.lo a y, Pl.hi a y) → RoomR cnt kf gl hb fl a y → nx2 a ≠ -1 := fun h1 n' hn' => by
                by_cases e : n' = n
                · subst e; exact h1
                · exact hDone.out n' (by omega)
              have NEXT := Lib.hid next
              have across : ∀ a : Nat, a ≠ y → (ky (n * 2), ky (n * 2 + 1)) = (Pl.lo a y, Pl.hi a y) → Pl.acr (ky (n * 2)) (ky (n * 2 + 1)) y = (a : Int) := fun a hay e => by
                simp only [Prod.mk.injEq] at e
                rw [e.1, e.2]
                exact acr_of_key (by omega)
              have ACR := Lib.hid across
              clear hb1 hb5 hb15 low next across hW1 HW1 k0 k1 zk
              by_cases cA : Pl.acr (ky (n * 2)) (ky (n * 2 + 1)) y = -1
              · have eA : (Pl.acr (ky (n * 2)) (ky (n * 2 + 1)) (y : Int) != -1) = false := by simp [cA]
                have HNX := Lib.hid (NEXT.out (fun a ha hay e _ => by have := ACR.out a hay e; omega))
                have HL := Lib.hid (LOW.out _ HB15.out)
                clear cA NEXT hDone hS hQ LOW ACR
                go_wp2_with fail
                go_roundw
                case rel => exact ⟨n + 1, ad, c, nx2, q2, rk2, T2, by omega, by go_num, rfl, HL.out.1, HL.out.2, hBf, hMq, hY2, HNX⟩
                case measure => simp [intOf]; omega
              obtain ⟨hkey, hyk, hak⟩ := acr_lo_hi (x := (y : Int)) hko.2.1 hko.1 cA
              obtain ⟨av, hav⟩ : ∃ av : Nat, Pl.acr (ky (n * 2)) (ky (n * 2 + 1)) y = (av : Int) := ⟨(Pl.acr (ky (n * 2)) (ky (n * 2 + 1)) y).toNat, by rcases hak with h | h <;> omega⟩
              have havp : av < pl := by rcases hak with h | h <;> omega
              have havz : (av : Int) < (pl : Int) := by omega
              rw [hav] at hkey
              have HKEY : Hid (kf j = (Pl.lo (av : Int) (y : Int), Pl.hi (av : Int) (y : Int))) := hkj.trans hkey
              have HAV := Lib.hid hav
              have eA : ((av : Int) != -1) = true := by simp <;> omega
              rw [hav]
              clear cA hak hyk hkey hav hkj hko
              obtain ⟨HL, HQL⟩ := LOW.out _ HB15.out
              have cn := HL.nxt.cell havp
              have zn := HL.nxt.frozen av
              have zg := HL.nxt.lt
              by_cases cB : nx2 av = -1
              case neg =>
                have eB : (nx2 av == -1) = false := by simp [cB]
                have HNX := Lib.hid (NEXT.out (fun a ha hay e _ => by
                  have h1 := ACR.out a hay e
                  have h2 := HAV.out
                  have e2 : a = av := by omega
                  rw [e2]
                  exact cB))
                have HL2 := Lib.hid (And.intro HL HQL)
                clear cB NEXT hDone hS hQ LOW ACR HL HQL
                go_wp2_with fail
                go_roundw
                case rel => exact ⟨n + 1, ad, c, nx2, q2, rk2, T2, by omega, by go_num, rfl, HL2.out.1, HL2.out.2, hBf, hMq, hY2, HNX⟩
                case measure => simp [intOf]; omega
              have eB : (nx2 av == -1) = true := by simp [cB]
              have HCB := Lib.hid cB
              have HRM := Lib.hid HL.map
              clear cB HL HQL
              rw [HCB.out] at cn eB
              go_wp2_with fail
              refine (hasRoom_any b cnt kf gl hb fl (av : Int) (y : Int) j _ HRM.out hj HKEY.out (HFL.out j hj).1 (HFL.out j hj).2 (HGL.out j hj)).mono ?_
              rintro e w6 ⟨rfl, hb6⟩
              have HB16 : Hid (Below wr.heap.size wr w6) := HB15.out.trans (hb6.mono HB15.out.size)
              clear hb6 HB15 cn zn zg HRM
              have hinj : ∀ j', j' < cnt → kf j' = kf j → j' = j := fun j' hj' e => by
                obtain ⟨ga, gc, hMp⟩ := hS.out.map
                exact hMp.inj j' j hj' hj e
              by_cases cC : hb j = true ∨ dirF (av : Int) (y : Int) (fl j) < gl j
              case neg =>
                rw [dB_ff cC]
                have HNX := Lib.hid (NEXT.out (fun a ha hay e hR => by
                  have h1 := ACR.out a hay e
                  have h2 := HAV.out
                  have e2 : a = av := by omega
                  subst e2
                  obtain ⟨j', hj', hk', hr'⟩ := hR
                  obtain rfl := hinj j' hj' (hk'.trans HKEY.out.symm)
                  exact absurd hr' cC))
                have HL2 := Lib.hid (LOW.out _ HB16.out)
                clear cC NEXT hDone hS hQ LOW ACR
                go_wp2_with fail
                go_roundw
                case rel => exact ⟨n + 1, ad, c, nx2, q2, rk2, T2, by omega, by go_num, rfl, HL2.out.1, HL2.out.2, hBf, hMq, hY2, HNX⟩
                case measure => simp [intOf]; omega
              rw [dB_tt cC]
              have HR0 : Hid (RoomR cnt kf gl hb fl av y) := ⟨j, hj, HKEY.out, cC⟩
              clear cC hinj
              obtain ⟨HL, HQL⟩ := LOW.out _ HB16.out
              have cn := HL.nxt.cell havp
              have zn := HL.nxt.frozen av
              have zg := HL.nxt.lt
              obtain ⟨W7, hW7⟩ : ∃ W7, W7 = w6.setCell ⟨g, av, none⟩ (.int .i64 (y : Int)) := ⟨_, rfl⟩
              have ho7 : ∀ k, k ≠ g → W7.heap[k]? = w6.heap[k]? := fun k hk => by rw [hW7]; exact blk_setCell_other _ _ _ _ hk
              have hs7 : W7.heap.size = w6.heap.size := by rw [hW7]; simp
              have hn7 : IsBlk 2 g pl (updI nx2 av (y : Int)) W7 := by rw [hW7]; exact HL.nxt.set av _
              have hq7 : Que (.slice ad q2.length c) q2 w.heap.size W7 := HQL.kept (fun k hk => ho7 k (HL.ne.2 k hk).1)
              obtain ⟨W8, hW8⟩ : ∃ W8, W8 = W7.alloc (.cells #[.int .i64 (av : Int)] 2) := ⟨_, rfl⟩
              have hb8 : Below W7.heap.size W7 W8 := by rw [hW8]; exact nbel_alloc _ _
              have hc8 : W8.cell? ⟨w6.heap.size, 0, none⟩ = some (.int .i64 (av : Int)) := by
                rw [hW8, ← hs7]; exact (rowN_alloc W7 [.int .i64 (av : Int)] 2).cell (i := 0) (by simp)
              have hBw : w.heap.size ≤ W8.heap.size := by have := HL.old.size; have := hb8.size; omega
              obtain ⟨v9, W9, hap, hq9, hg9, hat⟩ := (hq7.below hb8).push (av : Int) ⟨w6.heap.size, 0, none⟩ hc8 rfl (by have := HMo.out; omega) hBw
              obtain ⟨ad9, c9, e9⟩ := QueN.shape (Or.inr hq9)
              subst e9
              have hqb : ∀ k, (Value.slice ad q2.length c).ownBlock = some k → k ≠ g ∧ (0 < cnt → k ≠ kg) ∧ w.heap.size ≤ k := fun k hk => ⟨(HL.ne.2 k hk).1, (HL.ne.2 k hk).2, (hq7.lt k hk).1⟩
              have hkeep : ∀ k, k < W8.heap.size → (∀ k', (Value.slice ad q2.length c).ownBlock = some k' → k ≠ k') → W9.heap[k]? = W8.heap[k]? := fun k hk hne => hg9.block k hk (fun e => hne k e.symm rfl)
              have hbl8 : b < w6.heap.size := HL.map.lt
              have HBW : Hid (b < w.heap.size) := H.out.lt
              have hkg8 : 0 < cnt → kg < w6.heap.size := fun hpos => by
                obtain ⟨b', e, h4⟩ := HL.keys.pos (by omega)
                simp at e
                subst e
                exact World.block_lt_of_cell? _ _ (h4 0 (by omega))
              have HS9 : Hid (WyM b cnt kf gl hb fl g pl (updI nx2 av (y : Int)) kg ky (.slice ad9 (q2 ++ [(av : Int)]).length c9) (q2 ++ [(av : Int)]) w W9) := by
                have hlo := HL.lo
                have hbw := HBW.out
                refine ⟨?_, ?_, ?_, Or.inr hq9, ⟨HL.ne.1, fun k hk => ?_⟩, HL.lo, ?_⟩
                · refine HL.map.of_block ?_
                  rw [hkeep b (by have := hb8.size; omega) (fun k' hk' => by have := (hqb k' hk').2.2; omega), hb8.block b (by omega), ho7 b (by omega)]
                · refine hn7.block ?_
                  rw [hkeep g (by have := hb8.size; omega) (fun k' hk' => Ne.symm (hqb k' hk').1), hb8.block g (by omega)]
                · by_cases hpos : 0 < cnt
                  · refine HL.keys.same (fun b' e hb' => ?_)
                    simp at e
                    subst e
                    rw [hkeep kg (by have := hb8.size; have := hkg8 hpos; omega) (fun k' hk' => Ne.symm ((hqb k' hk').2.1 hpos)), hb8.block kg (by have := hkg8 hpos; omega), ho7 kg (Ne.symm HL.ne.1)]
                  · exact Or.inl (by omega)
                · rcases hat with h1 | h1
                  · rw [h1] at hk
                    exact ⟨(hqb k hk).1, (hqb k hk).2.1⟩
                  · rw [h1] at hk
                    have := Option.some.inj hk
                    have h8 : W8.heap.size = w6.heap.size + 1 := by rw [hW8]; simp [hs7]
                    exact ⟨by omega, fun hpos => by have := hkg8 hpos; omega⟩
                · refine ⟨?_, ?_, ?_, by have := hg9.size; omega, fun k hk => ?_⟩
                  · rw [hg9.os, hb8.os, hW7]; exact HL.old.os
                  · rw [hg9.tape, hb8.tape, hW7]; exact HL.old.tape
                  · rw [hg9.output, hb8.output, hW7]; exact HL.old.output
                  · rw [hkeep k (by have := hb8.size; have := HL.old.size; omega) (fun k' hk' => by have := (hqb k' hk').2.2; omega), hb8.block k (by have := HL.old.size; omega), ho7 k (by omega), HL.old.block k hk]
              have HQ9 := Lib.hid hq9
              have HBF9 := Lib.hid (hBf.out.put havp hyp HCB.out hY2.out HR0.out)
              have hyav : y ≠ av := fun e => hY2.out (by rw [e]; exact HCB.out)
              have HY9 : Hid (updI nx2 av (y : Int) y ≠ -1) := by
                show updI nx2 av (y : Int) y ≠ -1
                unfold updI; rw [if_neg hyav]; exact hY2.out
              have hM9 : 2 * cntN (updI nx2 av (y : Int)) pl + (q2 ++ [(av : Int)]).length ≤ M := by
                have := cntN_put (x := (y : Int)) havp HCB.out (by omega)
                simp
                omega
              have HD9 : Hid (∀ n', n' < n + 1 → ∀ a, a < pl → a ≠ y → (ky (n' * 2), ky (n' * 2 + 1)) = (Pl.lo a y, Pl.hi a y) → RoomR cnt kf gl hb fl a y → updI nx2 av (y : Int) a ≠ -1) := fun n' hn' a ha hay e hR => by
                unfold updI
                by_cases ea : a = av
                · rw [if_pos ea]; omega
                · rw [if_neg ea]
                  by_cases en : n' = n
                  · subst en
                    have h1 := ACR.out a hay e
                    have h2 := HAV.out
                    omega
                  · exact hDone.out n' (by omega) a ha hay e hR
              have hap2 : (Builtin.append_ #[23, 23] 23 #[.slice ad q2.length c, .slice (some ⟨w6.heap.size, 0, none⟩) 1 1]).run Tryz.prog ((w6.setCell ⟨g, av, none⟩ (.int .i64 (y : Int))).alloc (.cells #[.int .i64 (av : Int)] 2)) = .ok (.slice ad9 (q2 ++ [(av : Int)]).length c9) W9 := by rw [← hW7, ← hW8]; exact hap
              clear hap hq9 hg9 hat hqb hkeep hbl8 hkg8 hBw hc8 hb8 hW8 hq7 hn7 hs7 ho7 hW7 HL HQL NEXT hDone hS hQ LOW ACR hyav
              go_wp2_with (at_builtin; refine wpList_append_run rfl _ _ 23 rfl _ _ rfl rfl _ _ hap2 ?_)
              clear hap2
              go_wp2_with fail
              go_roundw
              case rel => exact ⟨n + 1, ad9, c9, _, _, _, _, by omega, by go_num, by simp, HS9, HQ9, HBF9, hM9, HY9, HD9⟩
              case measure => simp [intOf]; omega
            · obtain rfl : n = cnt := by omega
              have HOV : Hid (Bf pl (fun v => Pl.Has i f (v : Int)) (RoomR n kf gl hb fl) nx2 q2 rk2 T2 (fun _ => False)) := hBf.out.over (fun v hv hex a ha hR => by
                have ev : v = y := by omega
                subst ev
                obtain ⟨j, hj, hkj, hrm⟩ := hR
                obtain ⟨n', hn', e⟩ := HK2.out j hj
                have hko := HKO.out j hj
                have hay : a ≠ v := fun e2 => by
                  subst e2
                  rw [hkj] at hko
                  unfold Pl.lo Pl.hi at hko
                  simp at hko
                exact hDone.out n' hn' a ha hay (by rw [← e]; exact hkj) ⟨j, hj, hkj, hrm⟩)
              have HCU2 := Lib.hid (cntU_eq hS.out.nxt)
              go_wp2_with fail
              go_roundw
              case rel => exact ⟨ad, c, nx2, q2, rk2, T2, rfl, hS, HOV, by have := HMo.out; omega⟩
              case measure =>
                have h1 := HCU.out
                have h2 := HCU2.out
                have h3 := HMM.out
                simp [lenV]
                rw [h1, h2]
                omega
end Go.Proofs.YtipmjobhegpdgaaGreatDoor
