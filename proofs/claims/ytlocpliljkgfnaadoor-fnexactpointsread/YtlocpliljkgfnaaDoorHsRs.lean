/-
  The model's PointsRead.
-/
import Derived.Test.YtlocpliljkgfnaaDoorHsRj
namespace Go.Proofs.YtlocpliljkgfnaaDoor
open Go.RowKit Go.Deep

def iV (l : List Nat) : List Value := l.map fun x : Nat => Value.int .i64 (x : Int)
theorem iV_app (l : List Nat) (x : Nat) : iV (l ++ [x]) = iV l ++ [.int .i64 (x : Nat)] := by simp [iV]
theorem hinfo_i64 : (Tryd.prog.info? 2).map (fun i => (i.zero, i.size, i.bytes)) = some (some (.int .i64 0), 1, 8) := by kernel_rfl
theorem num_cyo {B : Nat} {v : Value} {l : List Nat} {W : World} (h : W.ownsRow B 2 1 v l.length (iV l)) : ∃ a k, v = .slice a l.length k ∧ CyO 2 B l.length a k (fun j => ((l.getD j 0 : Nat) : Int)) W := by
  rcases h.2 with ⟨rfl, h2⟩ | ⟨g, cap, cur, rfl, e2, e3, e4, e5, e6, e7⟩
  · exact ⟨none, 0, by rw [h2], Or.inl ⟨rfl, h2, rfl⟩⟩
  · refine ⟨some ⟨g, 0, none⟩, cap, rfl, Or.inr ⟨g, rfl, e2, cap * 1, (fun i => cur[i]?.getD undef), by omega, ⟨cur, e3, e6, fun i hi => ?_⟩, fun j hj => ?_⟩⟩
    · show cur[i]? = some (cur[i]?.getD undef)
      rw [Array.getElem?_eq_getElem (by omega)]
      rfl
    · have h1 : (cur.toList.take (l.length * 1))[j]? = (iV l)[j]? := by rw [e7]
      rw [List.getElem?_take, if_pos (by omega), Array.getElem?_toList] at h1
      show cur[j]?.getD undef = _
      rw [h1]
      simp [iV, List.getD_eq_getElem?_getD, hj]
theorem hown_ne {T S : TypeId} {B n x m size : Nat} {v : Value} {xs : List Value} {F : Nat → Value} {W : World} (h : W.ownsRow B T size v n xs) (hr : W.rowIs x S m F) (hT : T ≠ S) : v.ownBlock ≠ some x := by
  intro e
  rcases h.2 with ⟨rfl, _⟩ | ⟨g, cap, cur, rfl, e2, e3, e4⟩
  · cases e
  · have e4 : g = x := by simpa [Value.ownBlock] using e
    obtain ⟨_, q1, _⟩ := hr
    have e3' : W.heap[g]? = _ := e3
    rw [e4, q1] at e3'
    cases e3'
    exact hT rfl
namespace Hs
/-- 128 to a small power. -/
def Pw (k : Nat) (u : Nat) : Prop := (k = 0 ∧ u = 1) ∨ (k = 1 ∧ u = 128) ∨ (k = 2 ∧ u = 16384) ∨ (k = 3 ∧ u = 2097152) ∨ (k = 4 ∧ u = 268435456) ∨ (k = 5 ∧ u = 34359738368) ∨ (k = 6 ∧ u = 4398046511104)
theorem Pw.next {k u : Nat} (h : Pw k u) (hk : k ≤ 5) : Pw (k + 1) (u * 128) := by unfold Pw at h ⊢; omega
theorem Pw.bd {k u : Nat} (h : Pw k u) : 1 ≤ u ∧ u ≤ 4398046511104 ∧ k ≤ 6 ∧ (k ≤ 5 ↔ u ≤ 1099511627776) ∧ (k ≤ 5 → u ≤ 34359738368) := by unfold Pw at h; omega
end Hs
/-- What stands while numbers are told apart. -/
structure RsS (w : World) (v : Value) (L : List Nat) (W : World) : Prop where
  row : W.rowIs w.heap.size 24 2 (rowN [.slice none 0 0, .int .i64 0])
  own : W.ownsRow w.heap.size 2 1 v L.length (iV L)
  bel : Below w.heap.size w W
theorem RsS.below {w : World} {v : Value} {L : List Nat} {W W' : World} (h : RsS w v L W) (hb : Below W.heap.size W W') : RsS w v L W' :=
  ⟨nrow_below h.row hb, hown_keep h.own (fun k _ hk => hb.block k hk), h.bel.trans (hb.mono h.bel.size)⟩
theorem RsS.push {w : World} {v v' : Value} {L L' : List Nat} {W W' : World} (h : RsS w v L W) (hown : W'.ownsRow w.heap.size 2 1 v' L'.length (iV L')) (hg : W.grownBy W' v.ownBlock) : RsS w v' L' W' :=
  ⟨h.row.of_block (hg.block _ h.row.lt (fun e => hown_ne h.own h.row (by decide) e.symm)), hown, h.bel.grown hg h.bel.size (fun k e => (World.ownsRow.lt h.own k e).1)⟩
/-- What stands while points are put together. -/
structure RtS (w : World) (a : Option Addr) (k : Nat) (l : List Nat) (v : Value) (L : List Ln.Nt) (W : World) : Prop where
  row : W.rowIs w.heap.size 24 2 (rowN [.slice none 0 0, .int .i64 0])
  nm : CyO 2 w.heap.size l.length a k (fun j => ((l.getD j 0 : Nat) : Int)) W
  own : W.ownsRow w.heap.size 38 2 v L.length (nvs L)
  bel : Below w.heap.size w W
theorem RtS.below {w : World} {a : Option Addr} {k : Nat} {l : List Nat} {v : Value} {L : List Ln.Nt} {W W' : World} (h : RtS w a k l v L W) (hb : Below W.heap.size W W') : RtS w a k l v L W' :=
  ⟨nrow_below h.row hb, h.nm.below hb, hown_keep h.own (fun k _ hk => hb.block k hk), h.bel.trans (hb.mono h.bel.size)⟩
theorem RtS.push {w : World} {a : Option Addr} {k : Nat} {l : List Nat} {v v' : Value} {L : List Ln.Nt} {x y : Int} {W W' : World} (h : RtS w a k l v L W) (hown : W'.ownsRow w.heap.size 38 2 v' (L ++ [(x, y)]).length (nvs (L ++ [(x, y)]))) (hg : W.grownBy W' v.ownBlock) : RtS w a k l v' (L ++ [(x, y)]) W' := by
  refine ⟨h.row.of_block (hg.block _ h.row.lt (fun e => hown_ne h.own h.row (by decide) e.symm)), h.nm.keep (fun q e _ hq => hg.block q hq (fun e2 => ?_)), hown, h.bel.grown hg h.bel.size (fun k e => (World.ownsRow.lt h.own k e).1)⟩
  rcases h.nm with h1 | ⟨g, e1, _, m, F, _, hr, _⟩
  · rw [h1.1] at e; cases e
  · rw [e1] at e
    cases e
    exact hown_ne h.own hr (by decide) e2.symm
theorem RtS.cell {w : World} {g k : Nat} {l : List Nat} {v : Value} {L : List Ln.Nt} {W : World} (h : RtS w (some ⟨g, 0, none⟩) k l v L W) {j : Nat} (hj : j < l.length) : W.cell? ⟨g, j, none⟩ = some (.int .i64 ((l[j]'hj : Nat) : Int)) := by
  rcases h.nm with h1 | ⟨q, e1, _, hb⟩
  · cases h1.1
  · cases e1
    rw [hb.cell hj]
    simp [List.getD_eq_getElem?_getD, hj]
set_option maxRecDepth 100000 in
set_option maxHeartbeats 8000000 in
theorem specRead_any (s : ByteArray) (w : World) (hs : s.size ≤ 9223372036854775807) :
    Calls Tryd.prog 5 #[.string s] w fun e w' => PoE s.data.toList w.heap.size e w' ∧ Below w.heap.size w w' := by
  have hlen : s.data.toList.length = s.size := rfl
  obtain ⟨W, hW⟩ : ∃ W, W = w.alloc (.cells #[.slice none 0 0, .int .i64 0] 24) := ⟨_, rfl⟩
  have HB : Hid (Below w.heap.size w W) := by show Below _ _ _; rw [hW]; exact nbel_alloc _ _
  have HX : Hid (W.rowIs w.heap.size 24 2 (rowN [.slice none 0 0, .int .i64 0])) := by show W.rowIs _ _ _ _; rw [hW]; exact rowN_alloc w [.slice none 0 0, .int .i64 0] _
  -- how an answer with a code alone is handed back
  have FAIL : Hid (∀ (V : World) (cd : Int), Hs.Rd s.data.toList [] cd → V.rowIs w.heap.size 24 2 (rowN [.slice none 0 0, .int .i64 0]) → Below w.heap.size w V →
      (((V.setCell ⟨w.heap.size, 0, none⟩ (.slice none 0 0)).setCell ⟨w.heap.size, 1, none⟩ (.int .i64 cd)).rowIs w.heap.size 24 2 (rowN [.slice none 0 0, .int .i64 cd])) ∧ PoE s.data.toList w.heap.size (.returned (.agg #[.slice none 0 0, .int .i64 cd])) ((V.setCell ⟨w.heap.size, 0, none⟩ (.slice none 0 0)).setCell ⟨w.heap.size, 1, none⟩ (.int .i64 cd)) ∧ Below w.heap.size w ((V.setCell ⟨w.heap.size, 0, none⟩ (.slice none 0 0)).setCell ⟨w.heap.size, 1, none⟩ (.int .i64 cd))) := fun V cd hr hx hb =>
    ⟨rowN_put (rowN_put hx 0 (.slice none 0 0) (by simp)) 1 (.int .i64 cd) (by simp), ⟨[], cd, none, 0, hr, rfl, CyO.nil⟩, (hb.setCell (p := ⟨w.heap.size, 0, none⟩) (Nat.le_refl _) _).setCell (p := ⟨w.heap.size, 1, none⟩) (Nat.le_refl _) _⟩
  by_cases hbig : (20000 : Int) < (s.size : Int)
  · obtain ⟨q1, q2, q3⟩ := FAIL.out W 2 (Hs.rd_long (by omega)) HX.out HB.out
    obtain ⟨Z, hZ⟩ : ∃ Z, Z = (W.setCell ⟨w.heap.size, 0, none⟩ (.slice none 0 0)).setCell ⟨w.heap.size, 1, none⟩ (.int .i64 2) := ⟨_, rfl⟩
    rw [← hZ] at q1 q2 q3
    rw [hW] at hZ
    have HZ := Lib.hid hZ
    have Q2 := Lib.hid q2
    have Q3 := Lib.hid q3
    have Q1 := Lib.hid q1
    obtain ⟨⟨x0, x1⟩, f0, f1⟩ := rowN2 HX.out
    have hxl := HX.out.lt
    rw [hW] at x0 x1 f0 f1 hxl
    clear hZ hW q1 q2 q3
    go_enter Tryd.func5, Tryd.ntmps5
    go_wp2_with fail
    first
    | rw [← HZ.out]
      obtain ⟨⟨z0, z1⟩, _⟩ := rowN2 Q1.out
      exact bodyPost_ret (v := .agg #[.slice none 0 0, .int .i64 2]) (by simp only [results, Tryd.results5]; simp [go_sem, z0, z1]) rfl ⟨Q2.out, Q3.out⟩
    | exact bodyPost_ret (v := .agg #[.slice none 0 0, .int .i64 2]) (by simp only [results, Tryd.results5]; simp [go_sem]) rfl ⟨⟨[], 2, none, 0, Hs.rd_long (by omega), rfl, CyO.nil⟩, nbel_alloc _ _⟩
  obtain ⟨bs, hbs⟩ : ∃ bs, bs = s.data.toList := ⟨_, rfl⟩
  have HBS := Lib.hid hbs
  have HT : Hid (bs.length ≤ 20000) := by show _ ≤ _; rw [hbs]; omega
  have hbl : bs.length = s.size := by rw [hbs]; rfl
  have HBG : Hid (∀ k (h : k < s.size) (h' : k < bs.length), (s[k]'h).toNat = (bs[k]'h').toNat) := fun k h h' => by subst hbs; rfl
  rw [← hbs] at FAIL ⊢
  obtain ⟨i0, hi0, hz0, hz1, hz2⟩ := info_parts hinfo_i64
  obtain ⟨j0, hj0, hy0, hy1, hy2⟩ := info_parts hinfo_pt
  obtain ⟨W1, hW1⟩ : ∃ W1, W1 = W.alloc (.cells #[] 2) := ⟨_, rfl⟩
  have hWs : W.heap.size = w.heap.size + 1 := by rw [hW]; simp
  have HS0 : Hid (RsS w (.slice (some ⟨w.heap.size + 1, 0, none⟩) 0 0) [] W1) := by
    have o1 := World.ownsRow_made (e := 2) (size := 1) W #[] 0 (Nat.le_refl _) (Nat.zero_le _) rfl
    rw [← hW1, hWs] at o1
    refine ⟨by rw [hW1]; exact nrow_below HX.out (nbel_alloc _ _), ⟨o1.1, ?_⟩, by rw [hW1]; exact HB.out.alloc HB.out.size _⟩
    rcases o1.2 with h2 | ⟨g, cap, cur, e1, e2, e3⟩
    · exact Or.inl h2
    · exact Or.inr ⟨g, cap, cur, e1, by omega, e3⟩
  rw [hW] at hW1
  have HW := Lib.hid hW1
  clear hW hW1 hbs hlen HB HX hWs W
  go_enter Tryd.func5, Tryd.ntmps5
  go_wp2_with fail
  rw [← HW.out]
  clear HW
  go_loopw [3, 4, 5, 6, 7] (fun lv nv uv iv _ wr => ∃ (i a u k : Nat) (L : List Nat), i ≤ s.size ∧ L.length ≤ i ∧ nv = .int .i64 (a : Nat) ∧ uv = .int .i64 (u : Nat) ∧ iv = .int .i64 (i : Nat) ∧ Hid (Hs.Pw k u) ∧ a < u ∧ Hid (RsS w lv L wr) ∧ Hid (Hs.nums 0 1 bs = L ++ Hs.nums a u (bs.drop i)) ∧ Hid (Hs.Fit 0 bs ↔ Hs.Fit k (bs.drop i)) ∧ Hid (∀ x ∈ L, x < 4398046511104)) (fun _ _ _ iv _ _ => s.size - (intOf iv).toNat)
  case atStart => exact ⟨0, 0, 1, 0, [], Nat.zero_le _, Nat.le_refl _, rfl, rfl, rfl, Or.inl ⟨rfl, rfl⟩, by omega, HS0, rfl, Iff.rfl, fun x hx => by simp at hx⟩
  case round =>
    obtain ⟨i, a, u, k, L, hi, hLi, rfl, rfl, rfl, hP, ha, hS, hN, hF, hLs⟩ := hrel
    clear HS0
    have hpb := hP.out.bd
    by_cases hlt : i < s.size
    · have hltz : (i : Int) < (s.size : Int) := by omega
      obtain ⟨c, hce⟩ : ∃ c : Nat, c = (s[i]'hlt).toNat := ⟨_, rfl⟩
      have hcb : (bs[i]'(by omega)).toNat = c := by rw [hce, HBG.out i hlt (by omega)]
      have hc256 : c < 256 := by rw [hce]; exact (s[i]'hlt).toNat_lt
      have hce2 : (((s[i]'hlt).toNat : Nat) : Int) = (c : Int) := by rw [hce]
      by_cases hk6 : 1099511627776 < u
      · have hnf : ¬ Hs.Fit 0 bs := fun h => by
          have h2 := hF.out.1 h
          rw [Hs.fit_step (show i < bs.length by omega)] at h2
          omega
        obtain ⟨q1, q2, q3⟩ := FAIL.out wr 3 (Hs.rdS_unfit HT.out hnf) hS.out.row hS.out.bel
        obtain ⟨Z, hZ⟩ : ∃ Z, Z = (wr.setCell ⟨w.heap.size, 0, none⟩ (.slice none 0 0)).setCell ⟨w.heap.size, 1, none⟩ (.int .i64 3) := ⟨_, rfl⟩
        rw [← hZ] at q1 q2 q3
        have HZ := Lib.hid hZ
        have Q1 := Lib.hid q1
        have Q2 := Lib.hid q2
        have Q3 := Lib.hid q3
        obtain ⟨⟨x0, x1⟩, f0, f1⟩ := rowN2 hS.out.row
        have hxl := hS.out.row.lt
        have hcc : (c : Int) < 256 := by omega
        have hu6 : (1099511627776 : Int) < (u : Int) := by omega
        clear hZ q1 q2 q3 hce hcb hk6 hpb hnf
        go_wp2_with fail
        rw [← HZ.out]
        obtain ⟨⟨z0, z1⟩, _⟩ := rowN2 Q1.out
        exact bodyPost_ret (v := .agg #[.slice none 0 0, .int .i64 3]) (by simp only [results, Tryd.results5]; simp [go_sem, z0, z1]) rfl ⟨Q2.out, Q3.out⟩
      have hk5 : k ≤ 5 := hpb.2.2.2.1.2 (by omega)
      have hu6 : ¬ (1099511627776 : Int) < (u : Int) := by omega
      have hu35 := hpb.2.2.2.2 hk5
      have hm : (c : Int).tmod 128 = ((c % 128 : Nat) : Int) := by rw [Int.tmod_eq_emod_of_nonneg (by omega)]; omega
      have hNS := hN.out
      rw [Hs.nums_step (show i < bs.length by omega), hcb] at hNS
      have hFS := hF.out
      rw [Hs.fit_step (show i < bs.length by omega), hcb] at hFS
      obtain ⟨x, hx⟩ : ∃ x, x = c % 128 := ⟨_, rfl⟩
      rw [← hx] at hm hNS
      have hx127 : x ≤ 127 := by omega
      obtain ⟨p, hp⟩ : ∃ p, p = x * u := ⟨_, rfl⟩
      have hpu : p ≤ 127 * u := by rw [hp]; exact Nat.mul_le_mul_right _ hx127
      rw [← hp] at hNS
      have hmul : (x : Int) * (u : Int) = (p : Int) := by rw [hp]; push_cast; rfl
      have hw1 : IntKind.i64.wrap (p : Int) = (p : Int) := Hs.wrapid (by omega) (by omega)
      have hw2 : IntKind.i64.wrap ((a : Int) + (p : Int)) = (a : Int) + (p : Int) := Hs.wrapid (by omega) (by omega)
      have hw3 : IntKind.i64.wrap ((u : Int) * 128) = (u : Int) * 128 := Hs.wrapid (by omega) (by omega)
      obtain ⟨y, hy⟩ : ∃ y, y = a + p := ⟨_, rfl⟩
      have hya : (a : Int) + (p : Int) = (y : Int) := by omega
      obtain ⟨u2, hu2⟩ : ∃ y, y = u * 128 := ⟨_, rfl⟩
      have hua : (u : Int) * 128 = (u2 : Int) := by omega
      rw [← hy, ← hu2] at hNS
      have hyu : y < u2 := by omega
      have hy42 : y < 4398046511104 := by omega
      have hcc : (c : Int) < 256 := by omega
      rw [hya] at hw2
      rw [hua] at hw3
      by_cases hc : c < 128
      · have hcz : (c : Int) < 128 := by omega
        rw [if_pos hc] at hNS hFS
        have HN2 : Hid (Hs.nums 0 1 bs = (L ++ [y]) ++ Hs.nums 0 1 (bs.drop (i + 1))) := by show _ = _; rw [hNS]; simp
        have HF2 : Hid (Hs.Fit 0 bs ↔ Hs.Fit 0 (bs.drop (i + 1))) := by show _ ↔ _; rw [hFS]; exact ⟨fun h => h.2, fun h => ⟨hk5, h⟩⟩
        have HL2 : Hid (∀ z ∈ L ++ [y], z < 4398046511104) := fun z hz => by
          rcases List.mem_append.1 hz with h | h
          · exact hLs.out z h
          · simp at h; omega
        have HSA := Lib.hid (hS.out.below (nbel_alloc wr (.cells #[.int .i64 (y : Nat)] 2)))
        have hsz := hS.out.bel.size
        have HSZ := Lib.hid HSA.out.own
        clear hNS hFS hN hF hLs hS hp hy hu2 hx hcb hce
        go_wp2_with (at_builtin; refine wpList_append_own _ rfl _ _ 36 rfl w.heap.size 2 i0 (.int .i64 0) 1 8 Tryd.underlying36 hi0 hz0 hz1 hz2 rfl (by decide) _ _ _ rfl HSZ.out ⟨wr.heap.size, 0, none⟩ 1 1 [.int .i64 (y : Nat)] rfl rfl (fun j v hj => by match j, hj with | 0, hj => simp at hj; subst hj; exact (rowN_alloc wr [.int .i64 (y : Nat)] 2).cell (i := 0) (by simp)) (fun v hv => by simp at hv; subst hv; rfl) (by unfold maxLen; omega) (by omega) (by simp; omega) ?_)
        intro v' y3 hown hgrow hnil
        have HP : Hid (RsS w v' (L ++ [y]) y3) := HSA.out.push (by rw [iV_app, List.length_append]; exact hown) hgrow
        clear hown hgrow hnil HSA HSZ
        go_wp2_with fail
        go_roundw
        case rel => exact ⟨i + 1, 0, 1, 0, L ++ [y], by omega, by simp; omega, rfl, rfl, by go_num, Or.inl ⟨rfl, rfl⟩, by omega, HP, HN2, HF2, HL2⟩
        case measure => simp [intOf]; omega
      · have hcz : ¬ (c : Int) < 128 := by omega
        rw [if_neg hc] at hNS hFS
        have HN2 : Hid (Hs.nums 0 1 bs = L ++ Hs.nums y u2 (bs.drop (i + 1))) := hNS
        have HF2 : Hid (Hs.Fit 0 bs ↔ Hs.Fit (k + 1) (bs.drop (i + 1))) := by show _ ↔ _; rw [hFS]; exact ⟨fun h => h.2, fun h => ⟨hk5, h⟩⟩
        have HP2 : Hid (Hs.Pw (k + 1) u2) := by show Hs.Pw _ _; rw [hu2]; exact hP.out.next hk5
        clear hNS hFS hN hF hp hy hu2 hx hcb hce
        go_wp2_with fail
        go_roundw
        case rel => exact ⟨i + 1, y, u2, k + 1, L, by omega, by omega, rfl, rfl, by go_num, HP2, hyu, hS, HN2, HF2, hLs⟩
        case measure => simp [intOf]; omega
    · obtain rfl : i = s.size := by omega
      have HLE : Hid (Hs.nums 0 1 bs = L) := by show _ = _; rw [hN.out, List.drop_eq_nil_of_le (by omega)]; exact List.append_nil _
      obtain ⟨na, nk, rfl, hcy⟩ := num_cyo hS.out.own
      obtain ⟨V, hV⟩ : ∃ V, V = wr.alloc (.cells #[] 38) := ⟨_, rfl⟩
      have HT0 : Hid (RtS w na nk L (.slice (some ⟨wr.heap.size, 0, none⟩) 0 0) [] V) := by
        have o1 := World.ownsRow_made (e := 38) (size := 2) wr #[] 0 (Nat.le_refl _) (Nat.zero_le _) rfl
        rw [← hV] at o1
        refine ⟨by rw [hV]; exact nrow_below hS.out.row (nbel_alloc _ _), by rw [hV]; exact hcy.below (nbel_alloc _ _), ⟨o1.1, ?_⟩, by rw [hV]; exact hS.out.bel.alloc hS.out.bel.size _⟩
        rcases o1.2 with h2 | ⟨g, cap, cur, e1, e2, e3⟩
        · exact Or.inl h2
        · exact Or.inr ⟨g, cap, cur, e1, by have := hS.out.bel.size; omega, e3⟩
      have HV := Lib.hid hV
      have HLs := Lib.hid hLs.out
      obtain ⟨N, hNN⟩ : ∃ N, N = L.length := ⟨_, rfl⟩
      have HNN := Lib.hid hNN
      rw [← hNN]
      have hN2 : N ≤ 20000 := by have := HT.out; omega
      clear hS hN hF hLs hcy hV hP ha hpb hNN
      go_wp2_with fail
      rw [← HV.out]
      clear HV
      obtain ⟨M, hM⟩ : ∃ M : List Nat, M = L.take 602 := ⟨_, rfl⟩
      have HMM := Lib.hid hM
      have hMl : M.length = min 602 N := by rw [hM, List.length_take, HNN.out]
      have HMG : Hid (∀ j (h : j < M.length) (h' : j < L.length), M[j]'h = L[j]'h') := fun j h h' => by subst hM; exact List.getElem_take
      clear hM
      go_loopw [8, 9, 10, 11, 12] (fun lv av vv iv _ wr => ∃ (j : Nat) (P : List Ln.Nt) (x y : Int), 2 * j ≤ 602 ∧ 2 * j ≤ N + 1 ∧ P.length ≤ j ∧ iv = .int .i64 ((2 * j : Nat) : Int) ∧ av = .int .i64 x ∧ vv = .int .i64 y ∧ Hid (RtS w na nk L lv P wr) ∧ Hid (Hs.pts 0 0 M = P ++ Hs.pts x y (M.drop (2 * j)))) (fun _ _ _ iv _ _ => N + 1 - (intOf iv).toNat)
      case atStart => exact ⟨0, [], 0, 0, by omega, by omega, Nat.le_refl _, rfl, rfl, rfl, HT0, rfl⟩
      case round =>
        obtain ⟨j, P, x, y, hj6, hjN, hPj, rfl, rfl, rfl, hS, hPT⟩ := hrel
        clear HT0
        obtain ⟨z, hz⟩ : ∃ z : Int, z = ((2 * j : Nat) : Int) := ⟨_, rfl⟩
        have HZ := Lib.hid hz
        rw [← hz]
        have hzw : IntKind.i64.wrap (z + 1) = z + 1 := Hs.wrapid (by omega) (by omega)
        by_cases hgo : 2 * j + 1 < M.length
        · have hLl : 2 * j + 1 < L.length := by rw [← HNN.out]; omega
          have hz1 : z + 1 < (N : Int) := by omega
          have hz2 : z < 602 := by omega
          obtain ⟨g, rfl⟩ : ∃ g, na = some ⟨g, 0, none⟩ := by
            rcases hS.out.nm with h | ⟨g, e, _⟩
            · have := h.2.1; omega
            · exact ⟨g, e⟩
          have c0 := hS.out.cell (j := 2 * j) (by omega)
          have c1 := hS.out.cell (j := 2 * j + 1) hLl
          have hPT2 := hPT.out
          rw [Hs.pts_two x y M (2 * j) hgo, HMG.out (2 * j) (by omega) (by omega), HMG.out (2 * j + 1) hgo hLl] at hPT2
          have hn0 : L[2 * j]'(by omega) < 4398046511104 := HLs.out _ (List.getElem_mem _)
          have hn1 : L[2 * j + 1]'hLl < 4398046511104 := HLs.out _ (List.getElem_mem _)
          obtain ⟨n0, hn0e⟩ : ∃ n, n = L[2 * j]'(by omega) := ⟨_, rfl⟩
          obtain ⟨n1, hn1e⟩ : ∃ n, n = L[2 * j + 1]'hLl := ⟨_, rfl⟩
          rw [← hn0e] at c0 hn0 hPT2
          rw [← hn1e] at c1 hn1 hPT2
          have hw0 : IntKind.i64.wrap (n0 : Int) = (n0 : Int) := Hs.wrapid (by omega) (by omega)
          rw [hw0] at hPT2
          obtain ⟨m1, hm1⟩ : ∃ m, m = Hs.unf n1 := ⟨_, rfl⟩
          obtain ⟨x2, hx2⟩ : ∃ m, m = IntKind.i64.wrap (x + (n0 : Int)) := ⟨_, rfl⟩
          rw [← hm1] at hPT2
          obtain ⟨y2, hy2⟩ : ∃ m, m = IntKind.i64.wrap (y + m1) := ⟨_, rfl⟩
          rw [← hx2, ← hy2, show 2 * j + 2 = 2 * (j + 1) by omega] at hPT2
          replace hPT2 : Hid (Hs.pts 0 0 M = (P ++ [(x2, y2)]) ++ Hs.pts x2 y2 (M.drop (2 * (j + 1)))) := by show _ = _; rw [hPT2]; simp
          have q1 : IntKind.i64.wrap (x + (n0 : Int)) = x2 := hx2.symm
          have q2 : IntKind.i64.wrap (y + m1) = y2 := hy2.symm
          have hm : (n1 : Int).tmod 2 = ((n1 % 2 : Nat) : Int) := by rw [Int.tmod_eq_emod_of_nonneg (by omega)]; omega
          have hd : (n1 : Int).tdiv 2 = ((n1 / 2 : Nat) : Int) := by rw [Int.tdiv_eq_ediv_of_nonneg (by omega)]; omega
          obtain ⟨q, hq⟩ : ∃ q, q = n1 / 2 := ⟨_, rfl⟩
          obtain ⟨r, hr⟩ : ∃ r, r = n1 % 2 := ⟨_, rfl⟩
          have HU : Hid (m1 = if r = 1 then -(q : Int) - 1 else (q : Int)) := by show _ = _; rw [hm1, hq, hr]; rfl
          rw [← hq] at hd
          rw [← hr] at hm
          have hqb : q < 4398046511104 := by omega
          have hw4 : IntKind.i64.wrap (-(q : Int)) = -(q : Int) := Hs.wrapid (by omega) (by omega)
          have hw5 : IntKind.i64.wrap (-(q : Int) - 1) = -(q : Int) - 1 := Hs.wrapid (by omega) (by omega)
          have hza : z.toNat = 2 * j := by omega
          have hzb : (z + 1).toNat = 2 * j + 1 := by omega
          have hzc : ¬ z < 0 := by omega
          have hzd : ¬ z + 1 < 0 := by omega
          have hze : z < (N : Int) := by omega
          have hzf : (0 : Int) ≤ z := by omega
          have hzg : (0 : Int) ≤ z + 1 := by omega
          have HZ2 : Hid (z + 2 = ((2 * (j + 1) : Nat) : Int)) := by show _ = _; omega
          have hzh : IntKind.i64.wrap (z + 2) = z + 2 := Hs.wrapid (by omega) (by omega)
          have HJ : Hid (2 * (j + 1) ≤ 602 ∧ 2 * (j + 1) ≤ N + 1) := by show _ ∧ _; omega
          have HSA := Lib.hid (hS.out.below (nbel_alloc wr (.cells #[.int .i64 x2, .int .i64 y2] 38)))
          have HMO := Lib.hid (one_in wr 38 x2 y2)
          have hszE := hS.out.bel.size
          clear hn0e hn1e hm1 hx2 hy2 hq hr hz hS hPT hgo hLl
          by_cases hr1 : r = 1
          · have e1 : ((r : Int) == 1) = true := by simp; omega
            have HM1 : Hid (-(q : Int) - 1 = m1) := by show _ = _; rw [HU.out, if_pos hr1]
            have hm1z : -(q : Int) - 1 = m1 := HM1.out
            clear hr1 HU HM1
            go_wp2_with (at_builtin; refine wpList_append_ns (l := P) (m := [(x2, y2)]) rfl _ _ 22 rfl 38 j0 (.agg #[.int .i64 0, .int .i64 0]) 16 Tryd.underlying22 hj0 hy0 hy1 hy2 rfl w.heap.size _ rfl HSA.out.own (some ⟨wr.heap.size, 0, none⟩) 1 rfl HMO.out (by unfold maxLen; simp; omega) (by simp; omega) (by simp; omega) ?_)
            intro v' W3 hown hgrow
            have HP := Lib.hid (HSA.out.push (x := x2) (y := y2) (by simpa using hown) hgrow)
            clear hown hgrow HSA HMO c0 c1
            go_wp2_with fail
            go_roundw
            case rel => exact ⟨j + 1, P ++ [(x2, y2)], x2, y2, HJ.out.1, HJ.out.2, by simp; omega, by rw [HZ2.out], rfl, rfl, HP, hPT2⟩
            case measure => have := HZ.out; have := HZ2.out; simp [intOf]; omega
          · have e1 : ((r : Int) == 1) = false := by simp; omega
            have hm1z : (q : Int) = m1 := by rw [HU.out, if_neg hr1]
            clear hr1 HU
            go_wp2_with (at_builtin; refine wpList_append_ns (l := P) (m := [(x2, y2)]) rfl _ _ 22 rfl 38 j0 (.agg #[.int .i64 0, .int .i64 0]) 16 Tryd.underlying22 hj0 hy0 hy1 hy2 rfl w.heap.size _ rfl HSA.out.own (some ⟨wr.heap.size, 0, none⟩) 1 rfl HMO.out (by unfold maxLen; simp; omega) (by simp; omega) (by simp; omega) ?_)
            intro v' W3 hown hgrow
            have HP := Lib.hid (HSA.out.push (x := x2) (y := y2) (by simpa using hown) hgrow)
            clear hown hgrow HSA HMO c0 c1
            go_wp2_with fail
            go_roundw
            case rel => exact ⟨j + 1, P ++ [(x2, y2)], x2, y2, HJ.out.1, HJ.out.2, by simp; omega, by rw [HZ2.out], rfl, rfl, HP, hPT2⟩
            case measure => have := HZ.out; have := HZ2.out; simp [intOf]; omega
        · have HPE : Hid (Hs.rdS bs = P) := by
            show _ = _
            unfold Hs.rdS
            rw [HLE.out, ← HMM.out, hPT.out, Hs.pts_few x y M (2 * j) (by omega), List.append_nil]
          have hP3 : P.length ≤ 301 := by omega
          have HGO : Hid (2 * j + 1 < N → ¬ z < 602) := fun h => by omega
          obtain ⟨pa, pk, rfl, hcy⟩ := cyo_own hS.out.own
          have HCY := Lib.hid hcy
          have HS := Lib.hid hS.out.row
          have HBW := Lib.hid hS.out.bel
          obtain ⟨Q, hQ⟩ : ∃ Q, Q = P.length := ⟨_, rfl⟩
          have HQ := Lib.hid hQ
          rw [← hQ]
          clear hS hPT hcy hQ hgo
          by_cases hz1 : z + 1 < (N : Int)
          · have hz2 : ¬ z < 602 := HGO.out (by omega)
            clear hz
            go_wp2_with fail
            rw [HQ.out]
            refine (specPR_any pa P.length pk (Ln.fl P) wr HCY.out.at_ (by omega)).mono ?_
            rintro e w5 ⟨rfl, hb⟩
            rw [← HQ.out]
            have HB5 : Hid (Below w.heap.size w w5) := HBW.out.trans (hb.bel.mono HBW.out.size)
            have HS5 := Lib.hid (nrow_below HS.out hb.bel)
            have HC5 := Lib.hid (HCY.out.below hb.bel)
            clear hb HS HCY HBW
            by_cases cr : Hs.Right (Ln.fl P) Q
            case neg =>
              rw [Mt.dB_ff cr]
              have hrd : Hs.Rd bs [] 3 := Hs.rdS_no HT.out (fun h => cr (by have := h.1; rw [HPE.out] at this; rw [HQ.out]; exact this))
              obtain ⟨q1, q2, q3⟩ := FAIL.out w5 3 hrd HS5.out HB5.out
              obtain ⟨Z, hZ⟩ : ∃ Z, Z = (w5.setCell ⟨w.heap.size, 0, none⟩ (.slice none 0 0)).setCell ⟨w.heap.size, 1, none⟩ (.int .i64 3) := ⟨_, rfl⟩
              rw [← hZ] at q1 q2 q3
              have HZZ := Lib.hid hZ
              have Q1 := Lib.hid q1
              have Q2 := Lib.hid q2
              have Q3 := Lib.hid q3
              obtain ⟨⟨x0, x1⟩, f0, f1⟩ := rowN2 HS5.out
              have hxl := HS5.out.lt
              clear hZ q1 q2 q3 hrd cr
              go_wp2_with fail
              rw [← HZZ.out]
              obtain ⟨⟨z0, z1⟩, _⟩ := rowN2 Q1.out
              exact bodyPost_ret (v := .agg #[.slice none 0 0, .int .i64 3]) (by simp only [results, Tryd.results5]; simp [go_sem, z0, z1]) rfl ⟨Q2.out, Q3.out⟩
            rw [Mt.dB_tt cr]
            have HCR := Lib.hid cr
            clear cr
            go_wp2_with fail
            rw [HQ.out]
            refine (specTx_any pa P.length pk (Ln.fl P) w5 HC5.out.at_ (by omega)).mono ?_
            rintro e w6 ⟨rfl, hb⟩
            rw [← HQ.out]
            have HB6 : Hid (Below w.heap.size w w6) := HB5.out.trans (hb.mono HB5.out.size)
            have HS6 := Lib.hid (nrow_below HS5.out hb)
            have HC6 := Lib.hid (HC5.out.below hb)
            obtain ⟨T, hTT⟩ : ∃ T : ByteArray, T = ⟨(Hs.text (Ln.fl P) Q).toArray⟩ := ⟨_, rfl⟩
            have HTE : Hid (T = ⟨(Hs.textL P).toArray⟩) := by show T = _; rw [hTT, HQ.out]; rfl
            rw [← hTT]
            clear hb hTT HS5 HC5 HB5
            by_cases ct : T = s
            case neg =>
              have hrd : Hs.Rd bs [] 3 := Hs.rdS_no HT.out (fun h => ct (by have := h.2; rw [HPE.out] at this; rw [HTE.out, this, HBS.out]))
              obtain ⟨q1, q2, q3⟩ := FAIL.out w6 3 hrd HS6.out HB6.out
              obtain ⟨Z, hZ⟩ : ∃ Z, Z = (w6.setCell ⟨w.heap.size, 0, none⟩ (.slice none 0 0)).setCell ⟨w.heap.size, 1, none⟩ (.int .i64 3) := ⟨_, rfl⟩
              rw [← hZ] at q1 q2 q3
              have HZZ := Lib.hid hZ
              have Q1 := Lib.hid q1
              have Q2 := Lib.hid q2
              have Q3 := Lib.hid q3
              have hs1 := hstr_ne ct
              have hs2 : (T.toList != s.toList) = true := by simp [bne, hs1]
              obtain ⟨⟨x0, x1⟩, f0, f1⟩ := rowN2 HS6.out
              have hxl := HS6.out.lt
              clear hZ q1 q2 q3 hrd ct
              go_wp2_with fail
              rw [← HZZ.out]
              obtain ⟨⟨z0, z1⟩, _⟩ := rowN2 Q1.out
              exact bodyPost_ret (v := .agg #[.slice none 0 0, .int .i64 3]) (by simp only [results, Tryd.results5]; simp [go_sem, z0, z1]) rfl ⟨Q2.out, Q3.out⟩
            have HRD : Hid (Hs.Rd bs P 0) := by
              show Hs.Rd _ _ _
              have e : Hs.textL P = bs := by rw [HBS.out]; exact hba.1 (HTE.out.symm.trans ct)
              have h1 := Hs.rdS_yes HT.out (show Hs.RightL (Hs.rdS bs) by rw [HPE.out]; show Hs.Right (Ln.fl P) P.length; rw [← HQ.out]; exact HCR.out) (by rw [HPE.out]; exact e)
              rw [HPE.out] at h1
              exact h1
            subst ct
            have hs1 := hstr_eq T
            have hs2 : (T.toList != T.toList) = false := by simp [bne]
            obtain ⟨⟨x0, x1⟩, f0, f1⟩ := rowN2 HS6.out
            have hxl := HS6.out.lt
            obtain ⟨Z, hZ⟩ : ∃ Z, Z = (w6.setCell ⟨w.heap.size, 0, none⟩ (.slice pa Q pk)).setCell ⟨w.heap.size, 1, none⟩ (.int .i64 0) := ⟨_, rfl⟩
            have HZR : Hid (Z.rowIs w.heap.size 24 2 (rowN [.slice pa Q pk, .int .i64 0])) := by show World.rowIs _ _ _ _ _; rw [hZ]; exact rowN_put (rowN_put HS6.out 0 (.slice pa Q pk) (by simp)) 1 (.int .i64 0) (by simp)
            have HZB : Hid (Below w.heap.size w Z) := by show Below _ _ _; rw [hZ]; exact (HB6.out.setCell (p := ⟨w.heap.size, 0, none⟩) (Nat.le_refl _) _).setCell (p := ⟨w.heap.size, 1, none⟩) (Nat.le_refl _) _
            have HZC : Hid (CyO 38 w.heap.size (P.length * 2) pa pk (Ln.fl P) Z) := by
              show CyO _ _ _ _ _ _ _
              rw [hZ]
              refine HC6.out.keep (fun q e _ _ => ?_)
              have hq : q ≠ w.heap.size := fun e2 => HC6.out.ne HS6.out (by decide) (by rw [e, e2])
              rw [bihs _ _ _ hq, bihs _ _ _ hq]
            have HZZ := Lib.hid hZ
            clear hZ HC6
            go_wp2_with fail
            rw [← HZZ.out]
            obtain ⟨⟨z0, z1⟩, _⟩ := rowN2 HZR.out
            exact bodyPost_ret (v := .agg #[.slice pa Q pk, .int .i64 0]) (by simp only [results, Tryd.results5]; simp [go_sem, z0, z1]) rfl ⟨⟨P, 0, pa, pk, HRD.out, by rw [HQ.out], HZC.out⟩, HZB.out⟩
          · clear hz
            go_wp2_with fail
            rw [HQ.out]
            refine (specPR_any pa P.length pk (Ln.fl P) wr HCY.out.at_ (by omega)).mono ?_
            rintro e w5 ⟨rfl, hb⟩
            rw [← HQ.out]
            have HB5 : Hid (Below w.heap.size w w5) := HBW.out.trans (hb.bel.mono HBW.out.size)
            have HS5 := Lib.hid (nrow_below HS.out hb.bel)
            have HC5 := Lib.hid (HCY.out.below hb.bel)
            clear hb HS HCY HBW
            by_cases cr : Hs.Right (Ln.fl P) Q
            case neg =>
              rw [Mt.dB_ff cr]
              have hrd : Hs.Rd bs [] 3 := Hs.rdS_no HT.out (fun h => cr (by have := h.1; rw [HPE.out] at this; rw [HQ.out]; exact this))
              obtain ⟨q1, q2, q3⟩ := FAIL.out w5 3 hrd HS5.out HB5.out
              obtain ⟨Z, hZ⟩ : ∃ Z, Z = (w5.setCell ⟨w.heap.size, 0, none⟩ (.slice none 0 0)).setCell ⟨w.heap.size, 1, none⟩ (.int .i64 3) := ⟨_, rfl⟩
              rw [← hZ] at q1 q2 q3
              have HZZ := Lib.hid hZ
              have Q1 := Lib.hid q1
              have Q2 := Lib.hid q2
              have Q3 := Lib.hid q3
              obtain ⟨⟨x0, x1⟩, f0, f1⟩ := rowN2 HS5.out
              have hxl := HS5.out.lt
              clear hZ q1 q2 q3 hrd cr
              go_wp2_with fail
              rw [← HZZ.out]
              obtain ⟨⟨z0, z1⟩, _⟩ := rowN2 Q1.out
              exact bodyPost_ret (v := .agg #[.slice none 0 0, .int .i64 3]) (by simp only [results, Tryd.results5]; simp [go_sem, z0, z1]) rfl ⟨Q2.out, Q3.out⟩
            rw [Mt.dB_tt cr]
            have HCR := Lib.hid cr
            clear cr
            go_wp2_with fail
            rw [HQ.out]
            refine (specTx_any pa P.length pk (Ln.fl P) w5 HC5.out.at_ (by omega)).mono ?_
            rintro e w6 ⟨rfl, hb⟩
            rw [← HQ.out]
            have HB6 : Hid (Below w.heap.size w w6) := HB5.out.trans (hb.mono HB5.out.size)
            have HS6 := Lib.hid (nrow_below HS5.out hb)
            have HC6 := Lib.hid (HC5.out.below hb)
            obtain ⟨T, hTT⟩ : ∃ T : ByteArray, T = ⟨(Hs.text (Ln.fl P) Q).toArray⟩ := ⟨_, rfl⟩
            have HTE : Hid (T = ⟨(Hs.textL P).toArray⟩) := by show T = _; rw [hTT, HQ.out]; rfl
            rw [← hTT]
            clear hb hTT HS5 HC5 HB5
            by_cases ct : T = s
            case neg =>
              have hrd : Hs.Rd bs [] 3 := Hs.rdS_no HT.out (fun h => ct (by have := h.2; rw [HPE.out] at this; rw [HTE.out, this, HBS.out]))
              obtain ⟨q1, q2, q3⟩ := FAIL.out w6 3 hrd HS6.out HB6.out
              obtain ⟨Z, hZ⟩ : ∃ Z, Z = (w6.setCell ⟨w.heap.size, 0, none⟩ (.slice none 0 0)).setCell ⟨w.heap.size, 1, none⟩ (.int .i64 3) := ⟨_, rfl⟩
              rw [← hZ] at q1 q2 q3
              have HZZ := Lib.hid hZ
              have Q1 := Lib.hid q1
              have Q2 := Lib.hid q2
              have Q3 := Lib.hid q3
              have hs1 := hstr_ne ct
              have hs2 : (T.toList != s.toList) = true := by simp [bne, hs1]
              obtain ⟨⟨x0, x1⟩, f0, f1⟩ := rowN2 HS6.out
              have hxl := HS6.out.lt
              clear hZ q1 q2 q3 hrd ct
              go_wp2_with fail
              rw [← HZZ.out]
              obtain ⟨⟨z0, z1⟩, _⟩ := rowN2 Q1.out
              exact bodyPost_ret (v := .agg #[.slice none 0 0, .int .i64 3]) (by simp only [results, Tryd.results5]; simp [go_sem, z0, z1]) rfl ⟨Q2.out, Q3.out⟩
            have HRD : Hid (Hs.Rd bs P 0) := by
              show Hs.Rd _ _ _
              have e : Hs.textL P = bs := by rw [HBS.out]; exact hba.1 (HTE.out.symm.trans ct)
              have h1 := Hs.rdS_yes HT.out (show Hs.RightL (Hs.rdS bs) by rw [HPE.out]; show Hs.Right (Ln.fl P) P.length; rw [← HQ.out]; exact HCR.out) (by rw [HPE.out]; exact e)
              rw [HPE.out] at h1
              exact h1
            subst ct
            have hs1 := hstr_eq T
            have hs2 : (T.toList != T.toList) = false := by simp [bne]
            obtain ⟨⟨x0, x1⟩, f0, f1⟩ := rowN2 HS6.out
            have hxl := HS6.out.lt
            obtain ⟨Z, hZ⟩ : ∃ Z, Z = (w6.setCell ⟨w.heap.size, 0, none⟩ (.slice pa Q pk)).setCell ⟨w.heap.size, 1, none⟩ (.int .i64 0) := ⟨_, rfl⟩
            have HZR : Hid (Z.rowIs w.heap.size 24 2 (rowN [.slice pa Q pk, .int .i64 0])) := by show World.rowIs _ _ _ _ _; rw [hZ]; exact rowN_put (rowN_put HS6.out 0 (.slice pa Q pk) (by simp)) 1 (.int .i64 0) (by simp)
            have HZB : Hid (Below w.heap.size w Z) := by show Below _ _ _; rw [hZ]; exact (HB6.out.setCell (p := ⟨w.heap.size, 0, none⟩) (Nat.le_refl _) _).setCell (p := ⟨w.heap.size, 1, none⟩) (Nat.le_refl _) _
            have HZC : Hid (CyO 38 w.heap.size (P.length * 2) pa pk (Ln.fl P) Z) := by
              show CyO _ _ _ _ _ _ _
              rw [hZ]
              refine HC6.out.keep (fun q e _ _ => ?_)
              have hq : q ≠ w.heap.size := fun e2 => HC6.out.ne HS6.out (by decide) (by rw [e, e2])
              rw [bihs _ _ _ hq, bihs _ _ _ hq]
            have HZZ := Lib.hid hZ
            clear hZ HC6
            go_wp2_with fail
            rw [← HZZ.out]
            obtain ⟨⟨z0, z1⟩, _⟩ := rowN2 HZR.out
            exact bodyPost_ret (v := .agg #[.slice pa Q pk, .int .i64 0]) (by simp only [results, Tryd.results5]; simp [go_sem, z0, z1]) rfl ⟨⟨P, 0, pa, pk, HRD.out, by rw [HQ.out], HZC.out⟩, HZB.out⟩
end Go.Proofs.YtlocpliljkgfnaaDoor
