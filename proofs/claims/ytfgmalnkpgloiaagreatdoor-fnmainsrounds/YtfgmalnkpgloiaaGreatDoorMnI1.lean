/-
  The program's tests of mains.
-/
import Derived.Test.YtfgmalnkpgloiaaGreatDoorMnI0
import Derived.Test.YtfgmalnkpgloiaaGreatDoorReg
namespace Go.Proofs.YtfgmalnkpgloiaaGreatDoor
open Go.RowKit Go.Deep

/-- A block of truths. -/
def MBl (g N : Nat) (h : Nat → Bool) (w : World) : Prop := ∃ F, w.rowIs g 4 N F ∧ ∀ j, j < N → F j = .bool (h j)
theorem MBl.lt {g N : Nat} {h : Nat → Bool} {w : World} (k : MBl g N h w) : g < w.heap.size := by obtain ⟨F, h1, _⟩ := k; exact h1.lt
theorem MBl.block {g N : Nat} {h : Nat → Bool} {w w' : World} (k : MBl g N h w) (e : w'.heap[g]? = w.heap[g]?) : MBl g N h w' := by obtain ⟨F, h1, h2⟩ := k; exact ⟨F, h1.of_block e, h2⟩
theorem MBl.below {g N : Nat} {h : Nat → Bool} {w w' : World} (k : MBl g N h w) (hb : Below w.heap.size w w') : MBl g N h w' := k.block (hb.block _ k.lt)
theorem MBl.cell {g N i : Nat} {h : Nat → Bool} {w : World} (k : MBl g N h w) (hi : i < N) : w.cell? ⟨g, i, none⟩ = some (.bool (h i)) := by
  obtain ⟨F, h1, h2⟩ := k
  rw [h1.cell (i := i) hi, h2 i hi]
theorem MBl.frozen {g N : Nat} {h : Nat → Bool} {w : World} (k : MBl g N h w) (i : Nat) : w.frozen? ⟨g, i, none⟩ = false := by obtain ⟨F, h1, _⟩ := k; exact h1.frozen i
def updB (h : Nat → Bool) (a : Nat) (x : Bool) : Nat → Bool := fun j => if j = a then x else h j
theorem MBl.set {g N : Nat} {h : Nat → Bool} {w : World} (k : MBl g N h w) (i : Nat) (x : Bool) : MBl g N (updB h i x) (w.setCell ⟨g, i, none⟩ (.bool x)) := by
  obtain ⟨F, h1, h2⟩ := k
  refine ⟨_, h1.set i _, fun j hj => ?_⟩
  unfold updB
  by_cases e : j = i
  · subst e; simp
  · simp only [e, if_false]; exact h2 j hj
theorem MBl.congr {g N : Nat} {h h' : Nat → Bool} {w : World} (k : MBl g N h w) (e : ∀ j, j < N → h j = h' j) : MBl g N h' w := by
  obtain ⟨F, h1, h2⟩ := k
  exact ⟨F, h1, fun j hj => by rw [h2 j hj, e j hj]⟩
theorem minfo_bool : (Tryz.prog.info? 4).map (fun i => (i.zero, i.size, i.bytes)) = some (some (.bool false), 1, 1) := by kernel_rfl
theorem mmk_bool (n : Nat) (hn : n ≤ 1048576) (w : World) : (Instr.makeSlice 109 (.int .i64 (n : Int)) (.int .i64 (n : Int))).run Tryz.prog w = .ok (.slice (some ⟨w.heap.size, 0, none⟩) n n) (w.alloc (.cells (madeCells #[.bool false] n) 4)) :=
  run_make_row' (P := Tryz.prog) 109 4 (.bool false) 1 Tryz.underlying109 minfo_bool rfl .i64 .i64 n (by omega) (by omega) w
theorem mbl_new (w : World) (n : Nat) : MBl w.heap.size n (fun _ => false) (w.alloc (.cells (madeCells #[.bool false] n) 4)) := ⟨_, World.rowIs_made w (.bool false) n 4, fun _ _ => rfl⟩
/-- The way through a pipe. -/
def wayI (z : Int) : Int := if z < 0 then -1 else 1
set_option maxHeartbeats 400000 in
theorem passed_any (z : Int) (w : World) (h0 : z ≠ 0) (h1 : -1000000 ≤ z) (h2 : z ≤ 1000000) :
    Calls Tryz.prog 88 #[.int .i64 z] w fun e w' => e = .returned (.tuple #[.int .i64 ((Mn.place z : Nat) : Int), .int .i64 (wayI z)]) ∧ w' = w := by
  by_cases h : z < 0
  · have e1 : -z - 1 = ((Mn.place z : Nat) : Int) := by unfold Mn.place; omega
    have E2 : Hid (wayI z = -1) := by show wayI z = _; simp [wayI, h]
    go_enter Tryz.func88, Tryz.ntmps88
    go_wp2_with fail
    go_ret2
    exact ⟨by rw [E2.out]; rfl, rfl⟩
  · have e1 : z - 1 = ((Mn.place z : Nat) : Int) := by unfold Mn.place; omega
    have E2 : Hid (wayI z = 1) := by show wayI z = _; simp [wayI, h]
    go_enter Tryz.func88, Tryz.ntmps88
    go_wp2_with fail
    go_ret2
    exact ⟨by rw [E2.out]; rfl, rfl⟩
def begAt (m : Mn.Mains) (i : Nat) (z : Int) : Int := if z < 0 then Mn.tt m i else Mn.fr m i
def endAt (m : Mn.Mains) (i : Nat) (z : Int) : Int := if z < 0 then Mn.fr m i else Mn.tt m i
set_option maxHeartbeats 400000 in
theorem endsOf_any (m : Mn.Mains) (i : Nat) (z : Int) (w : World) :
    Calls Tryz.prog 107 #[.agg #[.int .i64 (m.P (i * 5)), .int .i64 (m.P (i * 5 + 1)), .int .i64 (m.P (i * 5 + 2)), .int .i64 (m.P (i * 5 + 3)), .int .i64 (m.P (i * 5 + 4))], .int .i64 (wayI z)] w fun e w' => e = .returned (.tuple #[.int .i64 (begAt m i z), .int .i64 (endAt m i z)]) ∧ Below w.heap.size w w' := by
  have HB := Lib.hid (nbel_alloc w (.cells #[.int .i64 (m.P (i * 5)), .int .i64 (m.P (i * 5 + 1)), .int .i64 (m.P (i * 5 + 2)), .int .i64 (m.P (i * 5 + 3)), .int .i64 (m.P (i * 5 + 4))] 36))
  by_cases h : z < 0
  · have e2 : wayI z = -1 := by simp [wayI, h]
    rw [e2]
    unfold begAt endAt
    simp only [h, if_true]
    clear h e2
    go_enter Tryz.func107, Tryz.ntmps107
    go_wp2_with fail
    go_quiet (fail)
    go_wp2_with fail
    go_ret2
    exact ⟨rfl, ndrewN HB.out _⟩
  · have e2 : wayI z = 1 := by simp [wayI, h]
    rw [e2]
    unfold begAt endAt
    simp only [h, if_false]
    clear h e2
    go_enter Tryz.func107, Tryz.ntmps107
    go_wp2_with fail
    go_quiet (fail)
    go_wp2_with fail
    go_ret2
    exact ⟨rfl, ndrewN HB.out _⟩
set_option maxRecDepth 100000 in
set_option maxHeartbeats 4000000 in
theorem pipes_any (m : Mn.Mains) (pa : Option Addr) (pk : Nat) (la : Option Addr) (lk : Nat) (wa : Option Addr) (wk : Nat) (w : World) (h : MnAt m pa la wa w) (h1 : 1 ≤ m.nodes) (h2 : m.nodes ≤ 12) :
    Calls Tryz.prog 90 #[mnV m pa pk la lk wa wk] w fun e w' => BoolEnd (m.pn ≤ 40 ∧ ∀ i, i < m.pn → Mn.PipeOk m i) e ∧ Below w.heap.size w w' := by
  have H := Lib.hid (MnS.new 27 (pk := pk) (lk := lk) (wk := wk) h)
  clear h
  by_cases h40 : m.pn ≤ 40
  · have hz : ¬ (40 : Int) < (m.pn : Int) := by omega
    have H40 := Lib.hid h40
    clear h40
    go_enter Tryz.func90, Tryz.ntmps90
    go_wp2_with fail
    go_loopw [12] (fun iv wr => ∃ (i : Nat), i ≤ m.pn ∧ iv = .int .i64 i ∧ Hid (MnS 27 m pa pk la lk wa wk w wr) ∧ Hid (∀ j, j < i → Mn.PipeOk m j)) (fun iv _ => m.pn - (intOf iv).toNat)
    case atStart => exact ⟨0, Nat.zero_le _, rfl, H, fun j hj => absurd hj (Nat.not_lt_zero _)⟩
    case round =>
      obtain ⟨i, hi, rfl, hS, hP⟩ := hrel
      clear H
      by_cases hlt : i < m.pn
      · have hltz : (i : Int) < (m.pn : Int) := by omega
        obtain ⟨b, e, c0, c1, c2, c3, c4⟩ := hS.out.at_.p.at5 hlt
        subst e
        obtain ⟨⟨r0, _, _, _, _⟩, _⟩ := rowN5 hS.out.row
        have zb : b < wr.heap.size := World.block_lt_of_cell? _ _ c0
        have zw : w.heap.size < wr.heap.size := hS.out.row.lt
        have HA : Hid (Below w.heap.size w (wr.alloc (.cells #[.int .i64 (m.P (i * 5)), .int .i64 (m.P (i * 5 + 1)), .int .i64 (m.P (i * 5 + 2)), .int .i64 (m.P (i * 5 + 3)), .int .i64 (m.P (i * 5 + 4))] 36))) := hS.out.old.alloc hS.out.old.size _
        by_cases a1 : m.P (i * 5) < 1
        · go_wp2_with fail
          go_ret
          exact ⟨BoolEnd.ff (fun k => by have := (k.2 i hlt).k1; omega), HA.out⟩
        by_cases a2 : 6 < m.P (i * 5)
        · go_wp2_with fail
          go_ret
          exact ⟨BoolEnd.ff (fun k => by have := (k.2 i hlt).k2; omega), HA.out⟩
        by_cases a3 : m.P (i * 5 + 1) = m.P (i * 5 + 2)
        · have a3' : (m.P (i * 5 + 1) == m.P (i * 5 + 2)) = true := by simp [a3]
          have HA3 := Lib.hid a3
          clear a3
          go_wp2_with fail
          go_ret
          exact ⟨BoolEnd.ff (fun k => (k.2 i hlt).ne HA3.out), HA.out⟩
        have a3' : (m.P (i * 5 + 1) == m.P (i * 5 + 2)) = false := by simp [a3]
        have H3 := Lib.hid a3
        clear a3
        obtain ⟨b1, hb1⟩ := nbool_of (0 ≤ m.P (i * 5 + 1) ∧ m.P (i * 5 + 1) ≤ m.nodes - 1)
        obtain ⟨b2, hb2⟩ := nbool_of (0 ≤ m.P (i * 5 + 2) ∧ m.P (i * 5 + 2) ≤ m.nodes - 1)
        obtain ⟨b3, hb3⟩ := nbool_of (0 ≤ m.P (i * 5 + 3) ∧ m.P (i * 5 + 3) ≤ 1000)
        obtain ⟨b4, hb4⟩ := nbool_of (0 ≤ m.P (i * 5 + 4) ∧ m.P (i * 5 + 4) ≤ 100000)
        have K1 := Lib.hid hb1
        have K2 := Lib.hid hb2
        have K3 := Lib.hid hb3
        have K4 := Lib.hid hb4
        clear hb1 hb2 hb3 hb4
        go_wp2_with fail
        refine (nwithin_any _ _ b1 K1.out _).mono ?_
        rintro e w1 ⟨rfl, rfl⟩
        cases b1 with
        | false =>
          go_wp2_with fail
          go_ret
          exact ⟨BoolEnd.ff (fun k => by have := K1.out.2 (by have := k.2 i hlt; have := this.f0; have := (k.2 i hlt).f1; omega); cases this), HA.out⟩
        | true =>
        go_wp2_with fail
        refine (nwithin_any _ _ b2 K2.out _).mono ?_
        rintro e w1 ⟨rfl, rfl⟩
        cases b2 with
        | false =>
          go_wp2_with fail
          go_ret
          exact ⟨BoolEnd.ff (fun k => by have := K2.out.2 (by have := k.2 i hlt; have := this.t0; have := (k.2 i hlt).t1; omega); cases this), HA.out⟩
        | true =>
        go_wp2_with fail
        refine (nwithin_any _ _ b3 K3.out _).mono ?_
        rintro e w1 ⟨rfl, rfl⟩
        cases b3 with
        | false =>
          go_wp2_with fail
          go_ret
          exact ⟨BoolEnd.ff (fun k => by have := K3.out.2 ⟨(k.2 i hlt).d0, (k.2 i hlt).d1⟩; cases this), HA.out⟩
        | true =>
        go_wp2_with fail
        refine (nwithin_any _ _ b4 K4.out _).mono ?_
        rintro e w1 ⟨rfl, rfl⟩
        cases b4 with
        | false =>
          go_wp2_with fail
          go_ret
          exact ⟨BoolEnd.ff (fun k => by have := K4.out.2 ⟨(k.2 i hlt).m0, (k.2 i hlt).m1⟩; cases this), HA.out⟩
        | true =>
        go_wp2_with fail
        go_roundw
        case rel =>
          refine ⟨i + 1, by omega, by go_num, hS.out.alloc _, fun j hj => ?_⟩
          by_cases ej : j = i
          · subst ej
            have k1 := K1.out.1 (by trivial)
            have k2 := K2.out.1 (by trivial)
            have k3 := K3.out.1 (by trivial)
            have k4 := K4.out.1 (by trivial)
            exact ⟨by omega, by omega, H3.out, k1.1, by omega, k2.1, by omega, k3.1, k3.2, k4.1, k4.2⟩
          · exact hP.out j (by omega)
        case measure => simp [intOf]; omega
      · obtain rfl : i = m.pn := by omega
        go_wp2_with fail
        go_ret
        exact ⟨BoolEnd.tt ⟨H40.out, hP.out⟩, hS.out.old⟩
  · have hz : (40 : Int) < (m.pn : Int) := by omega
    go_enter Tryz.func90, Tryz.ntmps90
    go_wp2_with fail
    go_ret
    exact ⟨BoolEnd.ff (fun k => h40 k.1), H.out.old⟩
set_option maxRecDepth 100000 in
set_option maxHeartbeats 4000000 in
theorem draws_any (m : Mn.Mains) (pa : Option Addr) (pk : Nat) (la : Option Addr) (lk : Nat) (wa : Option Addr) (wk : Nat) (w : World) (h : MnAt m pa la wa w) (h1 : 1 ≤ m.nodes) (h2 : m.nodes ≤ 12) :
    Calls Tryz.prog 91 #[mnV m pa pk la lk wa wk] w fun e w' => BoolEnd ((m.wn : Int) = m.nodes ∧ ∀ i, i < m.wn → 0 ≤ m.W i ∧ m.W i ≤ 1000) e ∧ Below w.heap.size w w' := by
  have H := Lib.hid (MnS.new 27 (pk := pk) (lk := lk) (wk := wk) h)
  clear h
  by_cases hq : (m.wn : Int) = m.nodes
  · have hz : ((m.wn : Int) != m.nodes) = false := by simp [hq]
    go_enter Tryz.func91, Tryz.ntmps91
    go_wp2_with fail
    go_loopw [14] (fun iv wr => ∃ (i : Nat), i ≤ m.wn ∧ iv = .int .i64 i ∧ Hid (MnS 27 m pa pk la lk wa wk w wr) ∧ Hid (∀ j, j < i → 0 ≤ m.W j ∧ m.W j ≤ 1000)) (fun iv _ => m.wn - (intOf iv).toNat)
    case atStart => exact ⟨0, Nat.zero_le _, rfl, H, fun j hj => absurd hj (Nat.not_lt_zero _)⟩
    case round =>
      obtain ⟨i, hi, rfl, hS, hP⟩ := hrel
      clear H
      by_cases hlt : i < m.wn
      · have hltz : (i : Int) < (m.wn : Int) := by omega
        obtain ⟨b, e, c0⟩ := hS.out.at_.w.at1 hlt
        subst e
        obtain ⟨b1, hb1⟩ := nbool_of (0 ≤ m.W i ∧ m.W i ≤ 1000)
        have K1 := Lib.hid hb1
        clear hb1
        go_wp2_with fail
        refine (nwithin_any _ _ b1 K1.out _).mono ?_
        rintro e w1 ⟨rfl, rfl⟩
        cases b1 with
        | false =>
          go_wp2_with fail
          go_ret
          exact ⟨BoolEnd.ff (fun k => by have := K1.out.2 (k.2 i hlt); cases this), hS.out.old⟩
        | true =>
          go_wp2_with fail
          go_roundw
          case rel =>
            refine ⟨i + 1, by omega, by go_num, hS, fun j hj => ?_⟩
            by_cases ej : j = i
            · subst ej; exact K1.out.1 (by trivial)
            · exact hP.out j (by omega)
          case measure => simp [intOf]; omega
      · obtain rfl : i = m.wn := by omega
        go_wp2_with fail
        go_ret
        exact ⟨BoolEnd.tt ⟨hq, hP.out⟩, hS.out.old⟩
  · have hz : ((m.wn : Int) != m.nodes) = true := by simp [hq]
    go_enter Tryz.func91, Tryz.ntmps91
    go_wp2_with fail
    go_ret
    exact ⟨BoolEnd.ff (fun k => hq k.1), H.out.old⟩
set_option maxRecDepth 100000 in
set_option maxHeartbeats 4000000 in
theorem numbers_any (m : Mn.Mains) (a : Option Addr) (n c : Nat) (f : Nat → Int) (w : World) (h : IsAt a n f w) (hp : m.pn ≤ 40) :
    Calls Tryz.prog 104 #[.slice a n c, .int .i64 (m.pn : Int)] w fun e w' => BoolEnd (1 ≤ n ∧ n ≤ 40 ∧ ∀ k, k < n → Mn.NumOk m (f k)) e ∧ w' = w := by
  have H := Lib.hid h
  have hp2 : (m.pn : Int) ≤ 40 := by omega
  clear h
  by_cases h1 : n < 1
  · have hz : (n : Int) < 1 := by omega
    go_enter Tryz.func104, Tryz.ntmps104
    go_wp2_with fail
    go_ret
    exact ⟨BoolEnd.ff (fun k => by omega), rfl⟩
  by_cases h40 : n ≤ 40
  · have hz : ¬ (40 : Int) < (n : Int) := by omega
    have hy : ¬ (n : Int) < 1 := by omega
    have H40 := Lib.hid h40
    have HY := Lib.hid h1
    clear h40 h1
    go_enter Tryz.func104, Tryz.ntmps104
    go_wp2_with fail
    go_loopw [17] (fun iv wr => ∃ (i : Nat), i ≤ n ∧ iv = .int .i64 i ∧ Hid (wr = w) ∧ Hid (∀ j, j < i → Mn.NumOk m (f j))) (fun iv _ => n - (intOf iv).toNat)
    case atStart => exact ⟨0, Nat.zero_le _, rfl, rfl, fun j hj => absurd hj (Nat.not_lt_zero _)⟩
    case round =>
      obtain ⟨i, hi, rfl, hW, hP⟩ := hrel
      obtain rfl := hW.out
      clear hW
      by_cases hlt : i < n
      · have hltz : (i : Int) < (n : Int) := by omega
        obtain ⟨b, e, c0⟩ := H.out.at1 hlt
        subst e
        by_cases h3 : f i = 0
        · have h3' : (f i == 0) = true := by simp [h3]
          have H3 := Lib.hid h3
          clear h3
          go_wp2_with fail
          go_ret
          exact ⟨BoolEnd.ff (fun k => (k.2.2 i hlt).1 H3.out), rfl⟩
        · have h3' : (f i == 0) = false := by simp [h3]
          have H3 := Lib.hid h3
          clear h3
          obtain ⟨b1, hb1⟩ := nbool_of (-(m.pn : Int) ≤ f i ∧ f i ≤ (m.pn : Int))
          have K1 := Lib.hid hb1
          clear hb1
          go_wp2_with fail
          refine (about_any _ _ b1 ⟨by omega, by omega⟩ K1.out _).mono ?_
          rintro e w1 ⟨rfl, rfl⟩
          cases b1 with
          | false =>
            go_wp2_with fail
            go_ret
            exact ⟨BoolEnd.ff (fun k => by have := K1.out.2 (k.2.2 i hlt).2; cases this), rfl⟩
          | true =>
            go_wp2_with fail
            go_roundw
            case rel =>
              refine ⟨i + 1, by omega, by go_num, by first | exact rfl | exact (trivial : True), fun j hj => ?_⟩
              by_cases ej : j = i
              · subst ej; exact ⟨H3.out, K1.out.1 (by trivial)⟩
              · exact hP.out j (by omega)
            case measure => simp [intOf]; omega
      · obtain rfl : i = n := by omega
        go_wp2_with fail
        go_ret
        exact ⟨BoolEnd.tt ⟨by have := HY.out; omega, H40.out, hP.out⟩, rfl⟩
  · have hz : (40 : Int) < (n : Int) := by omega
    have hy : ¬ (n : Int) < 1 := by omega
    have H40 := Lib.hid h40
    clear h40 h1
    go_enter Tryz.func104, Tryz.ntmps104
    go_wp2_with fail
    go_ret
    exact ⟨BoolEnd.ff (fun k => H40.out k.2.1), rfl⟩
theorem usedTo_zero (f : Nat → Int) : Mn.usedTo f 0 = fun _ => false := by funext p; simp [Mn.usedTo]
theorem usedTo_succ (f : Nat → Int) (k : Nat) : updB (Mn.usedTo f k) (Mn.place (f k)) true = Mn.usedTo f (k + 1) := by
  funext p
  have h1 := Mn.usedTo_iff f k p
  have h2 := Mn.usedTo_iff f (k + 1) p
  unfold updB
  rw [Bool.eq_iff_iff, h2]
  by_cases e : p = Mn.place (f k)
  · simp only [e, if_true]; exact iff_of_true (by trivial) ⟨k, by omega, rfl⟩
  · simp only [e, if_false]
    rw [h1]
    constructor
    · rintro ⟨j, hj, ej⟩; exact ⟨j, by omega, ej⟩
    · rintro ⟨j, hj, ej⟩
      by_cases ek : j = k
      · subst ek; exact absurd ej.symm e
      · exact ⟨j, by omega, ej⟩
def ClosesTo (m : Mn.Mains) (n : Nat) (f : Nat → Int) (i : Nat) : Prop := (∀ k, k < i → ∀ j, j < k → Mn.place (f j) ≠ Mn.place (f k)) ∧ ∀ k, k < i → Mn.begins m (f k) = Mn.ends m (f (Mn.prev n k))
structure ClS (m : Mn.Mains) (pa a : Option Addr) (n : Nat) (f : Nat → Int) (g k : Nat) (w wr : World) : Prop where
  u : MBl g m.pn (Mn.usedTo f k) wr
  old : Below w.heap.size w wr
  lo : w.heap.size ≤ g
  p : ClosesTo m n f k
set_option maxRecDepth 100000 in
set_option maxHeartbeats 4000000 in
theorem closes_any (m : Mn.Mains) (pa : Option Addr) (pk : Nat) (a : Option Addr) (n c : Nat) (f : Nat → Int) (w : World) (h : IsAt a n f w) (hq : IsAt pa (m.pn * 5) m.P w) (hp : m.pn ≤ 40) (h1 : 1 ≤ n) (h2 : n ≤ 40) (hN : ∀ k, k < n → Mn.NumOk m (f k)) :
    Calls Tryz.prog 105 #[.slice a n c, .slice pa m.pn pk] w fun e w' => BoolEnd (ClosesTo m n f n) e ∧ Below w.heap.size w w' := by
  have H := Lib.hid h
  have HP := Lib.hid hq
  have HN := Lib.hid hN
  have hmk := mmk_bool m.pn (by omega)
  have hnz : (1 : Int) ≤ (n : Int) := by omega
  have hnz2 : (n : Int) ≤ 40 := by omega
  have hnz3 : (n : Int) - 1 = ((n - 1 : Nat) : Int) := by omega
  have hnz4 : ((n - 1 : Nat) : Int) < (n : Int) := by omega
  have HN1 := Lib.hid h1
  have HN2 := Lib.hid h2
  obtain ⟨b0, e0, d0⟩ := h.at1 (i := n - 1) (by omega)
  subst e0
  have k0 := hN (n - 1) (by omega)
  obtain ⟨b1, e1, c0, c1, c2, c3, c4⟩ := hq.at5 k0.lt
  subst e1
  have q0 : (Mn.place (f (n - 1)) : Int) < (m.pn : Int) := by have := k0.lt; omega
  have K0 := Lib.hid k0
  have HPN := Lib.hid hp
  clear h hq hN h1 h2 k0 hp
  go_enter Tryz.func105, Tryz.ntmps105
  go_wp2_with fail
  refine (passed_any (f (n - 1)) _ K0.out.1 (by have := K0.out.2; have := HPN.out; omega) (by have := K0.out.2; have := HPN.out; omega)).mono ?_
  rintro e w1 ⟨rfl, e⟩
  subst w1
  go_wp2_with fail
  refine (endsOf_any m (Mn.place (f (n - 1))) (f (n - 1)) _).mono ?_
  rintro e w1 ⟨rfl, hb⟩
  have HB1 := Lib.hid hb
  clear hb c0 c1 c2 c3 c4 d0
  obtain ⟨EN, hEN⟩ : ∃ EN, EN = endAt m (Mn.place (f (n - 1))) (f (n - 1)) := ⟨_, rfl⟩
  rw [← hEN]
  have HEN : Hid (EN = Mn.ends m (f (Mn.prev n 0))) := by show _ = _; rw [hEN]; rfl
  clear hEN
  go_wp2_with fail
  have ST : Hid (ClS m (some ⟨b1, 0, none⟩) (some ⟨b0, 0, none⟩) n f w1.heap.size 0 w (w1.alloc (.cells (madeCells #[.bool false] m.pn) 4))) := ⟨by rw [usedTo_zero]; exact mbl_new _ _, HB1.out.alloc HB1.out.size _, HB1.out.size, fun k hk => absurd hk (by omega), fun k hk => absurd hk (by omega)⟩
  clear hmk hnz3 hnz4
  go_loopw [8, 40] (fun av iv wr => ∃ (i : Nat) (A : Int), i ≤ n ∧ av = .int .i64 A ∧ iv = .int .i64 i ∧ Hid (A = Mn.ends m (f (Mn.prev n i))) ∧ Hid (ClS m (some ⟨b1, 0, none⟩) (some ⟨b0, 0, none⟩) n f w1.heap.size i w wr)) (fun _ iv _ => n - (intOf iv).toNat)
  case atStart => exact ⟨0, EN, Nat.zero_le _, rfl, rfl, HEN, ST⟩
  case round =>
    obtain ⟨i, A, hi, rfl, rfl, hA, hS⟩ := hrel
    clear ST HEN
    by_cases hlt : i < n
    · have hltz : (i : Int) < (n : Int) := by omega
      obtain ⟨b0', e0, d0⟩ := (H.out.below hS.out.old).at1 hlt
      cases e0
      have k0 := HN.out i hlt
      obtain ⟨b1', e1, c0, c1, c2, c3, c4⟩ := (HP.out.below hS.out.old).at5 k0.lt
      cases e1
      have q1 : (Mn.place (f i) : Int) < (m.pn : Int) := by have := k0.lt; omega
      have K1 := Lib.hid k0
      clear k0
      go_wp2_with fail
      refine (passed_any (f i) _ K1.out.1 (by have := K1.out.2; have := HPN.out; omega) (by have := K1.out.2; have := HPN.out; omega)).mono ?_
      rintro e w2 ⟨rfl, rfl⟩
      go_wp2_with fail
      refine (endsOf_any m (Mn.place (f i)) (f i) _).mono ?_
      rintro e w3 ⟨rfl, hb⟩
      have HS3 : Hid (ClS m (some ⟨b1, 0, none⟩) (some ⟨b0, 0, none⟩) n f w1.heap.size i w w3) := ⟨hS.out.u.below hb, hS.out.old.trans (hb.mono hS.out.old.size), hS.out.lo, hS.out.p⟩
      obtain ⟨E1, hE1⟩ : ∃ E1, E1 = endAt m (Mn.place (f i)) (f i) := ⟨_, rfl⟩
      obtain ⟨E2, hE2⟩ : ∃ E2, E2 = begAt m (Mn.place (f i)) (f i) := ⟨_, rfl⟩
      rw [← hE1, ← hE2]
      have HE1 : Hid (E1 = Mn.ends m (f i)) := by show _ = _; rw [hE1]; rfl
      have HE2 : Hid (E2 = Mn.begins m (f i)) := by show _ = _; rw [hE2]; rfl
      have cu := HS3.out.u.cell K1.out.lt
      have zu := HS3.out.u.frozen (Mn.place (f i))
      have lu := HS3.out.u.lt
      clear hE1 hE2 hb hS c0 c1 c2 c3 c4 d0
      by_cases a1 : E2 = A
      · have a1' : (E2 != A) = false := by simp [a1]
        have HA1 := Lib.hid a1
        clear a1
        obtain ⟨U, hU⟩ : ∃ U, U = Mn.usedTo f i (Mn.place (f i)) := ⟨_, rfl⟩
        rw [← hU] at cu
        have HU := Lib.hid hU
        clear hU
        cases U with
        | true =>
          go_wp2_with fail
          try go_quiet (fail)
          try go_wp2_with fail
          go_ret
          exact ⟨BoolEnd.ff (fun k => by
            obtain ⟨j, hj, ej⟩ := (Mn.usedTo_iff f i _).1 HU.out.symm
            exact k.1 i hlt j hj ej), by first | exact HS3.out.old | exact ndrewN HS3.out.old _ | exact HS3.out.old.drew⟩
        | false =>
          go_wp2_with fail
          try go_quiet (fail)
          try go_wp2_with fail
          go_roundw
          case rel =>
            refine ⟨i + 1, E1, by omega, rfl, by go_num, by show _ = _; rw [HE1.out]; simp [Mn.prev], ?_⟩
            have hs := HS3.out
            refine ⟨?_, by first | exact hs.old.setCell (p := ⟨w1.heap.size, _, none⟩) hs.lo _ | exact (ndrewN hs.old _).setCell (p := ⟨w1.heap.size, _, none⟩) hs.lo _, hs.lo, ?_, ?_⟩
            · rw [← usedTo_succ]
              first | exact hs.u.set _ _ | exact (hs.u.below (ndrewN (Below.refl _ _) _)).set _ _
            · intro k hk j hj
              by_cases ek : k = i
              · subst ek
                intro e
                have := (Mn.usedTo_iff f k _).2 ⟨j, hj, e⟩
                rw [← HU.out] at this
                cases this
              · exact hs.p.1 k (by omega) j hj
            · intro k hk
              by_cases ek : k = i
              · subst ek
                rw [← HE2.out, HA1.out, hA.out]
              · exact hs.p.2 k (by omega)
          case measure => simp [intOf]; omega
      · have a1' : (E2 != A) = true := by simp [a1]
        have HA1 := Lib.hid a1
        clear a1
        go_wp2_with fail
        try go_quiet (fail)
        try go_wp2_with fail
        go_ret
        exact ⟨BoolEnd.ff (fun k => HA1.out (by rw [HE2.out, hA.out]; exact k.2 i hlt)), by first | exact HS3.out.old | exact ndrewN HS3.out.old _ | exact HS3.out.old.drew⟩
    · obtain rfl : i = n := by omega
      go_wp2_with fail
      go_ret
      exact ⟨BoolEnd.tt hS.out.p, hS.out.old⟩
set_option maxRecDepth 100000 in
set_option maxHeartbeats 4000000 in
theorem loops_any (m : Mn.Mains) (pa : Option Addr) (pk : Nat) (la : Option Addr) (lk : Nat) (wa : Option Addr) (wk : Nat) (w : World) (h : MnAt m pa la wa w) (hp : m.pn ≤ 40) :
    Calls Tryz.prog 92 #[mnV m pa pk la lk wa wk] w fun e w' => BoolEnd (m.ln ≤ 12 ∧ ∀ i, i < m.ln → Mn.LoopOk m (m.LN i) (m.L i)) e ∧ Below w.heap.size w w' := by
  have H := Lib.hid (MnS.new 27 (pk := pk) (lk := lk) (wk := wk) h)
  clear h
  by_cases h12 : m.ln ≤ 12
  · have hz : ¬ (12 : Int) < (m.ln : Int) := by omega
    have H12 := Lib.hid h12
    clear h12
    go_enter Tryz.func92, Tryz.ntmps92
    go_wp2_with fail
    go_loopw [12] (fun iv wr => ∃ (i : Nat), i ≤ m.ln ∧ iv = .int .i64 i ∧ Hid (MnS 27 m pa pk la lk wa wk w wr) ∧ Hid (∀ j, j < i → Mn.LoopOk m (m.LN j) (m.L j))) (fun iv _ => m.ln - (intOf iv).toNat)
    case atStart => exact ⟨0, Nat.zero_le _, rfl, H, fun j hj => absurd hj (Nat.not_lt_zero _)⟩
    case round =>
      obtain ⟨i, hi, rfl, hS, hP⟩ := hrel
      clear H
      obtain ⟨⟨r0, r1, r2, r3, r4⟩, _⟩ := rowN5 hS.out.row
      by_cases hlt : i < m.ln
      · have hltz : (i : Int) < (m.ln : Int) := by omega
        obtain ⟨b, e, ai, ci, c0, ki⟩ := hS.out.at_.l.one hlt
        subst e
        have KI := Lib.hid ki
        clear ki
        go_wp2_with fail
        refine (numbers_any m ai (m.LN i) ci (m.L i) _ KI.out hp).mono ?_
        rintro e w1 ⟨⟨b1, rfl, hb1⟩, rfl⟩
        have K1 := Lib.hid hb1
        clear hb1
        cases b1 with
        | false =>
          go_wp2_with fail
          go_ret
          exact ⟨BoolEnd.ff (fun k => by have := K1.out.2 ⟨(k.2 i hlt).n1, (k.2 i hlt).n2, (k.2 i hlt).num⟩; cases this), hS.out.old⟩
        | true =>
          go_wp2_with fail
          refine (closes_any m pa pk ai (m.LN i) ci (m.L i) _ KI.out hS.out.at_.p hp (K1.out.1 (by trivial)).1 (K1.out.1 (by trivial)).2.1 (K1.out.1 (by trivial)).2.2).mono ?_
          rintro e w2 ⟨⟨b2, rfl, hb2⟩, hb⟩
          have K2 := Lib.hid hb2
          have S2 := Lib.hid (hS.out.below hb)
          clear hb2 hb hS r0 r1 r2 r3 r4 c0 KI
          cases b2 with
          | false =>
            go_wp2_with fail
            go_ret
            exact ⟨BoolEnd.ff (fun k => by have := K2.out.2 ⟨(k.2 i hlt).one, (k.2 i hlt).ring⟩; cases this), S2.out.old⟩
          | true =>
            go_wp2_with fail
            go_roundw
            case rel =>
              refine ⟨i + 1, by omega, by go_num, S2, fun j hj => ?_⟩
              by_cases ej : j = i
              · subst ej
                have k1 := K1.out.1 (by trivial)
                have k2 := K2.out.1 (by trivial)
                exact ⟨k1.1, k1.2.1, k1.2.2, k2.1, k2.2⟩
              · exact hP.out j (by omega)
            case measure => simp [intOf]; omega
      · obtain rfl : i = m.ln := by omega
        go_wp2_with fail
        go_ret
        exact ⟨BoolEnd.tt ⟨H12.out, hP.out⟩, hS.out.old⟩
  · have hz : (12 : Int) < (m.ln : Int) := by omega
    go_enter Tryz.func92, Tryz.ntmps92
    go_wp2_with fail
    go_ret
    exact ⟨BoolEnd.ff (fun k => h12 k.1), H.out.old⟩
set_option maxRecDepth 100000 in
set_option maxHeartbeats 4000000 in
theorem implMains_any (m : Mn.Mains) (pa : Option Addr) (pk : Nat) (la : Option Addr) (lk : Nat) (wa : Option Addr) (wk : Nat) (w : World) (h : MnAt m pa la wa w) :
    Calls Tryz.prog 70 #[mnV m pa pk la lk wa wk] w fun e w' => BoolEnd (Mn.Right m) e ∧ Below w.heap.size w w' := by
  have H := Lib.hid (MnS.new 27 (pk := pk) (lk := lk) (wk := wk) h)
  clear h
  by_cases h1 : 1 ≤ m.nodes
  · by_cases h2 : m.nodes ≤ 12
    · obtain ⟨W, hW⟩ : ∃ W, W = w.alloc (.cells #[.int .i64 m.nodes, .int .i64 m.head, .slice pa m.pn pk, .slice la m.ln lk, .slice wa m.wn wk] 27) := ⟨_, rfl⟩
      have HW := Lib.hid hW
      rw [← hW] at H
      clear hW
      obtain ⟨b0, hb0⟩ := nbool_of (-100000 ≤ m.head ∧ m.head ≤ 100000)
      have K0 := Lib.hid hb0
      clear hb0
      go_enter Tryz.func70, Tryz.ntmps70
      go_wp2_with fail
      rw [← HW.out]
      refine (about_any _ _ b0 ⟨by omega, by omega⟩ K0.out _).mono ?_
      rintro e w0 ⟨rfl, rfl⟩
      obtain ⟨⟨r0, r1, r2, r3, r4⟩, _⟩ := rowN5 H.out.row
      cases b0 with
      | false =>
        go_wp2_with fail
        go_ret
        exact ⟨BoolEnd.ff (fun k => by have := K0.out.2 ⟨k.h1, k.h2⟩; cases this), H.out.old⟩
      | true =>
      go_wp2_with fail
      refine (pipes_any m pa pk la lk wa wk _ H.out.at_ h1 h2).mono ?_
      rintro e w1 ⟨⟨b1, rfl, hb1⟩, hb⟩
      have S1 := Lib.hid (H.out.below hb)
      have K1 := Lib.hid hb1
      clear hb hb1 H r0 r1 r2 r3 r4
      obtain ⟨⟨r0, r1, r2, r3, r4⟩, _⟩ := rowN5 S1.out.row
      cases b1 with
      | false =>
        go_wp2_with fail
        go_ret
        exact ⟨BoolEnd.ff (fun k => by have := K1.out.2 ⟨k.pn, k.p⟩; cases this), S1.out.old⟩
      | true =>
      go_wp2_with fail
      refine (draws_any m pa pk la lk wa wk _ S1.out.at_ h1 h2).mono ?_
      rintro e w2 ⟨⟨b2, rfl, hb2⟩, hb⟩
      have S2 := Lib.hid (S1.out.below hb)
      have K2 := Lib.hid hb2
      clear hb hb2 S1 r0 r1 r2 r3 r4
      obtain ⟨⟨r0, r1, r2, r3, r4⟩, _⟩ := rowN5 S2.out.row
      cases b2 with
      | false =>
        go_wp2_with fail
        go_ret
        exact ⟨BoolEnd.ff (fun k => by have := K2.out.2 ⟨k.wn, k.w⟩; cases this), S2.out.old⟩
      | true =>
      go_wp2_with fail
      refine (loops_any m pa pk la lk wa wk _ S2.out.at_ (K1.out.1 (by trivial)).1).mono ?_
      rintro e w3 ⟨⟨b3, rfl, hb3⟩, hb⟩
      have S3 := Lib.hid (S2.out.below hb)
      have K3 := Lib.hid hb3
      clear hb hb3 S2 r0 r1 r2 r3 r4
      cases b3 with
      | false =>
        go_wp2_with fail
        go_ret
        exact ⟨BoolEnd.ff (fun k => by have := K3.out.2 ⟨k.ln, k.l⟩; cases this), S3.out.old⟩
      | true =>
        go_wp2_with fail
        go_ret
        have k0 := K0.out.1 (by trivial)
        have k1 := K1.out.1 (by trivial)
        have k2 := K2.out.1 (by trivial)
        have k3 := K3.out.1 (by trivial)
        exact ⟨BoolEnd.tt ⟨h1, h2, k0.1, k0.2, k1.1, k1.2, k2.1, k2.2, k3.1, k3.2⟩, S3.out.old⟩
    · go_enter Tryz.func70, Tryz.ntmps70
      go_wp2_with fail
      go_ret
      exact ⟨BoolEnd.ff (fun k => by have := k.n2; omega), H.out.old⟩
  · go_enter Tryz.func70, Tryz.ntmps70
    go_wp2_with fail
    go_ret
    exact ⟨BoolEnd.ff (fun k => by have := k.n1; omega), H.out.old⟩
end Go.Proofs.YtfgmalnkpgloiaaGreatDoor
