/-
  Right notices and what is not over: the program.
-/
import Derived.Test.YtjfeipgeppegcaaNnI1
namespace Go.Proofs.Ytjfeipgeppegcaa
open Go.RowKit Go.Deep

set_option maxRecDepth 100000 in
set_option maxHeartbeats 2000000 in
theorem nnclose_any (g : Nat) (x : Ne) (w : World) (hx : NeL x w) (hs : x.an ≤ 1048576) (hg : w.rowIs g 64 1 (rowN [.func (.func 44) #[] #[]])) :
    Calls Try.prog 47 #[nnV x, .pointer (some ⟨g, 0, none⟩)] w fun e w' => e = .returned (.bool (!dB (No.NtOk x))) ∧ Below w.heap.size w w' := by
  obtain ⟨W, hW⟩ : ∃ W, W = w.alloc (.cells #[.int .i64 x.nu, .int .i64 x.st, .slice x.pa x.an x.ak, .bool x.fl] 58) := ⟨_, rfl⟩
  have HB : Hid (Below w.heap.size w W) := by show Below _ _ _; rw [hW]; exact nbel_alloc _ _
  have g1 : w.cell? ⟨g, 0, none⟩ = some (.func (.func 44) #[] #[]) := hg.cell (i := 0) (by omega)
  have g2 : g < w.heap.size := hg.lt
  have HR : Hid (W.rowIs w.heap.size 58 4 (rowN [.int .i64 x.nu, .int .i64 x.st, .slice x.pa x.an x.ak, .bool x.fl])) := by show W.rowIs _ _ _ _; rw [hW]; exact rowN_alloc w _ _
  have HX := Lib.hid (hx.below HB.out)
  have HW := Lib.hid hW
  clear hW hg hx
  go_enter Try.func47, Try.ntmps47
  go_wp2_with fail
  rw [← HW.out]
  clear HW
  refine (noticeRight_any x _ HX.out hs).mono ?_
  rintro e w1 ⟨rfl, hb⟩
  have HB1 : Hid (Below w.heap.size w w1) := HB.out.trans (hb.mono HB.out.size)
  clear hb
  by_cases c : No.NtOk x
  · have HE := Lib.hid (dB_tt c)
    rw [dB_tt c]
    clear c
    go_wp2_with fail
    go_ret
    exact ⟨by rw [HE.out]; rfl, HB1.out⟩
  · have HE := Lib.hid (dB_ff c)
    rw [dB_ff c]
    clear c
    go_wp2_with fail
    go_ret
    exact ⟨by rw [HE.out]; rfl, HB1.out⟩
set_option maxRecDepth 100000 in
set_option maxHeartbeats 2000000 in
theorem nnindex_any (la : Option Addr) (n lk g : Nat) (bs : Nat → Ne) (w : World) (h : NnsAt la n bs w) (hn : NSm n bs) (hg : w.rowIs g 64 1 (rowN [.func (.func 44) #[] #[]])) :
    Calls Try.prog 50 #[.slice la n lk, .func (.func 47) #[] #[.pointer (some ⟨g, 0, none⟩)]] w fun e w' => (∃ z : Int, e = .returned (.int .i64 z) ∧ (0 ≤ z ↔ ¬ No.NtsOk n bs)) ∧ Below w.heap.size w w' := by
  have H := Lib.hid h
  have HG := Lib.hid hg
  have hs := hn.1
  have HN := Lib.hid hn
  clear h hg hn
  go_enter Try.func50, Try.ntmps50
  go_wp2_with fail
  go_loopw [5, 8] (fun _ iv wr => ∃ (i : Nat), i ≤ n ∧ iv = .int .i64 i ∧ Hid (Below w.heap.size w wr) ∧ Hid (No.NtsOk i bs)) (fun _ iv _ => n - (intOf iv).toNat)
  case atStart => exact ⟨0, Nat.zero_le _, rfl, Below.refl _ _, fun j hj => absurd hj (Nat.not_lt_zero _)⟩
  case round =>
    obtain ⟨i, hi, rfl, hB, hP⟩ := hrel
    by_cases hlt : i < n
    · have hltz : (i : Int) < (n : Int) := by omega
      obtain ⟨b, rfl, ⟨c0, c1, c2, c3⟩, hat⟩ := (H.out.below hB.out).at_ hlt
      have HAT := Lib.hid hat
      clear hat
      go_wp2_with fail
      refine (nnclose_any g (bs i) _ HAT.out (HN.out.2.2 i hlt) (nrow_below HG.out hB.out)).mono ?_
      rintro e w1 ⟨rfl, hb⟩
      have HB1 : Hid (Below w.heap.size w w1) := hB.out.trans (hb.mono hB.out.size)
      clear hb c0 c1 c2 c3
      by_cases c : No.NtOk (bs i)
      · rw [dB_tt c]
        have HC := Lib.hid c
        clear c
        go_wp2_with fail
        go_roundw
        case rel => exact ⟨i + 1, by omega, by go_num, HB1, fun j hj => by
          by_cases e : j = i
          · subst e; exact HC.out
          · exact hP.out j (by omega)⟩
        case measure => simp [intOf]; omega
      · rw [dB_ff c]
        have HC : Hid (¬ No.NtsOk n bs) := fun x => c (x i hlt)
        clear c
        go_wp2_with fail
        go_ret
        exact ⟨⟨_, rfl, ⟨fun _ => HC.out, fun _ => by omega⟩⟩, HB1.out⟩
    · obtain rfl : i = n := by omega
      go_wp2_with fail
      go_ret
      exact ⟨⟨_, rfl, ⟨fun x => absurd x (by omega), fun x => absurd hP.out x⟩⟩, hB.out⟩
set_option maxRecDepth 100000 in
set_option maxHeartbeats 2000000 in
theorem nncontains_any (la : Option Addr) (n lk g : Nat) (bs : Nat → Ne) (w : World) (h : NnsAt la n bs w) (hn : NSm n bs) (hg : w.rowIs g 64 1 (rowN [.func (.func 44) #[] #[]])) :
    Calls Try.prog 46 #[.slice la n lk, .func (.func 47) #[] #[.pointer (some ⟨g, 0, none⟩)]] w fun e w' => e = .returned (.bool (dB (¬ No.NtsOk n bs))) ∧ Below w.heap.size w w' := by
  have H := Lib.hid h
  have HG := Lib.hid hg
  clear h hg
  go_enter Try.func46, Try.ntmps46
  go_wp2_with fail
  refine (nnindex_any la n lk g bs _ H.out hn HG.out).mono ?_
  rintro e w1 ⟨⟨z, rfl, hz⟩, hb⟩
  have HB := Lib.hid hb
  have HZ := Lib.hid hz
  clear hb hz
  by_cases c : 0 ≤ z
  · have HE := Lib.hid (dB_tt (HZ.out.1 c))
    go_wp2_with fail
    go_ret
    exact ⟨by rw [HE.out]; simp <;> omega, HB.out⟩
  · have HE := Lib.hid (dB_ff (fun x => c (HZ.out.2 x)))
    go_wp2_with fail
    go_ret
    exact ⟨by rw [HE.out]; simp <;> omega, HB.out⟩
set_option maxRecDepth 100000 in
set_option maxHeartbeats 2000000 in
theorem nnall_any (la : Option Addr) (n lk : Nat) (bs : Nat → Ne) (w : World) (h : NnsAt la n bs w) (hn : NSm n bs) :
    Calls Try.prog 43 #[.slice la n lk, .func (.func 44) #[] #[]] w fun e w' => e = .returned (.bool (dB (No.NtsOk n bs))) ∧ Below w.heap.size w w' := by
  have hmf : ∀ (fn : Fn) (first cap : Array Value) (w : World), (Instr.makeFunc fn first cap).run Try.prog w = .ok (.func fn first cap) w := fun _ _ _ _ => rfl
  obtain ⟨W, hW⟩ : ∃ W, W = w.alloc (.cells #[.func (.func 44) #[] #[]] 64) := ⟨_, rfl⟩
  have R1 : Hid (W.rowIs w.heap.size 64 1 (rowN [.func (.func 44) #[] #[]])) := by show World.rowIs _ _ _ _ _; rw [hW]; exact rowN_alloc w _ _
  have HB : Hid (Below w.heap.size w W) := by show Below _ _ _; rw [hW]; exact nbel_alloc _ _
  have H := Lib.hid (h.below HB.out)
  have HW := Lib.hid hW
  clear hW h
  go_enter Try.func43, Try.ntmps43
  go_wp2_with fail
  rw [← HW.out]
  clear HW
  refine (nncontains_any la n lk w.heap.size bs _ H.out hn R1.out).mono ?_
  rintro e w1 ⟨rfl, hb⟩
  have HB1 : Hid (Below w.heap.size w w1) := HB.out.trans (hb.mono HB.out.size)
  clear hb
  by_cases c : No.NtsOk n bs
  · have HE := Lib.hid (dB_tt c)
    rw [dB_ff (fun x => x c)]
    clear c
    go_wp2_with fail
    go_ret
    exact ⟨by rw [HE.out]; rfl, HB1.out⟩
  · have HE := Lib.hid (dB_ff c)
    rw [dB_tt c]
    clear c
    go_wp2_with fail
    go_ret
    exact ⟨by rw [HE.out]; rfl, HB1.out⟩
set_option maxRecDepth 100000 in
set_option maxHeartbeats 2000000 in
theorem noticesRight_any (la : Option Addr) (n lk : Nat) (bs : Nat → Ne) (w : World) (h : NnsAt la n bs w) (hn : NSm n bs) :
    Calls Try.prog 35 #[.slice la n lk] w fun e w' => e = .returned (.bool (dB (No.NtRight n bs))) ∧ Below w.heap.size w w' := by
  have H := Lib.hid h
  have hs := hn.1
  clear h
  by_cases hbig : 400 < n
  · have HE := Lib.hid (dB_ff (show ¬ No.NtRight n bs from fun k => by have := k.1; omega))
    have h1 : ¬ (n : Int) ≤ 400 := by omega
    clear hbig
    go_enter Try.func35, Try.ntmps35
    go_wp2_with fail
    go_ret
    exact ⟨by rw [HE.out]; rfl, Below.refl _ _⟩
  have h1 : (n : Int) ≤ 400 := by omega
  have HN : Hid (n ≤ 400) := by show n ≤ 400; omega
  go_enter Try.func35, Try.ntmps35
  go_wp2_with fail
  refine (nnall_any la n lk bs _ H.out hn).mono ?_
  rintro e w1 ⟨rfl, hb⟩
  have HB := Lib.hid hb
  clear hb
  by_cases c : No.NtsOk n bs
  · have HE := Lib.hid (dB_tt (show No.NtRight n bs from ⟨HN.out, c⟩))
    rw [dB_tt c]
    clear c
    go_wp2_with fail
    go_ret
    exact ⟨by rw [HE.out]; rfl, HB.out⟩
  · have HE := Lib.hid (dB_ff (show ¬ No.NtRight n bs from fun k => c k.2))
    rw [dB_ff c]
    clear c
    go_wp2_with fail
    go_ret
    exact ⟨by rw [HE.out]; rfl, HB.out⟩
/-- What stands while the marks of incidents are set. -/
structure OpS (g : Nat) (u : Nat → Bool) (w W : World) : Prop where
  bo : BoBlk g 100 u W
  lo : w.heap.size ≤ g
  old : Below w.heap.size w W
theorem OpS.put {g : Nat} {u : Nat → Bool} {w W : World} (h : OpS g u w W) (x : Obj) (m : Nat) (b : Bool) : OpS g (fun j => if j = m then b else u j) w ((W.setCell ⟨g, m, none⟩ (.bool b)).alloc x) :=
  ⟨(h.bo.set m b).below (nbel_alloc _ _), h.lo, (h.old.setCell (p := ⟨g, m, none⟩) h.lo _).alloc (by simpa using h.old.size) x⟩
theorem bool_make2 (P : Program) (w : World) (h : ∀ w : World, (Instr.makeSlice 51 (.int .i64 ((100 : Nat) : Int)) (.int .i64 ((100 : Nat) : Int))).run P w = .ok (.slice (some ⟨w.heap.size, 0, none⟩) 100 100) (w.alloc (.cells (madeCells #[.bool false] 100) 4))) :
    (Instr.makeSlice 51 (.int .i64 100) (.int .i64 100)).run P w = .ok (.slice (some ⟨w.heap.size, 0, none⟩) 100 100) (w.alloc (.cells (madeCells #[.bool false] 100) 4)) := h w
set_option maxRecDepth 100000 in
set_option maxHeartbeats 8000000 in
theorem implOpen_any (la : Option Addr) (n lk : Nat) (bs : Nat → Ne) (w : World) (h : NnsAt la n bs w) (hn : NSm n bs) :
    Calls Try.prog 20 #[.slice la n lk] w fun e w' => NlEnd (No.opens n bs) w e w' ∧ Below w.heap.size w w' := by
  have H := Lib.hid h
  have hs := hn.1
  have hmk := fun w => bool_make2 Try.prog w (run_make_row' (P := Try.prog) 51 4 (.bool false) 1 Try.underlying51 boinfo rfl .i64 .i64 100 (by omega) (by omega))
  have HMK := Lib.hid hmk
  clear h hmk
  go_enter Try.func20, Try.ntmps20
  go_wp2_with fail
  refine (noticesRight_any la n lk bs _ H.out hn).mono ?_
  rintro e w1 ⟨rfl, hb⟩
  have HB1 := Lib.hid hb
  clear hb hn
  by_cases c : No.NtRight n bs
  case neg =>
    have HE := Lib.hid (No.opens_no c)
    rw [dB_ff c]
    clear c
    go_wp2_with fail
    go_ret
    exact ⟨by rw [HE.out]; exact NlEnd.nil, HB1.out⟩
  have HE := Lib.hid (No.opens_yes c)
  have HR := Lib.hid c
  rw [dB_tt c]
  clear c
  have hmk := HMK.out
  obtain ⟨U, hU⟩ : ∃ U, U = No.uo (fun i => (bs i).nu) (fun i => (bs i).st) (fun i => (bs i).fl) := ⟨_, rfl⟩
  have HU := Lib.hid hU
  obtain ⟨V, hV⟩ : ∃ V, V = w1.alloc (.cells (madeCells #[.bool false] 100) 4) := ⟨_, rfl⟩
  obtain ⟨g, hg⟩ : ∃ g, g = w1.heap.size := ⟨_, rfl⟩
  have S0 : Hid (OpS g (U 0) w V) := by
    show OpS _ _ _ _
    rw [hV, hg]
    refine ⟨?_, HB1.out.size, HB1.out.alloc HB1.out.size _⟩
    have e : U 0 = fun _ => false := funext (fun j => by rw [hU]; exact No.uo_zero _ _ _ j)
    rw [e]
    exact World.rowIs_made w1 (.bool false) 100 4
  have HV := Lib.hid hV
  have HG := Lib.hid hg
  clear hV hg hU
  go_wp2_with fail
  rw [← HV.out, ← HG.out]
  clear hmk HV HG HMK
  go_loopw [5, 12] (fun _ iv wr => ∃ (i : Nat), i ≤ n ∧ iv = .int .i64 i ∧ Hid (OpS g (U i) w wr)) (fun _ iv _ => n - (intOf iv).toNat)
  case atStart => exact ⟨0, Nat.zero_le _, rfl, S0⟩
  case round =>
    obtain ⟨i, hi, rfl, hS⟩ := hrel
    clear S0
    by_cases hlt : i < n
    · have hltz : (i : Int) < (n : Int) := by omega
      obtain ⟨b, e, ⟨c0, c1, c2, c3⟩, _⟩ := (H.out.below hS.out.old).at_ hlt
      subst e
      have hok := HR.out.2 i hlt
      have HF : Hid (∃ (m : Nat) (v : Bool), (bs i).nu = (m : Int) ∧ m < 100 ∧ v = ((bs i).st != 0) ∧ (fun j => if j = m then v else U i j) = U (i + 1)) := by
        show ∃ _, _
        rw [HU.out]
        cases hfl : (bs i).fl with
        | true =>
          obtain ⟨q1, q2, _⟩ := hok.1 hfl
          exact ⟨0, false, by simpa using q1, by omega, by rw [q2]; rfl, No.uo_flush (fl := fun i => (bs i).fl) hfl⟩
        | false =>
          obtain ⟨⟨q1, q2⟩, _⟩ := hok.2 hfl
          exact ⟨(bs i).nu.toNat, _, by omega, by omega, rfl, No.uo_put (nu := fun i => (bs i).nu) (st := fun i => (bs i).st) (fl := fun i => (bs i).fl) hfl (by show (bs i).nu = _; omega) (by omega)⟩
      obtain ⟨m, v, hm, hm2, hv, hput⟩ := HF.out
      have HPT := Lib.hid hput
      clear hok HF hput
      have hm3 : (m : Int) < 100 := by omega
      obtain ⟨st, hst⟩ : ∃ st, st = (bs i).st := ⟨_, rfl⟩
      rw [← hst] at c1 hv
      rw [hm] at c0
      obtain ⟨fl, hfl⟩ : ∃ fl, fl = (bs i).fl := ⟨_, rfl⟩
      rw [← hfl] at c3
      obtain ⟨pa, hpa⟩ : ∃ pa, pa = (bs i).pa := ⟨_, rfl⟩
      obtain ⟨an, han⟩ : ∃ an, an = (bs i).an := ⟨_, rfl⟩
      obtain ⟨ak, hak⟩ : ∃ ak, ak = (bs i).ak := ⟨_, rfl⟩
      rw [← hpa, ← han, ← hak] at c2
      have HS2 : Hid (∀ x, OpS g (U (i + 1)) w ((wr.setCell ⟨g, m, none⟩ (.bool (st != 0))).alloc x)) := fun x => by
        have := hS.out.put x m v
        rw [HPT.out, hv] at this
        exact this
      have y1 : wr.cell? ⟨g, m, none⟩ = some (.bool (U i m)) := hS.out.bo.at_ hm2
      have z1 : wr.frozen? ⟨g, m, none⟩ = false := hS.out.bo.fr m
      have hgl : g < wr.heap.size := hS.out.bo.lt'
      clear hS hm hst hfl hpa han hak hv HPT
      go_wp2_with fail
      go_roundw
      case rel => exact ⟨i + 1, by omega, by go_num, HS2.out _⟩
      case measure => simp [intOf]; omega
    · obtain rfl : i = n := by omega
      go_wp2_with fail
      refine (marked_any g 100 100 (U i) _ hS.out.bo (by omega)).mono ?_
      rintro e w2 ⟨⟨v, rfl, ho⟩, hb⟩
      have HB2 : Hid (Below w.heap.size w w2) := hS.out.old.trans (hb.mono hS.out.old.size)
      have HO : Hid (NlEnd (No.opens i bs) w (.returned v) w2) := by
        show NlEnd _ _ _ _
        rw [HE.out, ← HU.out]
        exact NlEnd.of hS.out.old.size ho
      clear ho hb hS
      go_wp2_with fail
      go_ret
      exact ⟨HO.out, HB2.out⟩
end Go.Proofs.Ytjfeipgeppegcaa
