/-
  Dry places by a search over a layout: mathematics; right sets of rows.
-/
import Derived.Test.YtipmjobhegpdgaaGreatDoorPlB2
import Derived.Test.YtipmjobhegpdgaaGreatDoorPlY1
namespace Go.Proofs.YtipmjobhegpdgaaGreatDoor
open Go Go.RowKit Go.Deep

namespace Pl
/-- The places that are dry, rising. -/
noncomputable def dryL (p : Plan) (sh : Nat → Prop) : List Nat := (List.range p.hn).filter fun v => dB (¬ Wet p sh v)
/-- A plan and a set of rows that may be asked for. -/
structure AskOk (p : Plan) (N : Nat) (f : Nat → Int) : Prop where
  n : N ≤ 400
  right : Right p
  set : SetOk p N f
noncomputable def dry (p : Plan) (N : Nat) (f : Nat → Int) : List Nat := if dB (AskOk p N f) = true then dryL p (In N f) else []
noncomputable def sumH (p : Plan) (l : List Nat) : Int := (l.map p.H).sum
noncomputable def homes (p : Plan) (N : Nat) (f : Nat → Int) : Int := sumH p (dry p N f)
def ShutOk (p : Plan) (place : Int) (N : Nat) (f : Nat → Int) : Prop := AskOk p N f ∧ ∃ v : Nat, place = (v : Int) ∧ v < p.hn ∧ ¬ Wet p (In N f) v
theorem key_iff {p : Plan} (h : Right p) {i : Nat} (hi : i < p.rn) (a b : Nat) : key p i = (lo a b, Pl.hi a b) ↔ (p.from_ i = a ∧ p.to_ i = b) ∨ (p.from_ i = b ∧ p.to_ i = a) := by
  unfold key
  rw [h.from_eq hi, h.to_eq hi]
  have hne := h.ne hi
  unfold lo Pl.hi
  simp only [Prod.mk.injEq]
  constructor
  · rintro ⟨h1, h2⟩
    by_cases e1 : (p.from_ i : Int) ≤ (p.to_ i : Int)
    · rw [if_pos e1] at h1 h2
      by_cases e2 : (a : Int) ≤ (b : Int)
      · rw [if_pos e2] at h1 h2; left; omega
      · rw [if_neg e2] at h1 h2; right; omega
    · rw [if_neg e1] at h1 h2
      by_cases e2 : (a : Int) ≤ (b : Int)
      · rw [if_pos e2] at h1 h2; right; omega
      · rw [if_neg e2] at h1 h2; left; omega
  · rintro (⟨h1, h2⟩ | ⟨h1, h2⟩)
    · rw [h1, h2]; exact ⟨rfl, rfl⟩
    · rw [h1, h2]
      by_cases e2 : (a : Int) ≤ (b : Int)
      · by_cases e3 : (b : Int) ≤ (a : Int)
        · rw [if_pos e2, if_pos e3, if_pos e2, if_pos e3]; omega
        · rw [if_pos e2, if_neg e3, if_pos e2, if_neg e3]; exact ⟨rfl, rfl⟩
      · rw [if_neg e2, if_pos (by omega), if_neg e2, if_pos (by omega)]; exact ⟨rfl, rfl⟩
end Pl
theorem lay_keys {p : Pl.Plan} {sh : Nat → Prop} {k b cnt : Nat} {kf : Nat → Int × Int} {gv : Nat → Value} {B : Nat} {W : World} (h : LayS p sh k b cnt kf gv B W) (hr : Pl.Right p) (hk : k ≤ p.rn) : KeysOk cnt kf p.hn := fun j hj => by
  obtain ⟨i, hi, _, e⟩ := h.each j hj
  have h1 := hr.rows i (by omega)
  rw [e]
  show 0 ≤ Pl.lo _ _ ∧ Pl.lo _ _ < Pl.hi _ _ ∧ Pl.hi _ _ < _
  unfold Pl.lo Pl.hi
  have h2 := h1.1
  have h3 := h1.2.1
  have h4 := h1.2.2.1
  split <;> omega
theorem lay_room {p : Pl.Plan} {sh : Nat → Prop} {b cnt : Nat} {kf : Nat → Int × Int} {gv : Nat → Value} {B : Nat} {W : World} (h : LayS p sh p.rn b cnt kf gv B W) (a c : Nat) :
    RoomR cnt kf (fun j => (Pl.goodL p sh p.rn (kf j)).length) (fun j => Pl.heldB p sh p.rn (kf j)) (fun _ => 0) a c ↔ ∃ i, i < p.rn ∧ ¬ sh i ∧ Pl.key p i = (Pl.lo a c, Pl.hi a c) := by
  constructor
  · rintro ⟨j, hj, e, _⟩
    obtain ⟨i, hi, hs, e2⟩ := h.each j hj
    exact ⟨i, hi, hs, e2.symm.trans e⟩
  · rintro ⟨i, hi, hs, e⟩
    obtain ⟨j, hj, e2⟩ := h.all i hi hs
    refine ⟨j, hj, e2.trans e, ?_⟩
    by_cases g : Pl.gd p i
    · right
      have : i ∈ Pl.goodL p sh p.rn (kf j) := by
        unfold Pl.goodL
        exact List.mem_filter.2 ⟨List.mem_range.2 hi, dB_tt ⟨hs, e2.symm, g⟩⟩
      have h1 := List.length_pos_of_mem this
      show dirF a c 0 < ((Pl.goodL p sh p.rn (kf j)).length : Int)
      unfold dirF
      split <;> omega
    · left
      exact dB_tt ⟨i, hi, hs, e2.symm, g⟩
theorem lay_roomS {p : Pl.Plan} {sh : Nat → Prop} {k b cnt : Nat} {kf : Nat → Int × Int} {gv : Nat → Value} {B : Nat} {W : World} (h : LayS p sh k b cnt kf gv B W) : RoomS b cnt kf (fun j => (Pl.goodL p sh k (kf j)).length) (fun j => Pl.heldB p sh k (kf j)) (fun _ => 0) W := by
  have each : ∀ j, ∃ x : Option Addr × Nat, j < cnt → gv j = .slice x.1 (Pl.goodL p sh k (kf j)).length x.2 := fun j => by
    by_cases hj : j < cnt
    · rcases (h.own j hj).2 with ⟨h1, h2⟩ | ⟨g, c, cur, h1, _⟩
      · exact ⟨(none, 0), fun _ => by rw [h1, h2]⟩
      · exact ⟨(_, _), fun _ => h1⟩
    · exact ⟨(none, 0), fun x => absurd x hj⟩
  obtain ⟨x, hx⟩ := Classical.axiomOfChoice each
  exact ⟨fun j => (x j).1, fun j => (x j).2, h.map.congr (fun _ _ => rfl) (fun j hj => by rw [hx j hj])⟩
theorem found_wet {p : Pl.Plan} (hr : Pl.Right p) {sh : Nat → Prop} {R : Nat → Nat → Prop} (hR : ∀ a c, R a c ↔ ∃ i, i < p.rn ∧ ¬ sh i ∧ Pl.key p i = (Pl.lo a c, Pl.hi a c)) {nx : Nat → Int} (h : Found p.hn (fun v => Pl.Has p.sn p.S (v : Int)) R nx) {v : Nat} (hv : v < p.hn) : nx v ≠ -1 ↔ Pl.Wet p sh v := by
  constructor
  · refine h.sub (A := fun v => Pl.Wet p sh v) (fun v hv ⟨i, hi, e⟩ => ?_) (fun a c ha hc hRa hw => ?_) v hv
    · have : v = (p.S i).toNat := by omega
      rw [this]; exact .src i hi
    · obtain ⟨i, hi, hs, e⟩ := (hR a c).1 hRa
      rcases (Pl.key_iff hr hi a c).1 e with ⟨h1, h2⟩ | ⟨h1, h2⟩
      · rw [← h1]; exact .bwd i hi hs (by rw [h2]; exact hw)
      · rw [← h2]; exact .fwd i hi hs (by rw [h1]; exact hw)
  · intro hw
    have key : v < p.hn → nx v ≠ -1 := by
      refine Pl.Wet.sub (A := fun v => v < p.hn → nx v ≠ -1) (fun i hi hlt => ?_) (fun i hi hs => ⟨fun hA _ => ?_, fun hA _ => ?_⟩) hw
      · have h1 := hr.s i hi
        rw [h.goals _ hlt ⟨i, hi, by omega⟩]
        omega
      · exact h.shut _ _ (hr.to_lt hi) (hr.from_lt hi) (hA (hr.from_lt hi)) ((hR _ _).2 ⟨i, hi, hs, (Pl.key_iff hr hi _ _).2 (Or.inr ⟨rfl, rfl⟩)⟩)
      · exact h.shut _ _ (hr.from_lt hi) (hr.to_lt hi) (hA (hr.to_lt hi)) ((hR _ _).2 ⟨i, hi, hs, (Pl.key_iff hr hi _ _).2 (Or.inl ⟨rfl, rfl⟩)⟩)
    exact key hv
set_option maxRecDepth 100000 in
set_option maxHeartbeats 1000000 in
theorem psetc_any (n : Pl.Plan) (la : Option Addr) (lk : Nat) (g r : Nat) (w : World) (h : IsAt la (n.rn * 3) n.R w) (hr : r < n.rn) (hc : w.cell? ⟨g, 0, none⟩ = some (.slice la n.rn lk)) :
    Calls Tryz.prog 76 #[.int .i64 (r : Nat), .pointer (some ⟨g, 0, none⟩)] w fun e w' => e = .returned (.bool (dB (¬ Pl.gd n r))) ∧ w' = w := by
  obtain ⟨b, e, c0, c1, c2⟩ := h.at3 hr
  subst e
  have hrz : (r : Int) < (n.rn : Int) := by omega
  by_cases hg : Pl.gd n r
  · rw [dB_ff (fun x => x hg)]
    have e5 : (n.R (r * 3 + 2) != 1) = false := by unfold Pl.gd at hg; simp [hg]
    clear hg h
    go_enter Tryz.func76, Tryz.ntmps76
    go_wp2_with fail
    go_ret
    exact ⟨by simp, rfl⟩
  · rw [dB_tt hg]
    have e5 : (n.R (r * 3 + 2) != 1) = true := by unfold Pl.gd at hg; simp [hg]
    clear hg h
    go_enter Tryz.func76, Tryz.ntmps76
    go_wp2_with fail
    go_ret
    exact ⟨by simp, rfl⟩
set_option maxRecDepth 100000 in
set_option maxHeartbeats 1000000 in
theorem psetidx_any (n : Pl.Plan) (la : Option Addr) (lk : Nat) (a : Option Addr) (m cap : Nat) (f : Nat → Int) (g : Nat) (w : World) (h : IsAt la (n.rn * 3) n.R w) (hl : IsAt a m f w) (hm : m ≤ 1048576) (hI : ∀ k, k < m → 0 ≤ f k ∧ f k < n.rn) (hc : w.cell? ⟨g, 0, none⟩ = some (.slice la n.rn lk)) :
    Calls Tryz.prog 90 #[.slice a m cap, .func (.func 76) #[] #[.pointer (some ⟨g, 0, none⟩)]] w fun e w' => (∃ z : Int, e = .returned (.int .i64 z) ∧ (0 ≤ z ↔ ¬ ∀ i, i < m → Pl.gd n (f i).toNat)) ∧ w' = w := by
  have H := Lib.hid h
  have HL := Lib.hid hl
  have HI := Lib.hid hI
  have HC := Lib.hid hc
  clear h hl hI hc
  go_enter Tryz.func90, Tryz.ntmps90
  go_wp2_with fail
  go_loopw [5, 8] (fun _ iv wr => ∃ (i : Nat), i ≤ m ∧ iv = .int .i64 i ∧ wr = w ∧ Hid (∀ j, j < i → Pl.gd n (f j).toNat)) (fun _ iv _ => m - (intOf iv).toNat)
  case atStart => exact ⟨0, Nat.zero_le _, rfl, rfl, fun j hj => absurd hj (Nat.not_lt_zero _)⟩
  case round =>
    obtain ⟨i, hi, rfl, rfl, hP⟩ := hrel
    by_cases hlt : i < m
    · have hltz : (i : Int) < (m : Int) := by omega
      obtain ⟨b, e, c0⟩ := HL.out.at1 hlt
      subst e
      have h1 := HI.out i hlt
      obtain ⟨r, hr⟩ : ∃ r : Nat, f i = (r : Int) := ⟨(f i).toNat, by omega⟩
      have hrl : r < n.rn := by omega
      rw [hr] at c0
      have HRR : Hid ((f i).toNat = r) := by show (f i).toNat = r; omega
      clear h1 hr
      go_wp2_with fail
      refine (psetc_any n la lk g r _ H.out hrl HC.out).mono ?_
      rintro e w1 ⟨rfl, rfl⟩
      by_cases c : Pl.gd n r
      · rw [dB_ff (fun x => x c)]
        have HCC := Lib.hid c
        clear c
        go_wp2_with fail
        go_roundw
        case rel => exact ⟨i + 1, by omega, by go_num, by trivial, fun j hj => by
          by_cases e : j = i
          · subst e; rw [HRR.out]; exact HCC.out
          · exact hP.out j (by omega)⟩
        case measure => simp [intOf]; omega
      · rw [dB_tt c]
        have HCC : Hid (¬ ∀ i, i < m → Pl.gd n (f i).toNat) := fun x => c (by have := x i hlt; rw [HRR.out] at this; exact this)
        clear c
        go_wp2_with fail
        go_ret
        exact ⟨⟨_, rfl, ⟨fun _ => HCC.out, fun _ => by omega⟩⟩, rfl⟩
    · obtain rfl : i = m := by omega
      go_wp2_with fail
      go_ret
      exact ⟨⟨_, rfl, ⟨fun x => absurd x (by omega), fun x => absurd hP.out x⟩⟩, rfl⟩
set_option maxRecDepth 100000 in
set_option maxHeartbeats 1000000 in
theorem psetcon_any (n : Pl.Plan) (la : Option Addr) (lk : Nat) (a : Option Addr) (m cap : Nat) (f : Nat → Int) (g : Nat) (w : World) (h : IsAt la (n.rn * 3) n.R w) (hl : IsAt a m f w) (hm : m ≤ 1048576) (hI : ∀ k, k < m → 0 ≤ f k ∧ f k < n.rn) (hc : w.cell? ⟨g, 0, none⟩ = some (.slice la n.rn lk)) :
    Calls Tryz.prog 75 #[.slice a m cap, .func (.func 76) #[] #[.pointer (some ⟨g, 0, none⟩)]] w fun e w' => e = .returned (.bool (dB (¬ ∀ i, i < m → Pl.gd n (f i).toNat))) ∧ w' = w := by
  go_enter Tryz.func75, Tryz.ntmps75
  go_wp2_with fail
  refine (psetidx_any n la lk a m cap f g _ h hl hm hI hc).mono ?_
  rintro e w1 ⟨⟨z, rfl, hz⟩, rfl⟩
  have HZ := Lib.hid hz
  clear hz h hl hI hc
  by_cases c : 0 ≤ z
  · have HE := Lib.hid (dB_tt (HZ.out.1 c))
    go_wp2_with fail
    go_ret
    exact ⟨by rw [HE.out]; simp <;> omega, rfl⟩
  · have HE := Lib.hid (dB_ff (fun x => c (HZ.out.2 x)))
    go_wp2_with fail
    go_ret
    exact ⟨by rw [HE.out]; simp <;> omega, rfl⟩
set_option maxRecDepth 100000 in
set_option maxHeartbeats 1000000 in
theorem psetRight_any (n : Pl.Plan) (la : Option Addr) (lk : Nat) (a : Option Addr) (m cap : Nat) (f : Nat → Int) (w : World) (h : IsAt la (n.rn * 3) n.R w) (hl : IsAt a m f w) (hm : m ≤ 1048576) (hrn : n.rn ≤ 1048576) :
    Calls Tryz.prog 49 #[.slice la n.rn lk, .slice a m cap] w fun e w' => e = .returned (.bool (dB (Pl.SetOk n m f))) ∧ Below w.heap.size w w' := by
  obtain ⟨W, hW⟩ : ∃ W, W = w.alloc (.cells #[.slice la n.rn lk] 30) := ⟨_, rfl⟩
  have hb : Below w.heap.size w W := by rw [hW]; exact nbel_alloc _ _
  have hcW : W.cell? ⟨w.heap.size, 0, none⟩ = some (.slice la n.rn lk) := by rw [hW]; exact (rowN_alloc w [.slice la n.rn lk] _).cell (i := 0) (by simp)
  have HW := Lib.hid hW
  have HB := Lib.hid hb
  have HC := Lib.hid hcW
  have H := Lib.hid (h.below hb)
  have HL := Lib.hid (hl.below hb)
  clear h hl hW hb hcW
  go_enter Tryz.func49, Tryz.ntmps49
  go_wp2_with fail
  rw [← HW.out]
  refine (prising_any a m cap f n.rn _ HL.out hm hrn).mono ?_
  rintro e w1 ⟨rfl, rfl⟩
  have c0 := HC.out
  by_cases c : Pl.Rising m f n.rn
  case neg =>
    rw [dB_ff c]
    have HE := Lib.hid (dB_ff (fun x : Pl.SetOk n m f => c x.rise))
    clear c
    go_wp2_with fail
    go_ret
    exact ⟨by rw [HE.out]; rfl, HB.out⟩
  rw [dB_tt c]
  have HCR := Lib.hid c
  clear c
  go_wp2_with fail
  refine (psetcon_any n la lk a m cap f _ _ H.out HL.out hm (fun k hk => (HCR.out k hk).1) HC.out).mono ?_
  rintro e w2 ⟨rfl, rfl⟩
  by_cases c2 : ∀ i, i < m → Pl.gd n (f i).toNat
  · rw [dB_ff (fun x => x c2)]
    have HE := Lib.hid (dB_tt (show Pl.SetOk n m f from ⟨HCR.out, c2⟩))
    clear c2
    go_wp2_with fail
    go_ret
    exact ⟨by rw [HE.out]; rfl, HB.out⟩
  · rw [dB_tt c2]
    have HE := Lib.hid (dB_ff (fun x : Pl.SetOk n m f => c2 x.good))
    clear c2
    go_wp2_with fail
    go_ret
    exact ⟨by rw [HE.out]; rfl, HB.out⟩
end Go.Proofs.YtipmjobhegpdgaaGreatDoor
