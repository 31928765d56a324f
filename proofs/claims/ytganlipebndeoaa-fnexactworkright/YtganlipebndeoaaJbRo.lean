/-
  Rosters of given starts: the program's; and what the model asks of two jobs.
-/
import Derived.Test.YtganlipebndeoaaJbCl2
import Derived.Test.YtganlipebndeoaaJbI1
import Derived.Test.YtganlipebndeoaaAw
namespace Go.Proofs.Ytganlipebndeoaa
open Go.RowKit Go.Deep

/-- Right starts. -/
def Jb.StOk (n : Nat) (s : Nat → Int) : Prop := ∀ i, i < n → 0 ≤ s i ∧ s i ≤ 2000
/-- Right jobs and as many right starts. -/
def Jb.RosOk (m : Nat) (bs : Nat → Je) (n : Nat) (s : Nat → Int) : Prop := JRight m bs ∧ n = m ∧ Jb.StOk n s
theorem Jb.RosOk.bnd {m : Nat} {bs : Nat → Je} {n : Nat} {s : Nat → Int} (h : Jb.RosOk m bs n s) : Jb.Bnd m bs s 1000000 := fun j hj => by
  have h1 := h.2.2 j (by have := h.2.1; omega)
  have h2 := (h.1.2 j hj).d
  omega
/-- The first shifts of a roster are there. -/
def ShP (g m i : Nat) (bs : Nat → Je) (s : Nat → Int) (W : World) : Prop := ∃ F, W.rowIs g 56 (m * 5) F ∧ ∀ j, j < i → F (j * 5) = .int .i64 (bs j).dy ∧ F (j * 5 + 1) = .int .i64 (bs j).cw ∧ F (j * 5 + 2) = .slice (bs j).pa (bs j).an (bs j).ak ∧ F (j * 5 + 3) = .slice (bs j).pr (bs j).rn (bs j).rk ∧ F (j * 5 + 4) = .int .i64 (s j)
theorem ShP.block {g m i : Nat} {bs : Nat → Je} {s : Nat → Int} {W W' : World} (h : ShP g m i bs s W) (e : W'.heap[g]? = W.heap[g]?) : ShP g m i bs s W' := by obtain ⟨F, h1, h2⟩ := h; exact ⟨F, h1.of_block e, h2⟩
theorem ShP.lt {g m i : Nat} {bs : Nat → Je} {s : Nat → Int} {W : World} (h : ShP g m i bs s W) : g < W.heap.size := by obtain ⟨F, h1, _⟩ := h; exact h1.lt
theorem ShP.at_ {g m : Nat} {bs : Nat → Je} {s : Nat → Int} {W : World} (h : ShP g m m bs s W) : ShAt (some ⟨g, 0, none⟩) m bs s W := by
  obtain ⟨F, h1, h2⟩ := h
  refine Or.inr ⟨g, rfl, fun i hi => ?_⟩
  obtain ⟨e0, e1, e2, e3, e4⟩ := h2 i hi
  exact ⟨(h1.cell (i := i * 5) (by omega)).trans (by rw [e0]), (h1.cell (i := i * 5 + 1) (by omega)).trans (by rw [e1]), (h1.cell (i := i * 5 + 2) (by omega)).trans (by rw [e2]), (h1.cell (i := i * 5 + 3) (by omega)).trans (by rw [e3]), (h1.cell (i := i * 5 + 4) (by omega)).trans (by rw [e4])⟩
theorem ShP.next {g m i : Nat} {bs : Nat → Je} {s : Nat → Int} {W : World} (h : ShP g m i bs s W) : ShP g m (i + 1) bs s (((((W.setCell ⟨g, i * 5, none⟩ (.int .i64 (bs i).dy)).setCell ⟨g, i * 5 + 1, none⟩ (.int .i64 (bs i).cw)).setCell ⟨g, i * 5 + 2, none⟩ (.slice (bs i).pa (bs i).an (bs i).ak)).setCell ⟨g, i * 5 + 3, none⟩ (.slice (bs i).pr (bs i).rn (bs i).rk)).setCell ⟨g, i * 5 + 4, none⟩ (.int .i64 (s i))) := by
  obtain ⟨F, h1, h2⟩ := h
  refine ⟨_, ((((h1.set (i * 5) _).set (i * 5 + 1) _).set (i * 5 + 2) _).set (i * 5 + 3) _).set (i * 5 + 4) _, fun j hj => ?_⟩
  by_cases e1 : j = i
  · subst e1; simp
  · have a : ∀ c d, c < 5 → d < 5 → j * 5 + c ≠ i * 5 + d := fun c d hc hd => by omega
    obtain ⟨k0, k1, k2, k3, k4⟩ := h2 j (by omega)
    have n : ∀ c, c < 5 → (j * 5 + c ≠ i * 5 ∧ j * 5 + c ≠ i * 5 + 1 ∧ j * 5 + c ≠ i * 5 + 2 ∧ j * 5 + c ≠ i * 5 + 3 ∧ j * 5 + c ≠ i * 5 + 4) := fun c hc => ⟨a c 0 hc (by omega), a c 1 hc (by omega), a c 2 hc (by omega), a c 3 hc (by omega), a c 4 hc (by omega)⟩
    have n0 := n 0 (by omega)
    simp only [Nat.add_zero] at n0
    obtain ⟨p0, p1, p2, p3, p4⟩ := n0
    obtain ⟨q0, q1, q2, q3, q4⟩ := n 1 (by omega)
    obtain ⟨r0, r1, r2, r3, r4⟩ := n 2 (by omega)
    obtain ⟨s0, s1, s2, s3, s4⟩ := n 3 (by omega)
    obtain ⟨t0, t1, t2, t3, t4⟩ := n 4 (by omega)
    simp only [p0, p1, p2, p3, p4, q0, q1, q2, q3, q4, r0, r1, r2, r3, r4, s0, s1, s2, s3, s4, t0, t1, t2, t3, t4, if_false]
    exact ⟨k0, k1, k2, k3, k4⟩
theorem jblk5 (V : World) {g k o : Nat} (hk : k ≠ g) (y0 y1 y2 y3 y4 : Value) : (((((V.setCell ⟨g, o, none⟩ y0).setCell ⟨g, o + 1, none⟩ y1).setCell ⟨g, o + 2, none⟩ y2).setCell ⟨g, o + 3, none⟩ y3).setCell ⟨g, o + 4, none⟩ y4).heap[k]? = V.heap[k]? := by
  repeat rw [Below.heap_setCell _ _ _ _ (by show k ≠ g; exact hk)]
theorem info_Sh2 : (Try.prog.info? 56).map (fun i => (i.zero, i.size, i.bytes)) = some (some (.agg #[.int .i64 0, .int .i64 0, .slice none 0 0, .slice none 0 0, .int .i64 0]), 5, 72) := by kernel_rfl
abbrev shZ : Array Value := #[.int .i64 0, .int .i64 0, .slice none 0 0, .slice none 0 0, .int .i64 0]
theorem mk_Sh (n : Nat) (hn : n ≤ 1048576) (w : World) : (Instr.makeSlice 52 (.int .i64 (n : Int)) (.int .i64 (n : Int))).run Try.prog w = .ok (.slice (some ⟨w.heap.size, 0, none⟩) n n) (w.alloc (.cells (madeCells shZ (n * 5)) 56)) := by
  obtain ⟨i0, hi, hz0, hz1, hz2⟩ := info_parts info_Sh2
  have := run_make (P := Try.prog) w 52 56 i0 _ Try.underlying52 hi hz0 .i64 .i64 n n (by omega) (Int.le_refl _) (by rw [hz2]; omega) (by omega)
  rw [hz1] at this
  simp only [Int.toNat_natCast] at this
  exact this
theorem made_sh (w : World) (n : Nat) : ∃ F, (w.alloc (.cells (madeCells shZ (n * 5)) 56)).rowIs w.heap.size 56 (n * 5) F := by
  refine ⟨fun i => if i % 5 = 0 then .int .i64 0 else if i % 5 = 1 then .int .i64 0 else if i % 5 = 4 then .int .i64 0 else .slice none 0 0, _, blk_alloc_new _ _, size_madeCells _ _, fun i hi => ?_⟩
  have h5 : i % 5 = 0 ∨ i % 5 = 1 ∨ i % 5 = 2 ∨ i % 5 = 3 ∨ i % 5 = 4 := by omega
  rcases h5 with e | e | e | e | e <;> simp [madeCells, shZ, hi, e]
/-- What is told of a roster. -/
def RoEnd (m : Nat) (bs : Nat → Je) (n : Nat) (s : Nat → Int) (e : Ending) (W : World) : Prop :=
  (Jb.RosOk m bs n s ∧ ∃ a, e = .returned (.tuple #[.slice a m m, .bool true]) ∧ ShAt a m bs s W) ∨ (¬ Jb.RosOk m bs n s ∧ e = .returned (.tuple #[.slice none 0 0, .bool false]))
set_option maxRecDepth 100000 in
set_option maxHeartbeats 4000000 in
theorem rosterOf_any (a : Option Addr) (m k : Nat) (bs : Nat → Je) (c : Option Addr) (n ck : Nat) (s : Nat → Int) (w : World) (h : JbsAt a m bs w) (hs : JSm m bs) (hc : IsAt c n s w) (hn : n ≤ 1048576) :
    Calls Try.prog 29 #[.slice a m k, .slice c n ck] w fun e w' => RoEnd m bs n s e w' ∧ Below w.heap.size w w' := by
  have H := Lib.hid h
  have HS := Lib.hid hs
  have HC := Lib.hid hc
  clear h hs hc
  go_enter Try.func29, Try.ntmps29
  go_wp2_with fail
  refine (implJobs_any a m k bs _ H.out HS.out).mono ?_
  rintro e w1 ⟨rfl, hb⟩
  have HB := Lib.hid hb
  clear hb
  by_cases c1 : JRight m bs
  · rw [dB_tt c1]
    have HC1 := Lib.hid c1
    have hm := c1.1
    clear c1
    by_cases c2 : n = m
    · subst c2
      have c2e : ((n : Int) == (n : Int)) = true := by simp
      go_wp2_with fail
      refine (allWithin_raw c n ck s 2000 _ (HC.out.below HB.out) (by omega)).mono ?_
      rintro e w2 ⟨⟨q, rfl, hq⟩, hw⟩
      subst w2
      cases q with
      | false =>
        have HE : Hid (¬ Jb.RosOk n bs n s) := fun x => by have := hq.2 x.2.2; cases this
        clear hq
        go_wp2_with fail
        exact bodyPost_ret (v := .tuple #[.slice none 0 0, .bool false]) (by simp only [results, Try.results29]; simp [go_sem]) rfl ⟨Or.inr ⟨HE.out, rfl⟩, HB.out⟩
      | true =>
        have HE : Hid (Jb.RosOk n bs n s) := ⟨HC1.out, rfl, hq.1 rfl⟩
        clear hq
        have hmk := mk_Sh n (by omega)
        obtain ⟨F0, hF0⟩ := made_sh w1 n
        have HST : Hid (ShP w1.heap.size n 0 bs s (w1.alloc (.cells (madeCells shZ (n * 5)) 56))) := ⟨_, hF0, fun j hj => absurd hj (Nat.not_lt_zero _)⟩
        have HB1 : Hid (Below w.heap.size w (w1.alloc (.cells (madeCells shZ (n * 5)) 56))) := HB.out.alloc HB.out.size _
        obtain ⟨g, hg⟩ : ∃ g, g = w1.heap.size := ⟨_, rfl⟩
        have HGW : Hid (w.heap.size ≤ g) := by show _ ≤ _; rw [hg]; exact HB.out.size
        rw [← hg] at HST
        clear hF0
        go_wp2_with fail
        rw [← hg]
        clear hmk hg HB
        go_loopw [7, 8, 29] (fun _ _ iv wr => ∃ (i : Nat), i ≤ n ∧ iv = .int .i64 i ∧ Hid (ShP g n i bs s wr) ∧ Hid (Below w.heap.size w wr)) (fun _ _ iv _ => n - (intOf iv).toNat)
        case atStart => exact ⟨0, Nat.zero_le _, rfl, HST, HB1⟩
        case round =>
          obtain ⟨i, hi, rfl, hP, hB⟩ := hrel
          clear HST HB1
          by_cases hlt : i < n
          · have hltz : (i : Int) < (n : Int) := by omega
            obtain ⟨b, rfl, ⟨c0, c1, c2, c3⟩, _⟩ := (H.out.below hB.out).at_ hlt
            obtain ⟨b2, rfl, s0⟩ := (HC.out.below hB.out).at1 hlt
            have lb2 : b2 < w.heap.size := by
              obtain ⟨b', e, q⟩ := HC.out.at1 hlt
              have e' : b2 = b' := by simpa using e
              subst e'
              exact World.block_lt_of_cell? _ _ q
            have lgw := HGW.out
            have lg := hP.out.lt
            obtain ⟨W0, hW0⟩ : ∃ W0, W0 = wr.alloc (.cells #[.int .i64 (bs i).dy, .int .i64 (bs i).cw, .slice (bs i).pa (bs i).an (bs i).ak, .slice (bs i).pr (bs i).rn (bs i).rk] 44) := ⟨_, rfl⟩
            have hbw : Below wr.heap.size wr W0 := by rw [hW0]; exact nbel_alloc _ _
            have HR0 : Hid (W0.rowIs wr.heap.size 44 4 (rowN [.int .i64 (bs i).dy, .int .i64 (bs i).cw, .slice (bs i).pa (bs i).an (bs i).ak, .slice (bs i).pr (bs i).rn (bs i).rk])) := by show W0.rowIs _ _ _ _; rw [hW0]; exact rowN_alloc wr _ _
            have HS0 : Hid (W0.cell? ⟨b2, i, none⟩ = some (.int .i64 (s i))) := (hbw.cell (World.block_lt_of_cell? _ _ s0)).trans s0
            have HP0 : Hid (ShP g n i bs s W0.drew) := hP.out.block (hbw.block _ hP.out.lt)
            have HB0 : Hid (Below w.heap.size w W0.drew) := (hB.out.trans (hbw.mono hB.out.size)).drew
            have HW0 := Lib.hid hW0
            clear hbw hW0 hP hB
            go_wp2_with fail
            rw [← HW0.out]
            clear HW0 c0 c1 c2 c3 s0
            refine wp_region_held_drew (S := (fun V => V.rowIs wr.heap.size 44 4 (rowN [.int .i64 (bs i).dy, .int .i64 (bs i).cw, .slice (bs i).pa (bs i).an (bs i).ak, .slice (bs i).pr (bs i).rn (bs i).rk]) ∧ V.cell? ⟨b2, i, none⟩ = some (.int .i64 (s i)))) (by kernel_rfl) ⟨HR0.out.of_block rfl, HS0.out⟩ (fun hHeld => ?_)
            clear HR0 HS0
            obtain ⟨Z, hZ⟩ : ∃ Z, Z = W0.drew := ⟨_, rfl⟩
            rw [← hZ] at HP0 HB0 hHeld ⊢
            clear hZ
            refine take_do (i := 0) (v := (.slice (some ⟨g, 0, none⟩) n n)) rfl (by kernel_rfl) (by kernel_rfl) (by kernel_rfl) (fun _ _ _ h => h) (by rfl) ?_ (by assumption) ?_
            · intro w hSw
              skip
              go_simp
            simp only [Act.put, List.setIfInBounds_toArray, List.set_cons_zero, List.set_cons_succ]
            refine take_do (i := 1) (v := (.int .i64 i)) rfl (by kernel_rfl) (by kernel_rfl) (by kernel_rfl) (fun _ _ _ h => h) (by rfl) ?_ (by assumption) ?_
            · intro w hSw
              skip
              go_simp
            simp only [Act.put, List.setIfInBounds_toArray, List.set_cons_zero, List.set_cons_succ]
            refine take_do (i := 2) (v := (jbV (bs i))) rfl (by kernel_rfl) (by kernel_rfl) (by kernel_rfl) (fun _ _ _ h => h) (by rfl) ?_ (by assumption) ?_
            · intro w hSw
              obtain ⟨⟨x0, x1, x2, x3⟩, _⟩ := rowN4 hSw.1
              go_simp
            simp only [Act.put, List.setIfInBounds_toArray, List.set_cons_zero, List.set_cons_succ]
            refine take_do (i := 3) (v := (.slice (some ⟨b2, 0, none⟩) n ck)) rfl (by kernel_rfl) (by kernel_rfl) (by kernel_rfl) (fun _ _ _ h => h) (by rfl) ?_ (by assumption) ?_
            · intro w hSw
              skip
              go_simp
            simp only [Act.put, List.setIfInBounds_toArray, List.set_cons_zero, List.set_cons_succ]
            refine take_do (i := 4) (v := (.int .i64 i)) rfl (by kernel_rfl) (by kernel_rfl) (by kernel_rfl) (fun _ _ _ h => h) (by rfl) ?_ (by assumption) ?_
            · intro w hSw
              skip
              go_simp
            simp only [Act.put, List.setIfInBounds_toArray, List.set_cons_zero, List.set_cons_succ]
            refine take_do (i := 5) (v := (.pointer (some ⟨b2, i, none⟩))) rfl (by kernel_rfl) (by kernel_rfl) (by kernel_rfl) (fun _ _ _ h => h) (by rfl) ?_ (by assumption) ?_
            · intro w hSw
              skip
              go_simp
            simp only [Act.put, List.setIfInBounds_toArray, List.set_cons_zero, List.set_cons_succ]
            refine take_do (i := 6) (v := (.int .i64 (s i))) rfl (by kernel_rfl) (by kernel_rfl) (by kernel_rfl) (fun _ _ _ h => h) (by rfl) ?_ (by assumption) ?_
            · intro w hSw
              have y0 := hSw.2
              go_simp
            simp only [Act.put, List.setIfInBounds_toArray, List.set_cons_zero, List.set_cons_succ]
            refine take_do (i := 7) (v := (shV (bs i) (s i))) rfl (by kernel_rfl) (by kernel_rfl) (by kernel_rfl) (fun _ _ _ h => h) (by rfl) ?_ (by assumption) ?_
            · intro w hSw
              skip
              go_simp
            simp only [Act.put, List.setIfInBounds_toArray, List.set_cons_zero, List.set_cons_succ]
            refine take_do (i := 8) (v := (.pointer (some ⟨g, i * 5, none⟩))) rfl (by kernel_rfl) (by kernel_rfl) (by kernel_rfl) (fun _ _ _ h => h) (by rfl) ?_ (by assumption) ?_
            · intro w hSw
              skip
              go_simp
            simp only [Act.put, List.setIfInBounds_toArray, List.set_cons_zero, List.set_cons_succ]
            refine take_call (i := 9) rfl (by kernel_rfl) (fun K2 hK => ?_)
            have HN := Lib.hid HP0.out.next
            have HBN : Hid (Below w.heap.size w (((((Z.setCell ⟨g, i * 5, none⟩ (.int .i64 (bs i).dy)).setCell ⟨g, i * 5 + 1, none⟩ (.int .i64 (bs i).cw)).setCell ⟨g, i * 5 + 2, none⟩ (.slice (bs i).pa (bs i).an (bs i).ak)).setCell ⟨g, i * 5 + 3, none⟩ (.slice (bs i).pr (bs i).rn (bs i).rk)).setCell ⟨g, i * 5 + 4, none⟩ (.int .i64 (s i)))) := (((((HB0.out.setCell (p := ⟨g, i * 5, none⟩) HGW.out _).setCell (p := ⟨g, i * 5 + 1, none⟩) HGW.out _).setCell (p := ⟨g, i * 5 + 2, none⟩) HGW.out _).setCell (p := ⟨g, i * 5 + 3, none⟩) HGW.out _).setCell (p := ⟨g, i * 5 + 4, none⟩) HGW.out _)
            obtain ⟨F, r1, _⟩ := HP0.out
            have y0 := r1.cell (i := i * 5) (by omega)
            have y1 := r1.cell (i := i * 5 + 1) (by omega)
            have y2 := r1.cell (i := i * 5 + 2) (by omega)
            have y3 := r1.cell (i := i * 5 + 3) (by omega)
            have y4 := r1.cell (i := i * 5 + 4) (by omega)
            have z0 := r1.frozen (i * 5)
            have z1 := r1.frozen (i * 5 + 1)
            have z2 := r1.frozen (i * 5 + 2)
            have z3 := r1.frozen (i * 5 + 3)
            have z4 := r1.frozen (i * 5 + 4)
            have lz := r1.lt
            have hrow := hHeld.1.of_block (jblk5 Z (o := i * 5) (show wr.heap.size ≠ g by omega) (.int .i64 (bs i).dy) (.int .i64 (bs i).cw) (.slice (bs i).pa (bs i).an (bs i).ak) (.slice (bs i).pr (bs i).rn (bs i).rk) (.int .i64 (s i)))
            have hcel := (World.cell?_of_block (a := ⟨b2, i, none⟩) (jblk5 Z (o := i * 5) (show b2 ≠ g by omega) (.int .i64 (bs i).dy) (.int .i64 (bs i).cw) (.slice (bs i).pa (bs i).an (bs i).ak) (.slice (bs i).pr (bs i).rn (bs i).rk) (.int .i64 (s i)))).trans hHeld.2
            have HRC := Lib.hid (And.intro hrow hcel)
            clear hrow hcel r1
            obtain ⟨ZN, hZN⟩ : ∃ ZN, ZN = (((((Z.setCell ⟨g, i * 5, none⟩ (.int .i64 (bs i).dy)).setCell ⟨g, i * 5 + 1, none⟩ (.int .i64 (bs i).cw)).setCell ⟨g, i * 5 + 2, none⟩ (.slice (bs i).pa (bs i).an (bs i).ak)).setCell ⟨g, i * 5 + 3, none⟩ (.slice (bs i).pr (bs i).rn (bs i).rk)).setCell ⟨g, i * 5 + 4, none⟩ (.int .i64 (s i))) := ⟨_, rfl⟩
            rw [← hZN] at HN HBN HRC
            have HZN := Lib.hid hZN
            clear hZN
            go_simp
            rw [← HZN.out]
            refine hK.out _ _ HRC.out (fun hHeld2 => ?_)
            clear hK hHeld hHeld2 HRC HZN y0 y1 y2 y3 y4 z0 z1 z2 z3 z4 lz
            refine wpAnyH_done (by kernel_rfl) ?_ _
            clear HP0 HB0
            go_wp2_with fail
            go_roundw
            case rel => exact ⟨i + 1, by omega, by go_num, HN, HBN⟩
            case measure => simp [intOf]; omega
          · obtain rfl : i = n := by omega
            go_wp2_with fail
            exact bodyPost_ret (v := .tuple #[.slice (some ⟨g, 0, none⟩) i i, .bool true]) (by simp only [results, Try.results29]; simp [go_sem]) rfl ⟨Or.inl ⟨HE.out, _, rfl, hP.out.at_⟩, hB.out⟩
    · have c2z : ¬ ((n : Int) = (m : Int)) := by omega
      have HE : Hid (¬ Jb.RosOk m bs n s) := fun x => c2 x.2.1
      clear c2
      go_wp2_with fail
      exact bodyPost_ret (v := .tuple #[.slice none 0 0, .bool false]) (by simp only [results, Try.results29]; simp [go_sem]) rfl ⟨Or.inr ⟨HE.out, rfl⟩, HB.out⟩
  · rw [dB_ff c1]
    have HE : Hid (¬ Jb.RosOk m bs n s) := fun x => c1 x.1
    clear c1
    go_wp2_with fail
    exact bodyPost_ret (v := .tuple #[.slice none 0 0, .bool false]) (by simp only [results, Try.results29]; simp [go_sem]) rfl ⟨Or.inr ⟨HE.out, rfl⟩, HB.out⟩
set_option maxRecDepth 100000 in
set_option maxHeartbeats 1000000 in
theorem shas_any (a : Option Addr) (n cap : Nat) (f : Nat → Int) (x : Int) (w : World) (h : IsAt a n f w) (hn : n ≤ 1048576) :
    Calls Try.prog 44 #[.slice a n cap, .int .i64 x] w fun e w' => e = .returned (.bool (dB (Pl.Has n f x))) ∧ w' = w := by
  have H := Lib.hid h
  clear h
  go_enter Try.func44, Try.ntmps44
  go_wp2_with fail
  go_loopw [5] (fun iv wr => ∃ (i : Nat), i ≤ n ∧ iv = .int .i64 i ∧ wr = w ∧ Hid (∀ j, j < i → f j ≠ x)) (fun iv _ => n - (intOf iv).toNat)
  case atStart => exact ⟨0, Nat.zero_le _, rfl, rfl, fun j hj => absurd hj (Nat.not_lt_zero _)⟩
  case round =>
    obtain ⟨i, hi, rfl, rfl, hP⟩ := hrel
    by_cases hlt : i < n
    · have hltz : (i : Int) < (n : Int) := by omega
      obtain ⟨b, e, c0⟩ := H.out.at1 hlt
      subst e
      by_cases c : f i = x
      · have HC : Hid (dB (Pl.Has n f x) = true) := dB_tt ⟨i, hlt, c⟩
        have c' : (f i == x) = true := by simp [c]
        clear c
        go_wp2_with fail
        go_ret
        exact ⟨by rw [HC.out]; rfl, rfl⟩
      · have HC := Lib.hid c
        have c' : (f i == x) = false := by simp [c]
        clear c
        go_wp2_with fail
        go_roundw
        case rel => exact ⟨i + 1, by omega, by go_num, by trivial, fun j hj => by
          by_cases e : j = i
          · subst e; exact HC.out
          · exact hP.out j (by omega)⟩
        case measure => simp [intOf]; omega
    · obtain rfl : i = n := by omega
      have HC : Hid (dB (Pl.Has i f x) = false) := dB_ff (fun ⟨j, hj, e⟩ => hP.out j hj e)
      go_wp2_with fail
      go_ret
      exact ⟨by rw [HC.out]; rfl, rfl⟩
set_option maxRecDepth 100000 in
set_option maxHeartbeats 2000000 in
theorem sallS_any (a : Option Addr) (m cap : Nat) (f : Nat → Int) (w : World) (h : IsAt a m f w) (hm : m ≤ 1048576) :
    Calls Try.prog 27 #[.slice a m cap, .int .i64 0, .int .i64 2000] w fun e w' => e = .returned (.bool (dB (Jb.StOk m f))) ∧ Below w.heap.size w w' := by
  have H := Lib.hid h
  clear h
  go_enter Try.func27, Try.ntmps27
  go_wp2_with fail
  go_loopw [7] (fun iv wr => ∃ (i : Nat), i ≤ m ∧ iv = .int .i64 i ∧ Hid (Below w.heap.size w wr) ∧ Hid (∀ j, j < i → 0 ≤ f j ∧ f j ≤ 2000)) (fun iv _ => m - (intOf iv).toNat)
  case atStart => exact ⟨0, Nat.zero_le _, rfl, Below.refl _ _, fun j hj => absurd hj (Nat.not_lt_zero _)⟩
  case round =>
    obtain ⟨i, hi, rfl, hB, hP⟩ := hrel
    by_cases hlt : i < m
    · have hltz : (i : Int) < (m : Int) := by omega
      obtain ⟨b, e, c0⟩ := (H.out.below hB.out).at1 hlt
      subst e
      by_cases h4 : f i < 0
      · have HE : Hid (dB (Jb.StOk m f) = false) := dB_ff (fun k => by have := (k i hlt).1; omega)
        go_wp2_with fail
        try go_quiet (fail)
        go_ret
        exact ⟨by rw [HE.out]; rfl, by first | exact hB.out | exact hB.out.drew⟩
      · by_cases h5 : 2000 < f i
        · have HE : Hid (dB (Jb.StOk m f) = false) := dB_ff (fun k => by have := (k i hlt).2; omega)
          go_wp2_with fail
          try go_quiet (fail)
          go_ret
          exact ⟨by rw [HE.out]; rfl, by first | exact hB.out | exact hB.out.drew⟩
        · go_wp2_with fail
          try go_quiet (fail)
          go_roundw
          case rel =>
            refine ⟨i + 1, by omega, by go_num, by first | exact hB | exact hB.out.drew, fun j hj => ?_⟩
            by_cases ej : j = i
            · subst ej; exact ⟨by omega, by omega⟩
            · exact hP.out j (by omega)
          case measure => simp [intOf]; omega
    · obtain rfl : i = m := by omega
      go_wp2_with fail
      go_ret
      exact ⟨by rw [dB_tt (show Jb.StOk i f from hP.out)]; rfl, hB.out⟩
set_option maxRecDepth 100000 in
set_option maxHeartbeats 2000000 in
theorem sboth_any (x y : Je) (s t : Int) (w : World) (hs : 0 ≤ s ∧ s ≤ 1000000) (ht : 0 ≤ t ∧ t ≤ 1000000) (hdx : 0 ≤ x.dy ∧ x.dy ≤ 1000000) (hdy : 0 ≤ y.dy ∧ y.dy ≤ 1000000) :
    Calls Try.prog 33 #[jbV x, .int .i64 s, jbV y, .int .i64 t] w fun e w' => e = .returned (.bool (dB (s < t + y.dy ∧ t < s + x.dy))) ∧ Below w.heap.size w w' := by
  obtain ⟨dy, cw, pa, an, ak, A, pr, rn, rk, R⟩ := x
  obtain ⟨dy2, cw2, pa2, an2, ak2, A2, pr2, rn2, rk2, R2⟩ := y
  simp only at hdx hdy ⊢
  have HB : Hid (∀ o p, Below w.heap.size w ((w.alloc o).alloc p)) := fun o p => (nbel_alloc _ _).alloc (by simp) _
  by_cases c1 : s < t + dy2
  · by_cases c2 : t < s + dy
    · rw [dB_tt ⟨c1, c2⟩]
      go_enter Try.func33, Try.ntmps33
      go_wp2_with fail
      go_ret
      exact ⟨rfl, HB.out _ _⟩
    · rw [dB_ff (show ¬ (s < t + dy2 ∧ t < s + dy) from fun h => c2 h.2)]
      go_enter Try.func33, Try.ntmps33
      go_wp2_with fail
      go_ret
      exact ⟨rfl, HB.out _ _⟩
  · rw [dB_ff (show ¬ (s < t + dy2 ∧ t < s + dy) from fun h => c1 h.1)]
    go_enter Try.func33, Try.ntmps33
    go_wp2_with fail
    go_ret
    exact ⟨rfl, HB.out _ _⟩
set_option maxRecDepth 100000 in
set_option maxHeartbeats 2000000 in
theorem sshare_any (x y : Je) (w : World) (hx : IsAt x.pr x.rn x.R w) (hxn : x.rn ≤ 1048576) (hl : IsAt y.pr y.rn y.R w) (hyn : y.rn ≤ 1048576) :
    Calls Try.prog 32 #[jbV x, jbV y] w fun e w' => e = .returned (.bool (dB (x.share y))) ∧ Below w.heap.size w w' := by
  obtain ⟨W, hW⟩ : ∃ W, W = (w.alloc (.cells #[.int .i64 x.dy, .int .i64 x.cw, .slice x.pa x.an x.ak, .slice x.pr x.rn x.rk] 44)).alloc (.cells #[.int .i64 y.dy, .int .i64 y.cw, .slice y.pa y.an y.ak, .slice y.pr y.rn y.rk] 44) := ⟨_, rfl⟩
  have HB : Hid (Below w.heap.size w W) := by show Below _ _ _; rw [hW]; exact (nbel_alloc _ _).alloc (by simp) _
  obtain ⟨w0, hw0⟩ : ∃ w0, w0 = w.heap.size := ⟨_, rfl⟩
  have HX : Hid (W.rowIs w0 44 4 (rowN [.int .i64 x.dy, .int .i64 x.cw, .slice x.pa x.an x.ak, .slice x.pr x.rn x.rk])) := by show W.rowIs _ _ _ _; rw [hW, hw0]; exact nrow_below (rowN_alloc _ _ _) (nbel_alloc _ _)
  have HY : Hid (W.rowIs (w0 + 1) 44 4 (rowN [.int .i64 y.dy, .int .i64 y.cw, .slice y.pa y.an y.ak, .slice y.pr y.rn y.rk])) := by show W.rowIs _ _ _ _; rw [hW, hw0]; exact rowN_alloc' (by simp) _ _
  have HLX := Lib.hid (hx.below HB.out)
  have HLY := Lib.hid (hl.below HB.out)
  have HW := Lib.hid hW
  have HW0 := Lib.hid hw0
  clear hx hl hW hw0
  go_enter Try.func32, Try.ntmps32
  go_wp2_with fail
  rw [← HW.out, ← HW0.out]
  clear HW
  go_loopw [5] (fun iv wr => ∃ (i : Nat), i ≤ x.rn ∧ iv = .int .i64 i ∧ Hid (Below W.heap.size W wr) ∧ Hid (∀ j, j < i → ¬ Pl.Has y.rn y.R (x.R j))) (fun iv _ => x.rn - (intOf iv).toNat)
  case atStart => exact ⟨0, Nat.zero_le _, rfl, Below.refl _ _, fun j hj => absurd hj (Nat.not_lt_zero _)⟩
  case round =>
    obtain ⟨i, hi, rfl, hB, hP⟩ := hrel
    obtain ⟨⟨x0, x1, x2, x3⟩, _⟩ := rowN4 (nrow_below HX.out hB.out)
    by_cases hlt : i < x.rn
    · have hltz : (i : Int) < (x.rn : Int) := by omega
      obtain ⟨b, hpr, c0⟩ := (HLX.out.below hB.out).at1 hlt
      have HPR := Lib.hid hpr
      have HC0 := Lib.hid c0
      clear hpr c0
      go_wp2_with fail
      refine wp_region_held_drew (S := fun V => Below wr.heap.size wr V) (by kernel_rfl) (Below.refl _ _).drew (fun hHeld => ?_)
      have HS0 : Hid (∀ V, Below wr.heap.size wr V → V.cell? ⟨b, i, none⟩ = some (.int .i64 (x.R i)) ∧ V.rowIs w0 44 4 (rowN [.int .i64 x.dy, .int .i64 x.cw, .slice x.pa x.an x.ak, .slice x.pr x.rn x.rk]) ∧ V.rowIs (w0 + 1) 44 4 (rowN [.int .i64 y.dy, .int .i64 y.cw, .slice y.pa y.an y.ak, .slice y.pr y.rn y.rk])) := fun V hV => ⟨(hV.cell (World.block_lt_of_cell? _ _ HC0.out)).trans HC0.out, nrow_below (nrow_below HX.out hB.out) hV, nrow_below (nrow_below HY.out hB.out) hV⟩
      clear x0 x1 x2 x3
      rw [HPR.out] at HS0 ⊢
      refine take_do (i := 0) (v := (.pointer (some ⟨w0 + 1, 3, none⟩))) rfl (by kernel_rfl) (by kernel_rfl) (by kernel_rfl) (fun _ _ _ h => h) (by rfl) ?_ (by assumption) ?_
      · intro w hSw
        skip
        go_simp
      simp only [Act.put, List.setIfInBounds_toArray, List.set_cons_zero, List.set_cons_succ]
      refine take_do (i := 1) (v := (.slice y.pr y.rn y.rk)) rfl (by kernel_rfl) (by kernel_rfl) (by kernel_rfl) (fun _ _ _ h => h) (by rfl) ?_ (by assumption) ?_
      · intro w hSw
        obtain ⟨c0, rx, ry⟩ := HS0.out w hSw
        obtain ⟨⟨x0, x1, x2, x3⟩, _⟩ := rowN4 rx
        obtain ⟨⟨y0, y1, y2, y3⟩, _⟩ := rowN4 ry
        go_simp
      simp only [Act.put, List.setIfInBounds_toArray, List.set_cons_zero, List.set_cons_succ]
      refine take_do (i := 2) (v := (.pointer (some ⟨w0, 3, none⟩))) rfl (by kernel_rfl) (by kernel_rfl) (by kernel_rfl) (fun _ _ _ h => h) (by rfl) ?_ (by assumption) ?_
      · intro w hSw
        skip
        go_simp
      simp only [Act.put, List.setIfInBounds_toArray, List.set_cons_zero, List.set_cons_succ]
      refine take_do (i := 3) (v := (.slice (some ⟨b, 0, none⟩) x.rn x.rk)) rfl (by kernel_rfl) (by kernel_rfl) (by kernel_rfl) (fun _ _ _ h => h) (by rfl) ?_ (by assumption) ?_
      · intro w hSw
        obtain ⟨c0, rx, ry⟩ := HS0.out w hSw
        obtain ⟨⟨x0, x1, x2, x3⟩, _⟩ := rowN4 rx
        obtain ⟨⟨y0, y1, y2, y3⟩, _⟩ := rowN4 ry
        go_simp
      simp only [Act.put, List.setIfInBounds_toArray, List.set_cons_zero, List.set_cons_succ]
      refine take_do (i := 4) (v := (.int .i64 i)) rfl (by kernel_rfl) (by kernel_rfl) (by kernel_rfl) (fun _ _ _ h => h) (by rfl) ?_ (by assumption) ?_
      · intro w hSw
        skip
        go_simp
      simp only [Act.put, List.setIfInBounds_toArray, List.set_cons_zero, List.set_cons_succ]
      refine take_do (i := 5) (v := (.pointer (some ⟨b, i, none⟩))) rfl (by kernel_rfl) (by kernel_rfl) (by kernel_rfl) (fun _ _ _ h => h) (by rfl) ?_ (by assumption) ?_
      · intro w hSw
        skip
        go_simp
      simp only [Act.put, List.setIfInBounds_toArray, List.set_cons_zero, List.set_cons_succ]
      refine take_do (i := 6) (v := (.int .i64 (x.R i))) rfl (by kernel_rfl) (by kernel_rfl) (by kernel_rfl) (fun _ _ _ h => h) (by rfl) ?_ (by assumption) ?_
      · intro w hSw
        obtain ⟨c0, rx, ry⟩ := HS0.out w hSw
        obtain ⟨⟨x0, x1, x2, x3⟩, _⟩ := rowN4 rx
        obtain ⟨⟨y0, y1, y2, y3⟩, _⟩ := rowN4 ry
        go_simp
      simp only [Act.put, List.setIfInBounds_toArray, List.set_cons_zero, List.set_cons_succ]
      refine take_call (i := 7) rfl (by kernel_rfl) (fun K2 hK => ?_)
      go_simp
      refine (shas_any y.pr y.rn y.rk y.R (x.R i) _ ((HLY.out.below hB.out).below hHeld) hyn).mono ?_
      rintro e w1 ⟨rfl, hb⟩
      subst w1
      obtain ⟨w1, hw1⟩ : ∃ w1, w1 = wr.drew := ⟨_, rfl⟩
      rw [← hw1] at hHeld ⊢
      clear hw1
      go_wp2_with fail
      refine hK.out _ _ hHeld (fun hHeld2 => ?_)
      have HB1 : Hid (Below W.heap.size W w1) := hB.out.trans (hHeld2.mono hB.out.size)
      clear hK hHeld hHeld2 HS0
      refine wpAnyH_done (by kernel_rfl) ?_ _
      by_cases c : Pl.Has y.rn y.R (x.R i)
      · rw [dB_tt c]
        have HE : Hid (dB (x.share y) = true) := dB_tt ⟨i, hlt, c⟩
        clear c
        go_wp2_with fail
        go_ret
        exact ⟨by rw [HE.out]; rfl, HB.out.trans (HB1.out.mono HB.out.size)⟩
      · rw [dB_ff c]
        have HC := Lib.hid c
        clear c
        go_wp2_with fail
        go_roundw
        case rel => exact ⟨i + 1, by omega, by go_num, HB1, fun j hj => by
          by_cases e : j = i
          · subst e; exact HC.out
          · exact hP.out j (by omega)⟩
        case measure => simp [intOf]; omega
    · obtain rfl : i = x.rn := by omega
      have HE : Hid (dB (x.share y) = false) := dB_ff (fun ⟨j, hj, k⟩ => hP.out j hj k)
      go_wp2_with fail
      go_ret
      exact ⟨by rw [HE.out]; rfl, HB.out.trans (hB.out.mono HB.out.size)⟩
end Go.Proofs.Ytganlipebndeoaa
