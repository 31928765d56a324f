/-
  The contract of the program's FracRead.
-/
import Derived.Test.YtemmmhkjjcmcmaaDoorReadPart
import Derived.Test.YtemmmhkjjcmcmaaDoorOpCommon
namespace Go.Proofs.YtemmmhkjjcmcmaaDoor
open Go.RowKit

theorem drewN_below (w : World) (n : Nat) : Below w.heap.size w (w.drewN n) := ⟨rfl, rfl, rfl, Nat.le_refl _, fun _ _ => rfl⟩

/-- A slot of a fraction in a new block, in later worlds. -/
def Slot (w W : World) : Prop := Below (w.heap.size + 1) (w.alloc (.cells #[.int .i64 0, .int .i64 0] 24)) W
theorem Slot.start (w : World) : Slot w (w.alloc (.cells #[.int .i64 0, .int .i64 0] 24)) := Below.refl _ _
theorem Slot.size {w W : World} (h : Slot w W) : w.heap.size + 1 ≤ W.heap.size := by have := Below.size h; simpa using this
theorem Slot.next {w W W' : World} (h : Slot w W) (hb : Below W.heap.size W W') : Slot w W' := Below.trans h (hb.mono h.size)
theorem Slot.below {w W : World} (h : Slot w W) : Below w.heap.size w W := ((Below.refl _ _).alloc (Nat.le_refl _) _).trans (Below.mono h (by omega))

/-- What the part below a slash is, where there is none. -/
def M.low (l : List UInt8) : List UInt8 := if (Lib.cut l [47]).2.2 then (Lib.cut l [47]).2.1 else [49]

set_option maxRecDepth 100000 in
set_option maxHeartbeats 1000000 in
theorem readParts_any (s : ByteArray) (hs : s.size ≤ 20000) (w : World) (h : Rd1 w) :
    Calls Tryd.prog 47 #[.string s] w fun e w' => ((∃ n d, (-9223372036854775808 ≤ n ∧ n ≤ 9223372036854775807 ∧ -9223372036854775808 ≤ d ∧ d ≤ 9223372036854775807) ∧ Lib.parseIntB 64 (Lib.cut s.data.toList [47]).1 = .ok n ∧ Lib.parseIntB 64 (M.low s.data.toList) = .ok d ∧ e = .returned (.tuple #[.agg #[.int .i64 n, .int .i64 d], .nilIface])) ∨ ((∀ n d, Lib.parseIntB 64 (Lib.cut s.data.toList [47]).1 = .ok n → Lib.parseIntB 64 (M.low s.data.toList) ≠ .ok d) ∧ ∃ t, e = .returned (.tuple #[.agg #[.int .i64 0, .int .i64 0], errV t 3]))) ∧ Below w.heap.size w w' := by
  have HR : Hid (Rd1 w) := h
  have HC := fun m wx => Tryd.strings_Cut s ⟨#[47]⟩ m wx (by omega)
  have hl := M.cut_len s.data.toList
  unfold M.low
  have e47 : (⟨#[47]⟩ : ByteArray).data.toList = [47] := rfl
  rw [e47] at HC
  generalize Lib.cut s.data.toList [47] = c at *
  obtain ⟨a, b, f⟩ := c
  simp only at *
  have hz : s.data.toList.length = s.size := rfl
  have HA := fun wx => readPart_any ⟨a.toArray⟩ (by show a.toArray.size ≤ 20000; simp; omega) wx
  have HBl := fun wx => readPart_any ⟨b.toArray⟩ (by show b.toArray.size ≤ 20000; simp; omega) wx
  have H1 := fun wx => readPart_any ⟨#[49]⟩ (by decide) wx
  have ea : (⟨a.toArray⟩ : ByteArray).data.toList = a := rfl
  have eb : (⟨b.toArray⟩ : ByteArray).data.toList = b := rfl
  have e1 : (⟨#[49]⟩ : ByteArray).data.toList = [49] := rfl
  rw [ea] at HA
  rw [eb] at HBl
  rw [e1] at H1
  clear h hl hz ea eb e1 e47 hs
  have HC' := Lib.hid HC
  have HA' := Lib.hid HA
  clear HC HA
  cases f
  · have H1' := Lib.hid H1
    clear H1 HBl
    go_enter Tryd.func47, Tryd.ntmps47
    go_wp2_with fail
    have S0 := Slot.start w
    obtain ⟨m, hm⟩ := (HR.out.later S0.below).len
    refine (HC'.out m _ hm).mono ?_
    rintro e w1 ⟨rfl, k, rfl⟩
    have S1 : Hid (Slot w ((w.alloc (.cells #[.int .i64 0, .int .i64 0] 24)).drewN k)) := S0.next (drewN_below _ _)
    clear HC' hm S0
    generalize (w.alloc (.cells #[.int .i64 0, .int .i64 0] 24)).drewN k = w1 at *
    go_wp2_with fail
    refine (HA'.out _ (HR.out.later S1.out.below)).mono ?_
    rintro e w2 ⟨hr, hb⟩
    have S2 : Hid (Slot w w2) := S1.out.next hb
    clear hb S1 HA'
    rcases hr with ⟨v, hv0, hv1, hv, rfl⟩ | ⟨hv, rfl⟩
    · have Hv := Lib.hid hv
      clear hv
      go_wp2_with fail
      refine (H1'.out _ (HR.out.later S2.out.below)).mono ?_
      rintro e w3 ⟨hr, hb⟩
      have S3 : Hid (Slot w w3) := S2.out.next hb
      clear hb S2 H1'
      obtain ⟨s0, s1, f0, f1, hz2⟩ := kept2 S3.out
      have HB3 : Hid (Below w.heap.size w w3) := S3.out.below
      rcases hr with ⟨d, hd0, hd1, hd, rfl⟩ | ⟨hd, rfl⟩
      · have Hd := Lib.hid hd
        clear hd
        go_wp2_with fail
        exact bodyPost_ret (v := .tuple #[.agg #[.int .i64 v, .int .i64 d], .nilIface]) (by simp [results, Tryd.results47, go_sem, s0, s1]) rfl ⟨Or.inl ⟨v, d, ⟨hv0, hv1, hd0, hd1⟩, Hv.out, by simpa using Hd.out, rfl⟩, below_set2 HB3.out (by omega) _ _⟩
      · have Hd := Lib.hid hd
        clear hd
        go_wp2_with fail
        exact bodyPost_ret (v := .tuple #[.agg #[.int .i64 0, .int .i64 0], errV ⟨#[116, 104, 101, 32, 112, 97, 114, 116, 32, 98, 101, 108, 111, 119]⟩ 3]) (by simp [results, Tryd.results47, go_sem, s0, s1]) rfl ⟨Or.inr ⟨fun n d _ h2 => Hd.out d (by simpa using h2), _, rfl⟩, below_set2 HB3.out (by omega) _ _⟩
    · have Hv := Lib.hid hv
      clear hv
      obtain ⟨s0, s1, f0, f1, hz2⟩ := kept2 S2.out
      have HB3 : Hid (Below w.heap.size w w2) := S2.out.below
      go_wp2_with fail
      exact bodyPost_ret (v := .tuple #[.agg #[.int .i64 0, .int .i64 0], errV ⟨#[116, 104, 101, 32, 112, 97, 114, 116, 32, 97, 98, 111, 118, 101]⟩ 3]) (by simp [results, Tryd.results47, go_sem, s0, s1]) rfl ⟨Or.inr ⟨fun n d h1 _ => Hv.out n h1, _, rfl⟩, below_set2 HB3.out (by omega) _ _⟩
  · have H1' := Lib.hid HBl
    clear HBl H1
    go_enter Tryd.func47, Tryd.ntmps47
    go_wp2_with fail
    have S0 := Slot.start w
    obtain ⟨m, hm⟩ := (HR.out.later S0.below).len
    refine (HC'.out m _ hm).mono ?_
    rintro e w1 ⟨rfl, k, rfl⟩
    have S1 : Hid (Slot w ((w.alloc (.cells #[.int .i64 0, .int .i64 0] 24)).drewN k)) := S0.next (drewN_below _ _)
    clear HC' hm S0
    generalize (w.alloc (.cells #[.int .i64 0, .int .i64 0] 24)).drewN k = w1 at *
    go_wp2_with fail
    refine (HA'.out _ (HR.out.later S1.out.below)).mono ?_
    rintro e w2 ⟨hr, hb⟩
    have S2 : Hid (Slot w w2) := S1.out.next hb
    clear hb S1 HA'
    rcases hr with ⟨v, hv0, hv1, hv, rfl⟩ | ⟨hv, rfl⟩
    · have Hv := Lib.hid hv
      clear hv
      go_wp2_with fail
      refine (H1'.out _ (HR.out.later S2.out.below)).mono ?_
      rintro e w3 ⟨hr, hb⟩
      have S3 : Hid (Slot w w3) := S2.out.next hb
      clear hb S2 H1'
      obtain ⟨s0, s1, f0, f1, hz2⟩ := kept2 S3.out
      have HB3 : Hid (Below w.heap.size w w3) := S3.out.below
      rcases hr with ⟨d, hd0, hd1, hd, rfl⟩ | ⟨hd, rfl⟩
      · have Hd := Lib.hid hd
        clear hd
        go_wp2_with fail
        exact bodyPost_ret (v := .tuple #[.agg #[.int .i64 v, .int .i64 d], .nilIface]) (by simp [results, Tryd.results47, go_sem, s0, s1]) rfl ⟨Or.inl ⟨v, d, ⟨hv0, hv1, hd0, hd1⟩, Hv.out, by simpa using Hd.out, rfl⟩, below_set2 HB3.out (by omega) _ _⟩
      · have Hd := Lib.hid hd
        clear hd
        go_wp2_with fail
        exact bodyPost_ret (v := .tuple #[.agg #[.int .i64 0, .int .i64 0], errV ⟨#[116, 104, 101, 32, 112, 97, 114, 116, 32, 98, 101, 108, 111, 119]⟩ 3]) (by simp [results, Tryd.results47, go_sem, s0, s1]) rfl ⟨Or.inr ⟨fun n d _ h2 => Hd.out d (by simpa using h2), _, rfl⟩, below_set2 HB3.out (by omega) _ _⟩
    · have Hv := Lib.hid hv
      clear hv
      obtain ⟨s0, s1, f0, f1, hz2⟩ := kept2 S2.out
      have HB3 : Hid (Below w.heap.size w w2) := S2.out.below
      go_wp2_with fail
      exact bodyPost_ret (v := .tuple #[.agg #[.int .i64 0, .int .i64 0], errV ⟨#[116, 104, 101, 32, 112, 97, 114, 116, 32, 97, 98, 111, 118, 101]⟩ 3]) (by simp [results, Tryd.results47, go_sem, s0, s1]) rfl ⟨Or.inr ⟨fun n d h1 _ => Hv.out n h1, _, rfl⟩, below_set2 HB3.out (by omega) _ _⟩

set_option maxHeartbeats 1000000 in
theorem readFrac_long (s : ByteArray) (hs : 20000 < s.size) (w : World) :
    Calls Tryd.prog 34 #[.string s] w fun e w' => e = .returned (.tuple #[.agg #[.int .i64 0, .int .i64 0], errV ⟨#[97, 32, 116, 101, 120, 116]⟩ 2]) ∧ Below w.heap.size w w' := by
  have hz : (20000 : Int) < (s.size : Int) := by omega
  go_enter Tryd.func34, Tryd.ntmps34
  go_wp2_with fail
  exact bodyPost_ret (v := .tuple #[.agg #[.int .i64 0, .int .i64 0], errV ⟨#[97, 32, 116, 101, 120, 116]⟩ 2]) (by simp [results, Tryd.results34, go_sem]) rfl ⟨rfl, (Below.refl _ _).alloc (Nat.le_refl _) _⟩

theorem M.low_of {n d : Int} (h : M.rightB n d = true) : (Lib.cut (M.textL n d) [47]).1 = Lib.itoa n ∧ M.low (M.textL n d) = Lib.itoa d := by
  unfold M.low
  rcases M.textL_cut n d h with ⟨k, _, c⟩ | ⟨k, _, c⟩
  · rw [c]; subst k
    refine ⟨rfl, ?_⟩
    rw [M.itoa_pos 1 (by decide), M.dec_small _ (by decide)]; rfl
  · rw [c]; exact ⟨rfl, rfl⟩
theorem M.right_bd {n d : Int} (h : M.rightB n d = true) : -2147483647 ≤ n ∧ n ≤ 2147483647 ∧ -2147483647 ≤ d ∧ d ≤ 2147483647 := by
  have r := (M.rightB_iff n d).1 h
  exact ⟨r.2.2.1, r.2.2.2.1, by omega, r.2.1⟩
theorem M.parse_text {n d : Int} (h : M.rightB n d = true) : Lib.parseIntB 64 (Lib.cut (M.textL n d) [47]).1 = .ok n ∧ Lib.parseIntB 64 (M.low (M.textL n d)) = .ok d := by
  have b := M.right_bd h
  rw [(M.low_of h).1, (M.low_of h).2]
  exact ⟨M.parse_itoa n b.1 b.2.1, M.parse_itoa d b.2.2.1 b.2.2.2⟩

theorem M.parse_ne {l : List UInt8} {n : Int} (h : Lib.parseIntB 64 (Lib.cut l [47]).1 = .ok n) : l ≠ [] := by
  intro e; subst e
  rw [M.cut_none [] (by simp)] at h
  cases h
theorem str_ne {x y : ByteArray} (h : x ≠ y) : (x.toList == y.toList) = false := by
  rw [Bool.eq_false_iff]
  intro k
  apply h
  rw [beq_iff_eq, ByteArray.toList_eq, ByteArray.toList_eq] at k
  apply ByteArray.ext
  exact Array.toList_inj.1 k

/-- The ending of a reader, as the program's error values tell it. -/
def ReadEnd (l : List UInt8) (e : Ending) : Prop :=
  (∃ n d, M.ReadTo l n d 0 ∧ e = .returned (.tuple #[.agg #[.int .i64 n, .int .i64 d], .nilIface])) ∨ (M.ReadTo l 0 0 3 ∧ ∃ y, AsFinds y 3 ∧ e = .returned (.tuple #[.agg #[.int .i64 0, .int .i64 0], .iface 63 y]))

set_option maxRecDepth 100000 in
set_option maxHeartbeats 1000000 in
theorem readFrac_any (s : ByteArray) (hs : s.size ≤ 20000) (w : World) (h : Rd1 w) :
    Calls Tryd.prog 34 #[.string s] w fun e w' => ReadEnd s.data.toList e ∧ Below w.heap.size w w' := by
  have HR : Hid (Rd1 w) := h
  have hz : ¬ (20000 : Int) < (s.size : Int) := by omega
  have HP := Lib.hid (fun wx => readParts_any s hs wx)
  clear h hs
  go_enter Tryd.func34, Tryd.ntmps34
  go_wp2_with fail
  have S0 := Slot.start w
  refine (HP.out _ (HR.out.later S0.below)).mono ?_
  rintro e w1 ⟨hr, hb⟩
  have S1 : Hid (Slot w w1) := S0.next hb
  clear hb S0 HP
  rcases hr with ⟨n, d, bd, hn, hd, rfl⟩ | ⟨hno, t, rfl⟩
  · obtain ⟨b1, b2, b3, b4⟩ := bd
    have Hn := Lib.hid hn
    have Hd := Lib.hid hd
    clear hn hd
    go_wp2_with fail
    refine (implText_any n d _ b1 b2 b3 b4 (HR.out.later (S1.out.below.alloc (by have := S1.out.size; omega) _)).tab).mono ?_
    rintro e w2 ⟨rfl, hb⟩
    obtain ⟨c0, c1, hz1, hB1⟩ := one_later (hb.mono (by simp))
    have S2 : Hid (Slot w w2) := S1.out.next hB1.out
    obtain ⟨s0, s1, f0, f1, hz2⟩ := kept2 S2.out
    have HB3 : Hid (Below w.heap.size w w2) := S2.out.below
    have Hne : Hid (w.heap.size ≠ w1.heap.size) := by have := S1.out.size; show _ ≠ _; omega
    clear hb hB1 S1 S2
    by_cases hq : (⟨(M.textL n d).toArray⟩ : ByteArray) = s
    · have Hq : Hid (M.textL n d = s.data.toList) := by show _ = _; rw [← hq]
      rw [hq]
      clear hq
      go_wp2_with fail
      refine bodyPost_ret (v := .tuple #[.agg #[.int .i64 n, .int .i64 d], .nilIface]) (by simp [results, Tryd.results34, go_sem, s0, s1]) rfl ⟨Or.inl ⟨n, d, Or.inl ⟨M.right_of_text (by rw [Hq.out]; exact M.parse_ne Hn.out), Hq.out, rfl⟩, rfl⟩, below_set2 HB3.out (by omega) _ _⟩
    · have Hq : Hid (M.textL n d ≠ s.data.toList) := by
        show _ ≠ _
        intro e; apply hq; apply ByteArray.ext; show (M.textL n d).toArray = s.data; rw [e]
      generalize (⟨(M.textL n d).toArray⟩ : ByteArray) = T at *
      have h1 : (T.toList == s.toList) = false := str_ne hq
      clear hq
      go_wp2_with fail
      refine bodyPost_ret (v := .tuple #[.agg #[.int .i64 0, .int .i64 0], errV ⟨#[97, 32, 102, 114, 97, 99, 116, 105, 111, 110, 32, 119, 114, 105, 116, 116, 101, 110, 32, 111, 116, 104, 101, 114, 119, 105, 115, 101]⟩ 3]) (by simp [results, Tryd.results34, go_sem, s0, s1]) rfl ⟨Or.inr ⟨Or.inr ⟨fun n' d' hr e => ?_, rfl, rfl, rfl⟩, _, finds_one _ _, rfl⟩, below_set2 HB3.out (by omega) _ _⟩
      have k := M.parse_text hr
      rw [e, Hn.out, Hd.out] at k
      simp at k
      rw [k.1, k.2] at Hq
      exact Hq.out e
  · have Hno := Lib.hid hno
    clear hno
    obtain ⟨s0, s1, f0, f1, hz2⟩ := kept2 S1.out
    have HB3 : Hid (Below w.heap.size w w1) := S1.out.below
    obtain ⟨rd0, rd1⟩ := read_set2 s0 s1 (.int .i64 0) (.int .i64 0) (.cells #[.int .i64 0, .int .i64 0] 24)
    go_wp2_with fail
    refine bodyPost_ret (v := .tuple #[.agg #[.int .i64 0, .int .i64 0], .iface 63 (.agg #[.string ⟨#[97, 32, 102, 114, 97, 99, 116, 105, 111, 110]⟩, errV t 3])]) (by simp [results, Tryd.results34, go_sem, rd0, rd1]) rfl ⟨Or.inr ⟨Or.inr ⟨fun n d hr e => ?_, rfl, rfl, rfl⟩, _, finds_two _ _ _, rfl⟩, (below_set2 HB3.out (by omega) _ _).alloc (by simp; omega) _⟩
    have k := M.parse_text hr
    rw [e] at k
    exact Hno.out n d k.1 k.2

/-- A slot of an answer in a new block, in later worlds. -/
def Slot3 (w W : World) : Prop := Below (w.heap.size + 1) (w.alloc (.cells #[.int .i64 0, .int .i64 0, .int .i64 0] 29)) W
theorem Slot3.start (w : World) : Slot3 w (w.alloc (.cells #[.int .i64 0, .int .i64 0, .int .i64 0] 29)) := Below.refl _ _
theorem Slot3.size {w W : World} (h : Slot3 w W) : w.heap.size + 1 ≤ W.heap.size := by have := Below.size h; simpa using this
theorem Slot3.next {w W W' : World} (h : Slot3 w W) (hb : Below W.heap.size W W') : Slot3 w W' := Below.trans h (hb.mono h.size)
theorem Slot3.below {w W : World} (h : Slot3 w W) : Below w.heap.size w W := ((Below.refl _ _).alloc (Nat.le_refl _) _).trans (Below.mono h (by omega))

set_option maxHeartbeats 1000000 in
theorem implRead_any (s : ByteArray) (hs : s.size ≤ 20000) (w : World) (h : Rd1 w) :
    Calls Tryd.prog 16 #[.string s] w fun e w' => (∃ n d c, M.ReadTo s.data.toList n d c ∧ e = .returned (.agg #[.int .i64 n, .int .i64 d, .int .i64 c])) ∧ Below w.heap.size w w' := by
  have HR : Hid (Rd1 w) := h
  have HP := Lib.hid (fun wx => readFrac_any s hs wx)
  clear h hs
  go_enter Tryd.func16, Tryd.ntmps16
  go_wp2_with fail
  have S0 := Slot3.start w
  refine (HP.out _ (HR.out.later S0.below)).mono ?_
  rintro e w1 ⟨hr, hb⟩
  have S1 : Hid (Slot3 w w1) := S0.next hb
  clear hb S0 HP
  rcases hr with ⟨n, d, hr, rfl⟩ | ⟨hr, y, hy, rfl⟩
  · have Hr := Lib.hid hr
    clear hr
    go_wp2_with fail
    refine (tell_ok _ _ _).mono ?_
    rintro e w2 ⟨rfl, hb⟩
    obtain ⟨s0, s1, s2, f0, f1, f2, hz2, hB⟩ := kept3 (S1.out.next hb)
    clear hb S1
    go_wp2_with fail
    exact bodyPost_ret (v := .agg #[.int .i64 n, .int .i64 d, .int .i64 0]) (by simp [results, Tryd.results16, go_sem, s0, s1, s2]) rfl ⟨⟨n, d, 0, Hr.out, rfl⟩, below_set3 hB.out (by omega) _ _ _⟩
  · have Hr := Lib.hid hr
    have Hy := Lib.hid hy
    clear hr hy
    go_wp2_with fail
    refine (tell_bad _ _ _ _ Hy.out _ (HR.out.later S1.out.below).typ).mono ?_
    rintro e w2 ⟨rfl, hb⟩
    obtain ⟨s0, s1, s2, f0, f1, f2, hz2, hB⟩ := kept3 (S1.out.next hb)
    clear hb S1
    go_wp2_with fail
    exact bodyPost_ret (v := .agg #[.int .i64 0, .int .i64 0, .int .i64 3]) (by simp [results, Tryd.results16, go_sem, s0, s1, s2]) rfl ⟨⟨0, 0, 3, Hr.out, rfl⟩, below_set3 hB.out (by omega) _ _ _⟩

set_option maxHeartbeats 1000000 in
theorem implRead_long (s : ByteArray) (hs : 20000 < s.size) (w : World) (h : Rd1 w) :
    Calls Tryd.prog 16 #[.string s] w fun e w' => e = .returned (.agg #[.int .i64 0, .int .i64 0, .int .i64 2]) ∧ Below w.heap.size w w' := by
  have HR : Hid (Rd1 w) := h
  have HP := Lib.hid (fun wx => readFrac_long s hs wx)
  clear h hs
  go_enter Tryd.func16, Tryd.ntmps16
  go_wp2_with fail
  have S0 := Slot3.start w
  refine (HP.out _).mono ?_
  rintro e w1 ⟨rfl, hb⟩
  have S1 : Hid (Slot3 w w1) := S0.next hb
  clear hb HP S0
  go_wp2_with fail
  refine (tell_bad _ _ _ _ (finds_one _ _) _ (HR.out.later S1.out.below).typ).mono ?_
  rintro e w2 ⟨rfl, hb⟩
  obtain ⟨s0, s1, s2, f0, f1, f2, hz2, hB⟩ := kept3 (S1.out.next hb)
  clear hb S1
  go_wp2_with fail
  exact bodyPost_ret (v := .agg #[.int .i64 0, .int .i64 0, .int .i64 2]) (by simp [results, Tryd.results16, go_sem, s0, s1, s2]) rfl ⟨rfl, below_set3 hB.out (by omega) _ _ _⟩
end Go.Proofs.YtemmmhkjjcmcmaaDoor
