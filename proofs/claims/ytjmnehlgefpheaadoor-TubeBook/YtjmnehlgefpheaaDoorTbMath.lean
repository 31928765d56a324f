/-
  Tubes as the document tells them: right parcels, what a push drives out, decay, runs; the water and the grams of all of it. No program is named here.
-/
namespace Go.Proofs.YtjmnehlgefpheaaDoor
namespace Tb

/-- A parcel: its water, its grams, the day on which it came. -/
structure Pc where
  w : Int
  g : Int
  b : Int
/-- No parcel. -/
def z : Pc := ⟨0, 0, 0⟩
def Ok (p : Pc) : Prop := (1 ≤ p.w ∧ p.w ≤ 1000000) ∧ (0 ≤ p.g ∧ p.g ≤ 1000000000) ∧ (0 ≤ p.b ∧ p.b ≤ 100000)
def wat : List Pc → Int
  | [] => 0
  | p :: l => p.w + wat l
def gra : List Pc → Int
  | [] => 0
  | p :: l => p.g + gra l
theorem wat_app (a b : List Pc) : wat (a ++ b) = wat a + wat b := by
  induction a with
  | nil => simp [wat]
  | cons p l ih => simp [wat, ih]; omega
theorem gra_app (a b : List Pc) : gra (a ++ b) = gra a + gra b := by
  induction a with
  | nil => simp [gra]
  | cons p l ih => simp [gra, ih]; omega
theorem wat_rev (a : List Pc) : wat a.reverse = wat a := by
  induction a with
  | nil => rfl
  | cons p l ih => simp [wat_app, wat, ih]; omega
theorem gra_rev (a : List Pc) : gra a.reverse = gra a := by
  induction a with
  | nil => rfl
  | cons p l ih => simp [gra_app, gra, ih]; omega
def Right (r : Int) (l : List Pc) : Prop := (1 ≤ l.length ∧ l.length ≤ 60) ∧ (∀ p, p ∈ l → Ok p) ∧ wat l = r
theorem wat_bd {l : List Pc} (h : ∀ p, p ∈ l → Ok p) : (l.length : Int) ≤ wat l ∧ wat l ≤ l.length * 1000000 := by
  induction l with
  | nil => simp [wat]
  | cons p l ih =>
    have h1 := ih (fun q hq => h q (List.mem_cons_of_mem _ hq))
    have h2 := (h p (List.mem_cons_self ..)).1
    simp only [wat, List.length_cons]
    omega
theorem gra_bd {l : List Pc} (h : ∀ p, p ∈ l → Ok p) : 0 ≤ gra l ∧ gra l ≤ l.length * 1000000000 := by
  induction l with
  | nil => simp [gra]
  | cons p l ih =>
    have h1 := ih (fun q hq => h q (List.mem_cons_of_mem _ hq))
    have h2 := (h p (List.mem_cons_self ..)).2.1
    simp only [gra, List.length_cons]
    omega
/-- The grams of a part. -/
def cut (p : Pc) (w : Int) : Int := (p.g * w).tdiv p.w
def partOf (p : Pc) (w : Int) : Pc := ⟨w, cut p w, p.b⟩
def restOf (p : Pc) (w : Int) : Pc := ⟨p.w - w, p.g - cut p w, p.b⟩
theorem cut_bd {p : Pc} {w : Int} (h : Ok p) (h0 : 0 ≤ w) (h1 : w ≤ p.w) : (0 ≤ p.g * w ∧ p.g * w ≤ 1000000000000000) ∧ 0 ≤ cut p w ∧ cut p w ≤ p.g := by
  obtain ⟨⟨a0, a1⟩, ⟨b0, b1⟩, _⟩ := h
  have m0 : 0 ≤ p.g * w := Int.mul_nonneg b0 h0
  have m1 : p.g * w ≤ 1000000000 * 1000000 := Int.mul_le_mul b1 (by omega) h0 (by omega)
  refine ⟨⟨m0, by omega⟩, ?_⟩
  unfold cut
  rw [Int.tdiv_eq_ediv_of_nonneg m0]
  refine ⟨Int.ediv_nonneg m0 (by omega), ?_⟩
  have m2 : p.g * w ≤ p.g * p.w := Int.mul_le_mul_of_nonneg_left h1 b0
  have m3 := Int.ediv_le_ediv (c := p.w) (by omega) m2
  rwa [Int.mul_ediv_cancel _ (by omega)] at m3
theorem part_ok {p : Pc} {w : Int} (h : Ok p) (h0 : 1 ≤ w) (h1 : w < p.w) : Ok (partOf p w) ∧ Ok (restOf p w) := by
  obtain ⟨_, c0, c1⟩ := cut_bd h (by omega) (by omega : w ≤ p.w)
  obtain ⟨⟨a0, a1⟩, ⟨b0, b1⟩, hb⟩ := h
  unfold partOf restOf Ok
  exact ⟨⟨⟨h0, by show w ≤ _; omega⟩, ⟨c0, by show cut p w ≤ _; omega⟩, hb⟩, ⟨⟨by show 1 ≤ p.w - w; omega, by show p.w - w ≤ _; omega⟩, ⟨by show 0 ≤ p.g - cut p w; omega, by show p.g - cut p w ≤ _; omega⟩, hb⟩⟩
/-- From the end on so much water goes out: what went, what stays. -/
def drive : Int → List Pc → List Pc × List Pc
  | _, [] => ([], [])
  | w, q :: Q => if w ≤ 0 then ([], q :: Q) else if w < q.w then ([partOf q w], restOf q w :: Q) else (q :: (drive (w - q.w) Q).1, (drive (w - q.w) Q).2)
theorem drive_nought {w : Int} (h : w ≤ 0) (Q : List Pc) : drive w Q = ([], Q) := by
  cases Q with
  | nil => rfl
  | cons q Q => simp [drive, h]
theorem drive_part {w : Int} {q : Pc} (h : 0 < w) (h2 : w < q.w) (Q : List Pc) : drive w (q :: Q) = ([partOf q w], restOf q w :: Q) := by
  unfold drive
  rw [if_neg (by omega), if_pos h2]
theorem drive_whole {w : Int} {q : Pc} (h : 0 < w) (h2 : q.w ≤ w) (Q : List Pc) : drive w (q :: Q) = (q :: (drive (w - q.w) Q).1, (drive (w - q.w) Q).2) := by
  rw [drive, if_neg (by omega), if_neg (by omega)]
theorem drive_all {Q : List Pc} (hQ : ∀ p, p ∈ Q → Ok p) {w : Int} (h0 : 0 ≤ w) (h1 : w ≤ wat Q) :
    wat (drive w Q).1 = w ∧ wat (drive w Q).2 = wat Q - w ∧ (∀ p, p ∈ (drive w Q).1 → Ok p) ∧ (∀ p, p ∈ (drive w Q).2 → Ok p) ∧ gra (drive w Q).1 + gra (drive w Q).2 = gra Q ∧ (drive w Q).1.length ≤ Q.length ∧ (drive w Q).2.length ≤ Q.length := by
  induction Q generalizing w with
  | nil => simp [wat] at h1; obtain rfl : w = 0 := by omega
           simp [drive, wat, gra]
  | cons q Q ih =>
    by_cases hw : w ≤ 0
    · obtain rfl : w = 0 := by omega
      rw [drive_nought (by omega)]
      refine ⟨rfl, by simp, by simp, hQ, by simp [gra], by simp, by simp⟩
    by_cases hq : w < q.w
    · rw [drive_part (by omega) hq]
      have ho := part_ok (hQ q (List.mem_cons_self ..)) (by omega) hq
      refine ⟨by simp [wat, partOf], by simp only [wat, restOf]; omega, ?_, ?_, by simp only [gra, partOf, restOf]; omega, by simp, by simp⟩
      · intro p hp; simp at hp; rw [hp]; exact ho.1
      · intro p hp
        rcases List.mem_cons.1 hp with rfl | hp
        · exact ho.2
        · exact hQ p (List.mem_cons_of_mem _ hp)
    · rw [drive_whole (by omega) (by omega)]
      simp only [wat] at h1
      obtain ⟨a1, a2, a3, a4, a5, a6, a7⟩ := ih (fun p hp => hQ p (List.mem_cons_of_mem _ hp)) (w := w - q.w) (by omega) (by omega)
      refine ⟨by simp only [wat]; omega, by simp only [wat]; omega, ?_, a4, by simp only [gra]; omega, by simp only [List.length_cons]; omega, by simp only [List.length_cons]; omega⟩
      intro p hp
      rcases List.mem_cons.1 hp with rfl | hp
      · exact hQ p (List.mem_cons_self ..)
      · exact a3 p hp
/-- A push at the beginning. -/
def psh (Q : List Pc) (p : Pc) : List Pc × List Pc := drive p.w (Q ++ [p])
/-- What is gone of a parcel. -/
def gone (m : Int) (p : Pc) : Int := (p.g * m).tdiv 1000
def dec (m : Int) (p : Pc) : Pc := ⟨p.w, p.g - gone m p, p.b⟩
theorem gone_bd {p : Pc} {m : Int} (h : 0 ≤ p.g ∧ p.g ≤ 1000000000) (h0 : 0 ≤ m) (h1 : m ≤ 1000) : (0 ≤ p.g * m ∧ p.g * m ≤ 1000000000000) ∧ 0 ≤ gone m p ∧ gone m p ≤ p.g := by
  obtain ⟨b0, b1⟩ := h
  have m0 : 0 ≤ p.g * m := Int.mul_nonneg b0 h0
  have m1 : p.g * m ≤ 1000000000 * 1000 := Int.mul_le_mul b1 h1 h0 (by omega)
  refine ⟨⟨m0, by omega⟩, ?_⟩
  unfold gone
  rw [Int.tdiv_eq_ediv_of_nonneg m0]
  have m2 : p.g * m ≤ p.g * 1000 := Int.mul_le_mul_of_nonneg_left h1 b0
  omega
theorem dec_ok {p : Pc} {m : Int} (h : Ok p) (h0 : 0 ≤ m) (h1 : m ≤ 1000) : Ok (dec m p) := by
  obtain ⟨_, c0, c1⟩ := gone_bd h.2.1 h0 h1
  obtain ⟨ha, ⟨b0, b1⟩, hb⟩ := h
  exact ⟨ha, ⟨by show 0 ≤ p.g - gone m p; omega, by show p.g - gone m p ≤ _; omega⟩, hb⟩
theorem dec_0 (p : Pc) : dec 0 p = p := by
  unfold dec gone
  simp
theorem decs_0 (l : List Pc) : l.map (dec 0) = l := by
  have : dec 0 = id := funext dec_0
  rw [this]; simp
theorem wat_dec (m : Int) (l : List Pc) : wat (l.map (dec m)) = wat l := by
  induction l with
  | nil => rfl
  | cons p l ih => simp only [List.map_cons, wat, ih]; rfl
theorem decs_ok {l : List Pc} (h : ∀ p, p ∈ l → Ok p) {m : Int} (h0 : 0 ≤ m) (h1 : m ≤ 1000) : ∀ p, p ∈ l.map (dec m) → Ok p := by
  intro p hp
  obtain ⟨q, hq, rfl⟩ := List.mem_map.1 hp
  exact dec_ok (h q hq) h0 h1
/-- A filling that stands: its parcels are right, there is water. -/
def Fill (r : Int) (Q : List Pc) : Prop := (1 ≤ Q.length ∧ Q.length ≤ 60) ∧ (∀ p, p ∈ Q → Ok p) ∧ wat Q = r
theorem psh_all {r : Int} {Q : List Pc} (h : Fill r Q) {p : Pc} (hp : Ok p) :
    wat (psh Q p).1 = p.w ∧ wat (psh Q p).2 = r ∧ (∀ q, q ∈ (psh Q p).1 → Ok q) ∧ (∀ q, q ∈ (psh Q p).2 → Ok q) ∧ gra (psh Q p).1 + gra (psh Q p).2 = gra Q + p.g ∧ (psh Q p).1.length ≤ Q.length + 1 ∧ (psh Q p).2.length ≤ Q.length + 1 ∧ 1 ≤ (psh Q p).2.length := by
  have hQ : ∀ q, q ∈ Q ++ [p] → Ok q := by
    intro q hq
    rcases List.mem_append.1 hq with hq | hq
    · exact h.2.1 q hq
    · simp at hq; rw [hq]; exact hp
  have hw : wat (Q ++ [p]) = r + p.w := by rw [wat_app, h.2.2]; simp [wat]
  have hr := (wat_bd h.2.1).1
  have h1 := h.1.1
  have h2 := h.2.2
  obtain ⟨a1, a2, a3, a4, a5, a6, a7⟩ := drive_all hQ (w := p.w) (by have := hp.1; omega) (by rw [hw]; omega)
  refine ⟨a1, by rw [psh, a2, hw]; omega, a3, a4, by rw [psh, a5, gra_app]; simp [gra], by simpa [psh] using a6, by simpa [psh] using a7, ?_⟩
  have h3 : wat (psh Q p).2 = r := by rw [psh, a2, hw]; omega
  cases hl : (psh Q p).2 with
  | nil => rw [hl] at h3; simp [wat] at h3; omega
  | cons q l => simp
theorem psh_fill {r : Int} {Q : List Pc} (h : Fill r Q) {p : Pc} (hp : Ok p) (hn : (psh Q p).2.length ≤ 60) {m : Int} (h0 : 0 ≤ m) (h1 : m ≤ 1000) : Fill r ((psh Q p).2.map (dec m)) := by
  obtain ⟨a1, a2, a3, a4, a5, a6, a7, a8⟩ := psh_all h hp
  refine ⟨⟨by simpa using a8, by simpa using hn⟩, decs_ok a4 h0 h1, by rw [wat_dec, a2]⟩
open Classical in
/-- A run: its code, what stands in the tube behind it, all that went out. -/
noncomputable def runA (m : Int) : List Pc → List Pc → List Pc → Int × List Pc × List Pc
  | Q, O, [] => (0, Q, O)
  | Q, O, p :: ps => if ¬ Ok p then (1, [], []) else if 60 < (psh Q p).2.length then (5, [], []) else runA m ((psh Q p).2.map (dec m)) (O ++ (psh Q p).1) ps
theorem runA_nil (m : Int) (Q O : List Pc) : runA m Q O [] = (0, Q, O) := rfl
theorem runA_bad {m : Int} {p : Pc} (h : ¬ Ok p) (Q O ps : List Pc) : runA m Q O (p :: ps) = (1, [], []) := by rw [runA, if_pos h]
theorem runA_over {m : Int} {p : Pc} {Q : List Pc} (h : Ok p) (h2 : 60 < (psh Q p).2.length) (O ps : List Pc) : runA m Q O (p :: ps) = (5, [], []) := by rw [runA, if_neg (by simpa using h), if_pos h2]
theorem runA_on {m : Int} {p : Pc} {Q : List Pc} (h : Ok p) (h2 : (psh Q p).2.length ≤ 60) (O ps : List Pc) : runA m Q O (p :: ps) = runA m ((psh Q p).2.map (dec m)) (O ++ (psh Q p).1) ps := by rw [runA, if_neg (by simpa using h), if_neg (by omega)]
theorem runA_code (m : Int) : ∀ (ps Q O : List Pc), (runA m Q O ps).1 = 0 ∨ runA m Q O ps = (1, [], []) ∨ runA m Q O ps = (5, [], []) := by
  intro ps
  induction ps with
  | nil => intro Q O; exact Or.inl rfl
  | cons p ps ih =>
    intro Q O
    by_cases h : Ok p
    · by_cases h2 : 60 < (psh Q p).2.length
      · rw [runA_over h h2]; exact Or.inr (Or.inr rfl)
      · rw [runA_on h (by omega)]; exact ih _ _
    · rw [runA_bad h]; exact Or.inr (Or.inl rfl)
/-- What a run that goes well leaves: the tube is full of right parcels; as much water went out as came in. -/
theorem runA_book {m : Int} (h0 : 0 ≤ m) (h1 : m ≤ 1000) {r : Int} : ∀ (ps Q O : List Pc), Fill r Q → (runA m Q O ps).1 = 0 →
    Fill r (runA m Q O ps).2.1 ∧ wat (runA m Q O ps).2.2 = wat O + wat ps ∧ (m = 0 → gra (runA m Q O ps).2.1 + gra (runA m Q O ps).2.2 = gra Q + gra O + gra ps) := by
  intro ps
  induction ps with
  | nil => intro Q O hQ _; exact ⟨hQ, by simp [runA, wat], fun _ => by simp [runA, gra]⟩
  | cons p ps ih =>
    intro Q O hQ hc
    by_cases h : Ok p
    · by_cases h2 : 60 < (psh Q p).2.length
      · rw [runA_over h h2] at hc; simp at hc
      · rw [runA_on h (by omega)] at hc ⊢
        obtain ⟨a1, a2, a3, a4, a5, a6, a7, a8⟩ := psh_all hQ h
        obtain ⟨b1, b2, b3⟩ := ih _ _ (psh_fill hQ h (by omega) h0 h1) hc
        refine ⟨b1, by rw [b2, wat_app, a1]; simp only [wat]; omega, fun hm => ?_⟩
        rw [b3 hm, hm, decs_0, gra_app]
        simp only [gra]
        omega
    · rw [runA_bad h] at hc; simp at hc
/-- How long what went out is at most. -/
theorem runA_len (m : Int) (h0 : 0 ≤ m) (h1 : m ≤ 1000) {r : Int} : ∀ (ps Q O : List Pc), Fill r Q → (runA m Q O ps).2.2.length ≤ O.length + 61 * ps.length := by
  intro ps
  induction ps with
  | nil => intro Q O _; simp [runA]
  | cons p ps ih =>
    intro Q O hQ
    by_cases h : Ok p
    · by_cases h2 : 60 < (psh Q p).2.length
      · rw [runA_over h h2]; simp
      · rw [runA_on h (by omega)]
        obtain ⟨a1, a2, a3, a4, a5, a6, a7, a8⟩ := psh_all hQ h
        have := ih _ (O ++ (psh Q p).1) (psh_fill hQ h (by omega) h0 h1)
        have := hQ.1.2
        simp only [List.length_append, List.length_cons] at *
        omega
    · rw [runA_bad h]; simp
/-- All goes out: so much water as there is. -/
theorem drive_full {Q : List Pc} (hQ : ∀ p, p ∈ Q → Ok p) (R : List Pc) : drive (wat Q) (Q ++ R) = (Q, R) := by
  induction Q with
  | nil => simp [wat]; exact drive_nought (by omega) R
  | cons q Q ih =>
    have h1 := (hQ q (List.mem_cons_self ..)).1
    have h2 := (wat_bd (fun p hp => hQ p (List.mem_cons_of_mem _ hp)) : _ ∧ wat Q ≤ _).1
    simp only [wat, List.cons_append]
    rw [drive_whole (by omega) (by omega)]
    have e : q.w + wat Q - q.w = wat Q := by omega
    rw [e, ih (fun p hp => hQ p (List.mem_cons_of_mem _ hp))]
/-- The numbers of a list, cell by cell. -/
def pg (l : List Pc) (i : Nat) : Pc := l.getD i z
theorem pg_get {l : List Pc} {i : Nat} (h : i < l.length) : l.getD i z = l[i] := by simp [h]
def fl (l : List Pc) (j : Nat) : Int := if j % 3 = 0 then (pg l (j / 3)).w else if j % 3 = 1 then (pg l (j / 3)).g else (pg l (j / 3)).b
theorem fl0 (l : List Pc) (i : Nat) : fl l (i * 3) = (pg l i).w := by
  unfold fl
  rw [if_pos (by omega), show i * 3 / 3 = i by omega]
theorem fl1 (l : List Pc) (i : Nat) : fl l (i * 3 + 1) = (pg l i).g := by
  unfold fl
  rw [if_neg (by omega), if_pos (by omega), show (i * 3 + 1) / 3 = i by omega]
theorem fl2 (l : List Pc) (i : Nat) : fl l (i * 3 + 2) = (pg l i).b := by
  unfold fl
  rw [if_neg (by omega), if_neg (by omega), show (i * 3 + 2) / 3 = i by omega]
theorem pg_mem {l : List Pc} {i : Nat} (h : i < l.length) : pg l i ∈ l := by
  unfold pg
  rw [pg_get h]
  exact List.getElem_mem h
theorem drop_pg {l : List Pc} {i : Nat} (h : i < l.length) : l.drop i = pg l i :: l.drop (i + 1) := by
  unfold pg
  rw [pg_get h]
  exact List.drop_eq_getElem_cons h
theorem take_pg {l : List Pc} {i : Nat} (h : i < l.length) : l.take (i + 1) = l.take i ++ [pg l i] := by
  unfold pg
  rw [pg_get h]
  exact List.take_succ_eq_append_getElem h
theorem wat_take {l : List Pc} {i : Nat} (h : i < l.length) : wat (l.take (i + 1)) = wat (l.take i) + (pg l i).w := by
  rw [take_pg h, wat_app]; simp [wat]
theorem gra_take {l : List Pc} {i : Nat} (h : i < l.length) : gra (l.take (i + 1)) = gra (l.take i) + (pg l i).g := by
  rw [take_pg h, gra_app]; simp [gra]
/-- So many parcels of numbers that lie one behind the other. -/
def ofN (f : Nat → Int) (n : Nat) : List Pc := (List.range n).map (fun i => ⟨f (i * 3), f (i * 3 + 1), f (i * 3 + 2)⟩)
theorem ofN_len (f : Nat → Int) (n : Nat) : (ofN f n).length = n := by simp [ofN]
theorem pg_ofN (f : Nat → Int) {n i : Nat} (h : i < n) : pg (ofN f n) i = ⟨f (i * 3), f (i * 3 + 1), f (i * 3 + 2)⟩ := by
  unfold pg ofN
  simp [h]
theorem fl_ofN (f : Nat → Int) {n j : Nat} (h : j < n * 3) : fl (ofN f n) j = f j := by
  unfold fl
  rw [pg_ofN f (by omega : j / 3 < n)]
  by_cases h0 : j % 3 = 0
  · rw [if_pos h0]; show f (j / 3 * 3) = f j; congr 1; omega
  · by_cases h1 : j % 3 = 1
    · rw [if_neg h0, if_pos h1]; show f (j / 3 * 3 + 1) = f j; congr 1; omega
    · rw [if_neg h0, if_neg h1]; show f (j / 3 * 3 + 2) = f j; congr 1; omega
theorem fl_app_left {a b : List Pc} {j : Nat} (h : j < a.length * 3) : fl (a ++ b) j = fl a j := by
  have e : pg (a ++ b) (j / 3) = pg a (j / 3) := by
    unfold pg
    rw [List.getD_eq_getElem?_getD, List.getD_eq_getElem?_getD, List.getElem?_append_left (by omega)]
  unfold fl
  rw [e]
theorem all_pg {l : List Pc} (h : ∀ i, i < l.length → Ok (pg l i)) : ∀ p, p ∈ l → Ok p := by
  intro p hp
  obtain ⟨i, hi, rfl⟩ := List.getElem_of_mem hp
  have := h i hi
  unfold pg at this
  rwa [pg_get hi] at this
/-- Water times days. -/
def ags (now : Int) : List Pc → Int
  | [] => 0
  | p :: l => p.w * (now - p.b) + ags now l
theorem ags_app (now : Int) (a b : List Pc) : ags now (a ++ b) = ags now a + ags now b := by
  induction a with
  | nil => simp [ags]
  | cons p l ih => simp [ags, ih]; omega
theorem ags_take (now : Int) {l : List Pc} {i : Nat} (h : i < l.length) : ags now (l.take (i + 1)) = ags now (l.take i) + (pg l i).w * (now - (pg l i).b) := by
  rw [take_pg h, ags_app]; simp [ags]
theorem age1 {p : Pc} {now : Int} (h : Ok p) (h1 : p.b ≤ now) (h2 : now ≤ 100000) : 0 ≤ p.w * (now - p.b) ∧ p.w * (now - p.b) ≤ 100000000000 := by
  obtain ⟨⟨a0, a1⟩, _, b0, b1⟩ := h
  refine ⟨Int.mul_nonneg (by omega) (by omega), ?_⟩
  have := Int.mul_le_mul a1 (by omega : now - p.b ≤ 100000) (by omega) (by omega)
  omega
theorem ags_bd {l : List Pc} {now : Int} (h : ∀ p, p ∈ l → Ok p ∧ p.b ≤ now) (h2 : now ≤ 100000) : 0 ≤ ags now l ∧ ags now l ≤ l.length * 100000000000 := by
  induction l with
  | nil => simp [ags]
  | cons p l ih =>
    have h1 := ih (fun q hq => h q (List.mem_cons_of_mem _ hq))
    have h3 := h p (List.mem_cons_self ..)
    have h4 := age1 h3.1 h3.2 h2
    simp only [ags, List.length_cons]
    omega
open Classical in
noncomputable def ageOf (r : Int) (l : List Pc) (now : Int) : Int := if Right r l ∧ now ≤ 100000 ∧ (∀ p, p ∈ l → p.b ≤ now) then (ags now l).tdiv r else -1
theorem take_sub {l : List Pc} {i : Nat} {P : Pc → Prop} (h : ∀ j, j < i → P (pg l j)) (hi : i ≤ l.length) : ∀ p, p ∈ l.take i → P p := by
  intro p hp
  obtain ⟨j, hj, rfl⟩ := List.getElem_of_mem hp
  rw [List.length_take] at hj
  have := h j (by omega)
  unfold pg at this
  rw [pg_get (by omega : j < l.length)] at this
  simpa using this
theorem of_pg {l : List Pc} {P : Pc → Prop} (h : ∀ j, j < l.length → P (pg l j)) : ∀ p, p ∈ l → P p := by
  have := take_sub h (Nat.le_refl _)
  rwa [List.take_length] at this
/-- The least of the first days. -/
def mnb (l : List Pc) : Nat → Int
  | 0 => (pg l 0).b
  | i + 1 => if (pg l i).b < mnb l i then (pg l i).b else mnb l i
def mixP (l : List Pc) : Pc := ⟨wat l, gra l, mnb l l.length⟩
open Classical in
noncomputable def mixOf (l : List Pc) : Pc := if (1 ≤ l.length ∧ l.length ≤ 400) ∧ (∀ p, p ∈ l → Ok p) ∧ Ok (mixP l) then mixP l else z
end Tb
end Go.Proofs.YtjmnehlgefpheaaDoor
