/-
  The program's FirstOut.
-/
import Derived.Test.YtnfdamkjkclnmaaAlP0
import Derived.Test.YtnfdamkjkclnmaaAlP1
namespace Go.Proofs.Ytnfdamkjkclnmaa
open Go.RowKit Go.Deep

theorem PanS.congr {w : World} {p q N c : Nat} {A B : Nat → Al.A} {d f : Int} {W : World} (h : PanS w p q N c A d f W) (e : ∀ i, i < N → A i = B i) : PanS w p q N c B d f W := by
  obtain ⟨m, F, h1, h2, h3⟩ := h.al
  exact ⟨h.row, ⟨m, F, h1, h2, fun i hi => by rw [← e i hi]; exact h3 i hi⟩, h.ne, h.lo, h.old⟩
/-- The first one out that is noted, and whether the Once has been done. -/
def Noted (S : Nat → Nat → Prop) (d f : Int) : Prop := Al.First S f ∧ ((d = 0 ∧ f = -1) ∨ (d = 1 ∧ 0 ≤ f))
theorem noted_step {Q : Nat → Int} {N : Nat} {LN : Nat → Nat} {L : Nat → Nat → Int} {t p : Nat} {d f d' f' : Int} (h : Noted (Al.Seen Q N LN L t p) d f)
    (k : (¬ Al.Sr Q N LN L p t ∧ d' = d ∧ f' = f) ∨ (Al.Sr Q N LN L p t ∧ d' = 1 ∧ ((d = 0 ∧ f' = (p : Int)) ∨ (d = 1 ∧ f' = f)))) : Noted (Al.Seen Q N LN L t (p + 1)) d' f' := by
  rcases k with ⟨k1, rfl, rfl⟩ | ⟨k1, rfl, ⟨rfl, rfl⟩ | ⟨rfl, rfl⟩⟩
  · exact ⟨Al.seen_same h.1 k1, h.2⟩
  · have e : f = -1 := by have := h.2; omega
    subst e
    exact ⟨Al.seen_new h.1 k1, Or.inr ⟨rfl, by omega⟩⟩
  · have e : 0 ≤ f' := by have := h.2; omega
    exact ⟨Al.seen_more h.1 (by omega), Or.inr ⟨rfl, e⟩⟩
theorem tk_next (a : Al.A) (v : Nat → Int) (i : Nat) : Al.take (Al.tk a v i) (v i) = Al.tk a v (i + 1) := rfl
set_option maxRecDepth 100000 in
set_option maxHeartbeats 16000000 in
theorem takeAll_any (w : World) (p q N c : Nat) (Q : Nat → Int) (va : Option Addr) (vk : Nat) (LN : Nat → Nat) (L : Nat → Nat → Int) (W : World) (h : PanS w p q N c (Al.al Q) 0 (-1) W) (hv : LsAt va N LN L w) (hok : Al.PanelOk Q N LN L N) :
    Calls Try.prog 39 #[.pointer (some ⟨p, 0, none⟩), .slice va N vk] W fun e W' => e = .returned (.tuple #[]) ∧ ∃ (A : Nat → Al.A) (d f : Int), PanS w p q N c A d f W' ∧ Al.First (Al.Sr Q N LN L) f := by
  have HV := Lib.hid hv
  have HOK := Lib.hid hok
  have HS0 : Hid (PanS w p q N c (fun jj => Al.tk (Al.al Q jj) (L jj) (min 0 (LN jj))) 0 (-1) W) := h.congr (fun i _ => by show _ = Al.tk (Al.al Q i) (L i) (min 0 (LN i)); rw [Nat.zero_min]; rfl)
  have hN20 : N ≤ 20 := hok.1
  clear h hv hok
  go_enter Try.func39, Try.ntmps39
  go_wp2_with fail
  go_loopw [7] (fun tv wr => ∃ (t : Nat) (d f : Int), t ≤ 300 ∧ tv = .int .i64 t ∧ Hid (PanS w p q N c (fun jj => Al.tk (Al.al Q jj) (L jj) (min t (LN jj))) d f wr) ∧ Hid (Noted (Al.Seen Q N LN L t 0) d f)) (fun tv _ => 300 - (intOf tv).toNat)
  case atStart => exact ⟨0, 0, -1, Nat.zero_le _, rfl, HS0, Al.seen_start Q N LN L, Or.inl ⟨rfl, rfl⟩⟩
  case round =>
    obtain ⟨t, d, f, ht, rfl, hS, hF⟩ := hrel
    clear HS0
    by_cases hlt : t < 300
    · have hltz : (t : Int) < 300 := by omega
      have HS1 : Hid (PanS w p q N c (fun jj => Al.tk (Al.al Q jj) (L jj) (if jj < 0 then min (t + 1) (LN jj) else min t (LN jj))) d f wr) := hS.out.congr (fun i _ => by simp)
      clear hS
      go_wp2_with fail
      go_loopw [12] (fun iv wq => ∃ (i : Nat) (d f : Int), i ≤ N ∧ iv = .int .i64 i ∧ Hid (PanS w p q N c (fun jj => Al.tk (Al.al Q jj) (L jj) (if jj < i then min (t + 1) (LN jj) else min t (LN jj))) d f wq) ∧ Hid (Noted (Al.Seen Q N LN L t i) d f)) (fun iv _ => N - (intOf iv).toNat)
      case atStart => exact ⟨0, d, f, Nat.zero_le _, rfl, HS1, hF⟩
      case round =>
        obtain ⟨i, d, f, hi, rfl, hS, hF⟩ := hrel
        clear HS1
        by_cases hlti : i < N
        · have hltiz : (i : Int) < (N : Int) := by omega
          obtain ⟨b, e, ai, ci, c0, hat⟩ := (HV.out.below hS.out.old).one hlti
          subst e
          obtain ⟨m, hm⟩ : ∃ m, m = LN i := ⟨_, rfl⟩
          rw [← hm] at c0 hat
          have HM := Lib.hid hm
          clear hm
          by_cases hv : t < m
          · have hvz : (t : Int) < (m : Int) := by omega
            obtain ⟨gb, eg, cv⟩ := hat.at1 hv
            subst eg
            obtain ⟨v, hvv⟩ : ∃ v, v = L i t := ⟨_, rfl⟩
            rw [← hvv] at cv
            have HVV := Lib.hid hvv
            have HA : Hid (Al.tk (Al.al Q i) (L i) (if i < i then min (t + 1) (LN i) else min t (LN i)) = Al.tk (Al.al Q i) (L i) t) := by
              show _ = _
              rw [if_neg (Nat.lt_irrefl _), Nat.min_eq_left (by have := HM.out; omega)]
            have HDD : Hid (d = 0 ∨ d = 1) := by have := hF.out.2; show _ ∨ _; omega
            have HRT : Hid (Al.Right (Al.tk (Al.al Q i) (L i) (if i < i then min (t + 1) (LN i) else min t (LN i)))) := by show Al.Right _; rw [HA.out]; exact Al.tk_right (HOK.out.2.2.1 i hlti) _ _
            clear hat hvv
            go_wp2_with fail
            refine (ptake_any w p q N c (fun jj => Al.tk (Al.al Q jj) (L jj) (if jj < i then min (t + 1) (LN jj) else min t (LN jj))) d f i v _ hS.out hlti HRT.out HDD.out).mono ?_
            rintro e wz ⟨rfl, d', f', hp, hc⟩
            have HP : Hid (PanS w p q N c (fun jj => Al.tk (Al.al Q jj) (L jj) (if jj < (i + 1) then min (t + 1) (LN jj) else min t (LN jj))) d' f' wz) := hp.congr (fun j _ => by
              unfold updA
              by_cases k : j = i
              · subst k
                rw [if_pos rfl, if_pos (by omega)]
                show Al.take (Al.tk (Al.al Q j) (L j) (if j < j then _ else _)) v = _
                rw [HA.out, HVV.out, tk_next, Nat.min_eq_left (by have := HM.out; omega)]
              · rw [if_neg k]
                show Al.tk _ _ (if j < i then _ else _) = _
                by_cases k2 : j < i
                · rw [if_pos k2, if_pos (by omega)]
                · rw [if_neg k2, if_neg (by omega)])
            have HF2 : Hid (Noted (Al.Seen Q N LN L t (i + 1)) d' f') := by
              refine noted_step hF.out ?_
              have hc2 : (¬ (¬ (Al.tk (Al.al Q i) (L i) t).st = 2 ∧ (Al.tk (Al.al Q i) (L i) (t + 1)).st = 2) ∧ d' = d ∧ f' = f) ∨ ((¬ (Al.tk (Al.al Q i) (L i) t).st = 2 ∧ (Al.tk (Al.al Q i) (L i) (t + 1)).st = 2) ∧ d' = 1 ∧ ((d = 0 ∧ f' = (i : Int)) ∨ (d = 1 ∧ f' = f))) := by
                rw [← tk_next, ← HVV.out, ← HA.out]
                exact hc
              rcases hc2 with ⟨k1, k2, k3⟩ | ⟨k1, k2⟩
              · exact Or.inl ⟨fun s => k1 s.2.2, k2, k3⟩
              · exact Or.inr ⟨⟨hlti, by have := HM.out; omega, k1⟩, k2⟩
            clear hp hc hS hF c0 cv
            go_wp2_with fail
            go_roundw
            case rel => exact ⟨i + 1, d', f', by omega, by go_num, HP, HF2⟩
            case measure => simp [intOf]; omega
          · have hvz : ¬ (t : Int) < (m : Int) := by omega
            have HP : Hid (PanS w p q N c (fun jj => Al.tk (Al.al Q jj) (L jj) (if jj < (i + 1) then min (t + 1) (LN jj) else min t (LN jj))) d f _) := hS.out.congr (fun j _ => by
              show Al.tk _ _ (if j < i then _ else _) = Al.tk _ _ (if j < i + 1 then _ else _)
              by_cases k : j = i
              · subst k
                rw [if_neg (Nat.lt_irrefl _), if_pos (by omega), Nat.min_eq_right (by have := HM.out; omega), Nat.min_eq_right (by have := HM.out; omega)]
              · by_cases k2 : j < i
                · rw [if_pos k2, if_pos (by omega)]
                · rw [if_neg k2, if_neg (by omega)])
            have HF2 : Hid (Noted (Al.Seen Q N LN L t (i + 1)) d f) := noted_step hF.out (Or.inl ⟨fun s => by have := s.2.1; have := HM.out; omega, rfl, rfl⟩)
            clear hat hS hF
            go_wp2_with fail
            go_roundw
            case rel => exact ⟨i + 1, d, f, by omega, by go_num, HP, HF2⟩
            case measure => simp [intOf]; omega
        · obtain rfl : i = N := by omega
          have HP : Hid (PanS w p q i c (fun jj => Al.tk (Al.al Q jj) (L jj) (min (t + 1) (LN jj))) d f _) := hS.out.congr (fun j hj => by
            show Al.tk _ _ (if j < i then _ else _) = _
            rw [if_pos hj])
          have HF2 : Hid (Noted (Al.Seen Q i LN L (t + 1) 0) d f) := ⟨Al.seen_row hF.out.1, hF.out.2⟩
          clear hS hF
          go_wp2_with fail
          go_roundw
          case rel => exact ⟨t + 1, d, f, by omega, by go_num, HP, HF2⟩
          case measure => simp [intOf]; omega
    · obtain rfl : t = 300 := by omega
      have HE : Hid (Al.First (Al.Sr Q N LN L) f) := Al.seen_end (fun i hi => (HOK.out.2.2.2 i hi).1) hF.out.1
      go_wp2_with fail
      exact bodyPost_end (v := .tuple #[]) (by simp [results, Try.results39, go_sem]) rfl ⟨rfl, _, _, _, hS.out, HE.out⟩
set_option maxRecDepth 100000 in
set_option maxHeartbeats 4000000 in
theorem newPanel_any (b N cap : Nat) (Q : Nat → Int) (w : World) (h : IsBlk 25 b (N * 6) Q w) (hN : N ≤ 20) :
    Calls Try.prog 38 #[.slice (some ⟨b, 0, none⟩) N cap] w fun e w' => ∃ p q c, e = .returned (.pointer (some ⟨p, 0, none⟩)) ∧ PanS w p q N c (Al.al Q) 0 (-1) w' := by
  have H := Lib.hid h
  clear h
  go_enter Try.func38, Try.ntmps38
  go_wp2_with fail
  refine (alclone_any b N cap Q _ H.out hN).mono ?_
  rintro e w1 ⟨⟨g, c, rfl, hg, m, F, m1, m2, m3⟩, hb⟩
  obtain ⟨W, hW⟩ : ∃ W, W = w1.alloc (.cells #[.slice (some ⟨g, 0, none⟩) N c, .int .u32 0, .int .i32 0, .int .u32 0, .int .i64 (-1)] 80) := ⟨_, rfl⟩
  have HS : Hid (PanS w w1.heap.size g N c (Al.al Q) 0 (-1) W) := by
    show PanS _ _ _ _ _ _ _ _ _
    rw [hW]
    refine ⟨rowN_alloc w1 (paL g N c 0 0 (-1)) _, ⟨m, F, m1, nrow_below m2 (nbel_alloc _ _), fun i hi => ⟨m3 _ (by omega), m3 _ (by omega), m3 _ (by omega), m3 _ (by omega), m3 _ (by omega), m3 _ (by omega)⟩⟩, ?_, ⟨hb.size, hg⟩, hb.trans ((nbel_alloc _ _).mono hb.size)⟩
    have := m2.lt
    omega
  have HW := Lib.hid hW
  clear hW hb hg m1 m2 m3
  go_wp2_with fail
  rw [← HW.out]
  go_ret
  exact ⟨_, _, _, rfl, HS.out⟩
set_option maxRecDepth 100000 in
set_option maxHeartbeats 4000000 in
theorem implFirst_any (b N lk : Nat) (Q : Nat → Int) (va : Option Addr) (M vk : Nat) (LN : Nat → Nat) (L : Nat → Nat → Int) (w : World) (h : IsBlk 25 b (N * 6) Q w) (hN : N ≤ 1048576) (hv : LsAt va M LN L w) (hM : M ≤ 1048576) (hls : ∀ i, i < M → LN i ≤ 1048576) :
    Calls Try.prog 19 #[.slice (some ⟨b, 0, none⟩) N lk, .slice va M vk] w fun e w' => (∃ r : Int, e = .returned (.int .i64 r) ∧ Al.FoEnd Q N LN L M r) ∧ Below w.heap.size w w' := by
  have H := Lib.hid h
  have HV := Lib.hid hv
  have HL := Lib.hid hls
  clear h hv hls
  by_cases c1 : (400 : Int) < (N : Int)
  · have HE : Hid (Al.FoEnd Q N LN L M 0) := Or.inl ⟨Or.inl (by omega), rfl⟩
    go_enter Try.func19, Try.ntmps19
    go_wp2_with fail
    go_ret
    exact ⟨⟨_, rfl, HE.out⟩, Below.refl _ _⟩
  by_cases c2 : (400 : Int) < (M : Int)
  · have HE : Hid (Al.FoEnd Q N LN L M 0) := Or.inl ⟨Or.inr (by omega), rfl⟩
    go_enter Try.func19, Try.ntmps19
    go_wp2_with fail
    go_ret
    exact ⟨⟨_, rfl, HE.out⟩, Below.refl _ _⟩
  have HNO : Hid (¬ (400 < N ∨ 400 < M)) := by show ¬ _; omega
  go_enter Try.func19, Try.ntmps19
  go_wp2_with fail
  refine (panelRight_any _ N lk Q va M vk LN L _ H.out.at_ hN HV.out hM HL.out).mono ?_
  rintro e w1 ⟨rfl, hb⟩
  have HB := Lib.hid hb
  clear hb
  by_cases c : Al.PanelOk Q N LN L M
  case neg =>
    have HE : Hid (Al.FoEnd Q N LN L M (-1)) := Or.inr (Or.inl ⟨HNO.out, c, rfl⟩)
    rw [Mt.dB_ff c]
    clear c
    go_wp2_with fail
    go_ret
    exact ⟨⟨_, rfl, HE.out⟩, HB.out⟩
  rw [Mt.dB_tt c]
  have HOK := Lib.hid c
  obtain rfl : M = N := c.2.1
  clear c
  go_wp2_with fail
  refine (newPanel_any b M lk Q _ (H.out.below HB.out) HOK.out.1).mono ?_
  rintro e w2 ⟨p, q, c, rfl, hS⟩
  have HS := Lib.hid hS
  clear hS
  go_wp2_with fail
  refine (takeAll_any w1 p q M c Q va vk LN L _ HS.out (HV.out.below HB.out) HOK.out).mono ?_
  rintro e w3 ⟨rfl, A, d, f, hS, hF⟩
  have HE : Hid (Al.FoEnd Q M LN L M f) := Or.inr (Or.inr ⟨HNO.out, HOK.out, hF⟩)
  have HB3 : Hid (Below w.heap.size w w3) := HB.out.trans (hS.old.mono HB.out.size)
  obtain ⟨⟨p0, p1, p2, p3, p4⟩, _⟩ := rowN5p hS.row
  clear hS hF HS
  go_wp2_with fail
  go_ret
  exact ⟨⟨_, rfl, HE.out⟩, HB3.out⟩
end Go.Proofs.Ytnfdamkjkclnmaa
