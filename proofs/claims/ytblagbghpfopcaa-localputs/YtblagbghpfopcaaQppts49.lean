/-
  Stage 19: local.Least.
  Stage 19: the anchor: one repair that the document fixes.
-/
import Derived.Test.YtblagbghpfopcaaQppts00
import Derived.Test.YtblagbghpfopcaaQppts48
import Derived.Test.YtblagbghpfopcaaQppts40
set_option maxRecDepth 100000
set_option maxHeartbeats 16000000
namespace Go.Proofs.Ytblagbghpfopcaa
open Go.RowKit Go.Shelf
attribute [local go_sem] Oper.semAt_some
theorem qi4 {H : Nat → Nat} {r t b : Nat} (hb : b < r) : ext0 (fun j => H (b * t + j)) t = m2 H r t b := funext fun j => by
 unfold ext0
 by_cases hj : j < t
 ·rw [if_pos hj, qaw _ hb hj]
 ·rw [if_neg hj, qag _ (by omega)]
/-- What Least answers of a generator. -/
def LeaP (w w' : World) (e : Ending) (M : Nat → Nat → Nat) (r b : Nat) (C : Nat → Nat) (G : Nat → Nat → Nat) : Prop :=
 (∃ er : Nat, e = .returned (.tuple #[.int .u64 0, .slice none 0 0, .bool false, .int .i64 (er : Int)]) ∧ SrP M r b C G 0 false er ∧ Below w.heap.size w w') ∨
 (∃ (x g : Nat) (P : Nat → Nat), e = .returned (.tuple #[.int .u64 (x : Int), .slice (some ⟨g, 0, none⟩) r r, .bool true, .int .i64 0]) ∧ SrP M r b C G x true 0 ∧ CmbS M r b x P ∧ RowAt w' g 5 r P ∧ w.heap.size ≤ g ∧ Below w.heap.size w w')
theorem qes (w : World) (r c b E : Int) (n k : Nat) (a : Option Addr) (h : WrgE r c b n E) (hE : E ≠ 0) :
  Calls Try.prog 5 #[mv r c a n k, .int .i64 b] w fun e w' => e = .returned (.tuple #[.int .u64 0, .slice none 0 0, .bool false, .int .i64 E]) ∧ Below w.heap.size w w' := by
 have HP : Hid (∀ w' : World, Calls Try.prog 17 #[mv r c a n k, .int .i64 b] w' fun e w'' => e = .returned (.int .i64 E) ∧ Below w'.heap.size w' w'') := fun w' => lwrong w' r c b E n k a h
 have g1 : (E != 0) = true := by simpa using hE
 have g2 : (E == 0) = false := by simpa using hE
 clear h hE
 go_enter Try.func5, Try.ntmps5
 go_wp2_with (go_at_call 17; refine (HP.out _).mono ?_; rintro e w1 ⟨rfl, hb⟩; have HB1 : Hid (Below w.heap.size w w1) := qa1 (qa0 _ _) hb; clear hb)
 refine bodyPost_ret (v := .tuple #[.int .u64 0, .slice none 0 0, .bool false, .int .i64 E]) (by simp [results, Try.results5, go_sem]) rfl ?_
 exact ⟨rfl, HB1.out⟩
theorem qg9 (w : World) (r c n k b : Nat) (a : Option Addr) (F : Nat → Nat) (ha : Mt w a n k F) (R : Rt r c n) (hg : GenQ r c n) (hb : b < r) (C : Nat → Nat) (f ix G : Nat → Nat → Nat) (O : qg7 r b C f ix G) :
  Calls Try.prog 5 #[mv r c a n k, .int .i64 (b : Int)] w fun e w' => LeaP w w' e (m2 F r c) r b C G := by
 have hr := R.r64
 have HWr : Hid (∀ w' : World, Calls Try.prog 17 #[mv r c a n k, .int .i64 (b : Int)] w' fun e w'' => e = .returned (.int .i64 0) ∧ Below w'.heap.size w' w'') := fun w' => lwrong w' r c b 0 n k a (.inr (.inr ⟨hg, ⟨by omega, by omega⟩, rfl⟩))
 obtain ⟨wb, HW⟩ : ∃ wb, Hid (wb = w.alloc (.cells #[.int .i64 (r : Int), .int .i64 (c : Int), .slice a n k] 24)) := ⟨_, rfl⟩
 have HVa : Hid (Vr wb w.heap.size (.int .i64 (r : Int)) (.int .i64 (c : Int)) (.slice a n k)) := by show Vr _ _ _ _ _; rw [HW.out]; exact Vr.new _ _ _ _
 have HB0 : Hid (Below w.heap.size w wb) := by rw [HW.out]; exact qa0 _ _
 have HA := qa6 ha
 have HR := qa6 R
 have HO := qa6 O
 have HMe := qa6 (qaz ha.sl.1 R)
 clear ha R O hg
 go_enter Try.func5, Try.ntmps5
 go_wp2_with (first
  | (go_at_call 17; rw [← HW.out]; refine (HWr.out _).mono ?_; rintro e w1 ⟨rfl, hb1⟩; have HV1 : Hid (Vr w1 w.heap.size (.int .i64 (r : Int)) (.int .i64 (c : Int)) (.slice a n k)) := HVa.out.later hb1; have HB1 : Hid (Below w.heap.size w w1) := qa1 HB0.out hb1; have u0 := HV1.out.c0; have u1 := HV1.out.c1; have u2 := HV1.out.c2; clear hb1)
  | (go_at_call 18; refine (lfew_ok _ r c n k a F (HA.out.later HB1.out) HR.out).mono ?_; rintro e w2 ⟨g, top, N, H, rfl, hrow, hH, RN, hK, hb2⟩; have HH : Hid (∀ q, q < N → H q < 256) := hH; have HRN : Hid (Rt r top N) := RN; have HK : Hid (KerEq (m2 F r c) (m2 H r top) r) := hK; have HM2 : Hid (Mt (w2.alloc (.cells #[.int .i64 (r : Int), .int .i64 (top : Int), .slice (some ⟨g, 0, none⟩) N N] 24)) (some ⟨g, 0, none⟩) N N H) := (hrow.mt hH).later (qa0 _ _); have HVb : Hid (Vr (w2.alloc (.cells #[.int .i64 (r : Int), .int .i64 (top : Int), .slice (some ⟨g, 0, none⟩) N N] 24)) w2.heap.size (.int .i64 (r : Int)) (.int .i64 (top : Int)) (.slice (some ⟨g, 0, none⟩) N N)) := Vr.new _ _ _ _; have HV2 : Hid (Vr (w2.alloc (.cells #[.int .i64 (r : Int), .int .i64 (top : Int), .slice (some ⟨g, 0, none⟩) N N] 24)) w.heap.size (.int .i64 (r : Int)) (.int .i64 (c : Int)) (.slice a n k)) := (HV1.out.later hb2).later (qa0 _ _); have HB2 : Hid (Below w.heap.size w (w2.alloc (.cells #[.int .i64 (r : Int), .int .i64 (top : Int), .slice (some ⟨g, 0, none⟩) N N] 24))) := qa1 (qa1 HB1.out hb2) (qa0 _ _); clear hrow hH RN hK hb2)
  | (go_at_call 19; refine (lsearch _ r top N N b (some ⟨g, 0, none⟩) H HM2.out HRN.out hb C f ix G HO.out).mono ?_))
 rintro e w3 ⟨x, v, er, rfl, hs3, hb3⟩
 have HS3 : Hid (SrP (m2 F r c) r b C G x v er) := hs3.ker (qaz HH.out HRN.out) HMe.out HK.out.symm hb
 have HB3 : Hid (Below w.heap.size w w3) := qa1 HB2.out hb3
 have HM3 : Hid (Mt w3 (some ⟨g, 0, none⟩) N N H) := HM2.out.later hb3
 have HVb3 : Hid (Vr w3 w2.heap.size (.int .i64 (r : Int)) (.int .i64 (top : Int)) (.slice (some ⟨g, 0, none⟩) N N)) := HVb.out.later hb3
 have HV3 : Hid (Vr w3 w.heap.size (.int .i64 (r : Int)) (.int .i64 (c : Int)) (.slice a n k)) := HV2.out.later hb3
 have hs := hs3.lst HO.out hb
 clear hb3 HV1 HV2 HVb HM2 HB1 HB2 HWr HVa HB0 HW u0 u1 u2 HA
 cases v
 ·clear hs hs3
  have hnv : (!false) = true := rfl
  go_wp2
  refine bodyPost_ret (v := .tuple #[.int .u64 0, .slice none 0 0, .bool false, .int .i64 (er : Int)]) (by simp [results, Try.results5, go_sem]) rfl ?_
  have h0 : x = 0 := by
   rcases HS3.out with ⟨h, _⟩ | ⟨h, _⟩ | ⟨h, _⟩
   ·exact h
   ·exact absurd h (by decide)
   ·exact h
  exact .inl ⟨er, rfl, by rw [← h0]; exact HS3.out, HB3.out⟩
 ·have hl : LstS (m2 H r top) r b x := by
   rcases hs with ⟨_, h1, _⟩ | ⟨_, _, hl⟩ | ⟨_, h1, _⟩
   ·exact absurd h1 (by decide)
   ·exact hl
   ·exact absurd h1 (by decide)
  have he0 : er = 0 := by
   rcases hs with ⟨_, h1, _⟩ | ⟨_, h, _⟩ | ⟨_, h1, _⟩
   ·exact absurd h1 (by decide)
   ·exact h
   ·exact absurd h1 (by decide)
  subst he0
  have hnv : (!true) = false := rfl
  have HHe := qa6 (qaz HH.out HRN.out)
  have HLs := qa6 hl
  obtain ⟨K, hK⟩ : ∃ K, cn x r = K := ⟨_, rfl⟩
  obtain ⟨q, hq⟩ : ∃ q, lf x r = q := ⟨_, rfl⟩
  have HLi := ql0 (f := q) (K := K) (qce hr hl.lt) (by rw [qfx hr hl.lt]; exact hK) (fun i _ => by rw [qkp hr hl.lt, hq])
  have hKr : K ≤ 64 := by rw [← hK]; exact Nat.le_trans (qb1 r x) hr
  have HQ : Hid (∀ i, i < K → q i < r) := fun i hi => by rw [← hq]; exact (qb2 (by rw [hK]; exact hi)).1
  have HU : Hid (∀ i t, i < t → t < K → q i < q t) := fun i t h1 h2 => by rw [← hq]; exact qlc h1 (by rw [hK]; exact h2)
  obtain ⟨NP, HNP⟩ : ∃ NP, Hid (K * top = NP) := ⟨_, rfl⟩
  have RP : Rt K top NP := ⟨hKr, HRN.out.c64, HNP.out⟩
  have HRP := qa6 RP
  have HPl : Hid (∀ i, i < NP → pkf H q top i < 256) := fun i hi => qfs HH.out HRN.out HQ.out i (by rw [HNP.out]; exact hi)
  have HSp : Hid (Spn (m2 (pkf H q top) K top) K (ext0 (fun j => H (b * top + j)) top)) := by
   rw [qi4 hb, ← hq, ← hK]
   exact (pick_ss HH.out HRN.out).2 hl.is
  have HEq : Hid (∀ X, CmbA (pkf H q top) (fun j => H (b * top + j)) K top X → CmbS (m2 F r c) r b x (spr x X)) := fun X hX => by
   refine (cmbs_of HHe.out hr HLs.out hX.1.1 (fun j => ?_)).ker HHe.out HMe.out HK.out.symm hb
   have h1 := hX.2 j
   rw [qi4 hb] at h1
   rw [h1, hq, hK]
   exact qb4 (fun _ _ => rfl) (fun i hi => by rw [qfg HQ.out hi])
  have HPP : Hid (∀ X i, i < r → pp q K X i = spr x X i) := fun X i hi => by rw [← hq, ← hK]; exact pp_spr X hi
  have hKi : (0 : Int) ≤ (K : Int) := by omega
  have b0 := HVb3.out.c0
  have b1 := HVb3.out.c1
  have b2 := HVb3.out.c2
  clear hs hs3 hl hK hq RP HK
  go_wp2_with (first
   | (go_at_call 20; refine (HLi.out _).mono ?_; rintro e w4 ⟨xs, xd, rfl, hil, hb4⟩; have HB4 : Hid (Below w.heap.size w w4) := qa1 HB3.out hb4; have HM4 : Hid (Mt w4 (some ⟨g, 0, none⟩) N N H) := HM3.out.later hb4; have HVb4 : Hid (Vr w4 w2.heap.size (.int .i64 (r : Int)) (.int .i64 (top : Int)) (.slice (some ⟨g, 0, none⟩) N N)) := HVb3.out.later hb4; have HV4 : Hid (Vr w4 w.heap.size (.int .i64 (r : Int)) (.int .i64 (c : Int)) (.slice a n k)) := HV3.out.later hb4; have HIl4 := qa6 hil; have d0 := HVb4.out.c0; have d1 := HVb4.out.c1; have d2 := HVb4.out.c2; clear hb4 hil)
   | (go_at_call 21; refine (qhc _ r top N N K xd NP (some ⟨g, 0, none⟩) xs H q HM4.out HRN.out HIl4.out HQ.out hKr HNP).mono ?_; rintro e w5 ⟨g5, rfl, hr5, hg5, hb5⟩; have HB5 : Hid (Below w.heap.size w (w5.alloc (.cells #[.int .i64 (K : Int), .int .i64 (top : Int), .slice (some ⟨g5, 0, none⟩) NP NP] 24))) := qa1 (qa1 HB4.out hb5) (qa0 _ _); have HP5 : Hid (Mt (w5.alloc (.cells #[.int .i64 (K : Int), .int .i64 (top : Int), .slice (some ⟨g5, 0, none⟩) NP NP] 24)) (some ⟨g5, 0, none⟩) NP NP (pkf H q top)) := (hr5.mt HPl.out).later (qa0 _ _); have HM5 : Hid (Mt (w5.alloc (.cells #[.int .i64 (K : Int), .int .i64 (top : Int), .slice (some ⟨g5, 0, none⟩) NP NP] 24)) (some ⟨g, 0, none⟩) N N H) := (HM4.out.later hb5).later (qa0 _ _); have HVb5 : Hid (Vr (w5.alloc (.cells #[.int .i64 (K : Int), .int .i64 (top : Int), .slice (some ⟨g5, 0, none⟩) NP NP] 24)) w2.heap.size (.int .i64 (r : Int)) (.int .i64 (top : Int)) (.slice (some ⟨g, 0, none⟩) N N)) := (HVb4.out.later hb5).later (qa0 _ _); have HVc5 : Hid (Vr (w5.alloc (.cells #[.int .i64 (K : Int), .int .i64 (top : Int), .slice (some ⟨g5, 0, none⟩) NP NP] 24)) w5.heap.size (.int .i64 (K : Int)) (.int .i64 (top : Int)) (.slice (some ⟨g5, 0, none⟩) NP NP)) := Vr.new _ _ _ _; have HV5 : Hid (Vr (w5.alloc (.cells #[.int .i64 (K : Int), .int .i64 (top : Int), .slice (some ⟨g5, 0, none⟩) NP NP] 24)) w.heap.size (.int .i64 (r : Int)) (.int .i64 (c : Int)) (.slice a n k)) := (HV4.out.later hb5).later (qa0 _ _); have HIl5 : Hid (Il (w5.alloc (.cells #[.int .i64 (K : Int), .int .i64 (top : Int), .slice (some ⟨g5, 0, none⟩) NP NP] 24)) xs K (fun i => (q i : Int))) := (HIl4.out.later hb5).later (qa0 _ _); have x0 := HVb5.out.c0; have x1 := HVb5.out.c1; have x2 := HVb5.out.c2; clear hr5 hg5 hb5)
   | (go_at_call 22; refine (mrow_ok _ r top N N b (some ⟨g, 0, none⟩) H HM5.out HRN.out hb).mono ?_; rintro e w6 h6; obtain ⟨ys, yd, rfl, hy, hb6⟩ := ql1 HH.out HRN.out hb h6; have HB6 : Hid (Below w.heap.size w w6) := qa1 HB5.out hb6; have HY6 := qa6 hy; have HP6 : Hid (Mt w6 (some ⟨g5, 0, none⟩) NP NP (pkf H q top)) := HP5.out.later hb6; have HVc6 : Hid (Vr w6 w5.heap.size (.int .i64 (K : Int)) (.int .i64 (top : Int)) (.slice (some ⟨g5, 0, none⟩) NP NP)) := HVc5.out.later hb6; have HV6 : Hid (Vr w6 w.heap.size (.int .i64 (r : Int)) (.int .i64 (c : Int)) (.slice a n k)) := HV5.out.later hb6; have HIl6 : Hid (Il w6 xs K (fun i => (q i : Int))) := HIl5.out.later hb6; have z0 := HVc6.out.c0; have z1 := HVc6.out.c1; have z2 := HVc6.out.c2; clear hy hb6 h6)
   | (go_at_call 23; refine (qkz _ K top NP NP yd (some ⟨g5, 0, none⟩) ys (pkf H q top) _ HP6.out HRP.out HY6.out HSp.out).mono ?_; rintro e w7 ⟨cs, cd, X, rfl, hm7, hX, hb7⟩; have HB7 : Hid (Below w.heap.size w w7) := qa1 HB6.out hb7; have HM7 := qa6 hm7; have HX7 := qa6 (HEq.out X hX); have HV7 : Hid (Vr w7 w.heap.size (.int .i64 (r : Int)) (.int .i64 (c : Int)) (.slice a n k)) := HV6.out.later hb7; have HIl7 : Hid (Il w7 xs K (fun i => (q i : Int))) := HIl6.out.later hb7; have y0 := HV7.out.c0; clear hm7 hX hb7)
   | (go_at_call 24; refine (lplaced _ r K xd cd xs cs q X hr hKr HQ.out HU.out HIl7.out HM7.out.sl).mono ?_; rintro e w8 ⟨g8, rfl, hr8, hg8, hb8⟩; have HR8 : Hid (RowAt w8 g8 5 r (spr x X)) := hr8.congr (fun i hi => HPP.out X i hi); have HB8 : Hid (Below w.heap.size w w8) := qa1 HB7.out hb8; have hg9 : w.heap.size ≤ g8 := Nat.le_trans HB7.out.size hg8; clear hr8 hg8 hb8))
  refine bodyPost_ret (v := .tuple #[.int .u64 (x : Int), .slice (some ⟨g8, 0, none⟩) r r, .bool true, .int .i64 0]) (by simp [results, Try.results5, go_sem]) rfl ?_
  exact .inr ⟨x, g8, spr x X, rfl, HS3.out, HX7.out, HR8.out, hg9, HB8.out⟩
open Go.RowKit Go.Shelf
attribute [local go_sem] Oper.semAt_some
theorem ss_two {M : Nat → Nat → Nat} {R s i j : Nat} {y : Nat → Nat} (h : SS M R s y) (h0 : ∀ q, q < R → bt s q = 1 → M q i = M q j) : y i = y j := by
 obtain ⟨a, _, hy⟩ := h
 rw [hy i, hy j]
 refine qa5 (fun q hq => ?_)
 show fm (a q) (mk M s q i) = fm (a q) (mk M s q j)
 unfold mk
 split
 ·rw [h0 q hq (by assumption)]
 ·rfl
theorem g5_need {t : Nat} (hb : ¬ bt t 0 = 1) (hs : SS (m2 g5 5 2) 5 t (m2 g5 5 2 0)) : bt t 1 = 1 ∧ (bt t 2 = 1 ∨ bt t 3 = 1) := by
 have five : ∀ q, q < 5 → q = 0 ∨ q = 1 ∨ q = 2 ∨ q = 3 ∨ q = 4 := fun q hq => by omega
 constructor
 ·refine Classical.byContradiction (fun hn => ?_)
  have h := ss_two (i := 0) (j := 1) hs (fun q hq hqb => by
   rcases five q hq with rfl | rfl | rfl | rfl | rfl
   ·exact absurd hqb hb
   ·exact absurd hqb hn
   ·decide
   ·decide
   ·decide)
  exact absurd h (by decide)
 ·refine Classical.byContradiction (fun hn => ?_)
  have h := ss_col (j := 0) hs (fun q hq hqb => by
   rcases five q hq with rfl | rfl | rfl | rfl | rfl
   ·exact absurd hqb hb
   ·decide
   ·exact absurd (Or.inl hqb) hn
   ·exact absurd (Or.inr hqb) hn
   ·decide)
  exact absurd h (by decide)
theorem g5_least : ∀ t, t < 32 → bt t 1 = 1 → (bt t 2 = 1 ∨ bt t 3 = 1) → 2 ≤ cn t 5 ∧ (cn t 5 = 2 → pla 6 5 ≤ pla t 5) := by decide +kernel
/-- The factors. -/
def p5 (i : Nat) : Nat := if i = 1 then 1 else if i = 2 then 1 else 0
theorem p5_el : El p5 := fun i => by
 unfold p5
 repeat' split
 all_goals decide
theorem g5_sum (j : Nat) : m2 g5 5 2 0 j = lc p5 (m2 g5 5 2) 5 j := by
 by_cases hj : j < 2
 ·rcases (by omega : j = 0 ∨ j = 1) with rfl | rfl <;> decide
 ·rw [qag _ (by omega)]
  exact (qac (fun i _ => by rw [qag _ (by omega), qa7])).symm
theorem g5_out (i : Nat) (h : ¬ bt 6 i = 1) : p5 i = 0 := by
 unfold p5
 by_cases h1 : i = 1
 ·subst h1; exact absurd (by decide) h
 ·by_cases h2 : i = 2
  ·subst h2; exact absurd (by decide) h
  ·rw [if_neg h1, if_neg h2]
theorem g5_comb : CmbS (m2 g5 5 2) 5 0 6 p5 :=
 ⟨p5_el, fun i hi => by
  rcases (by omega : i = 0 ∨ i = 1 ∨ i = 2 ∨ i = 3 ∨ i = 4) with rfl | rfl | rfl | rfl | rfl <;> decide, g5_out, g5_sum⟩
theorem g5_lst : LstS (m2 g5 5 2) 5 0 6 :=
 ⟨by decide, by decide, ⟨p5, p5_el, fun j => by rw [g5_sum j, ← lc_mk g5_out j]⟩, fun t ht htb hs => by
  obtain ⟨h1, h2⟩ := g5_need htb hs
  exact g5_least t ht h1 h2⟩
theorem g5_six : ∀ t, t < 32 → cn 6 5 = cn t 5 → pla 6 5 = pla t 5 → t = 6 := by decide +kernel
/-- Least's answer at the document's matrix. -/
theorem g5_ans {w w' : World} {e : Ending} {C : Nat → Nat} {f ix G : Nat → Nat → Nat} (O : qg7 5 0 C f ix G) (hC : ∀ k j, k < 5 → j < C k → sm19 C k + j ≠ 16384) (h : LeaP w w' e (m2 g5 5 2) 5 0 C G) : ∃ g : Nat, e = .returned (.tuple #[.int .u64 6, .slice (some ⟨g, 0, none⟩) 5 5, .bool true, .int .i64 0]) ∧ RowAt w' g 5 5 p5 ∧ w.heap.size ≤ g ∧ Below w.heap.size w w' := by
 rcases h with ⟨er, _, h, _⟩ | ⟨x, g, P, he, hs, hc, hr, hg, hb⟩
 ·rcases h with ⟨_, _, _, h4⟩ | ⟨h1, _⟩ | ⟨_, _, _, k, j, hk, hj, h4, _⟩
  ·exact absurd g5_lst.is (h4 6 (by decide) (by decide))
  ·exact absurd h1 (by decide)
  ·exact absurd h4 (hC k j hk hj)
 ·rcases hs.lst O (by decide) with ⟨_, h1, _⟩ | ⟨_, _, hl⟩ | ⟨_, h1, _⟩
  ·exact absurd h1 (by decide)
  ·obtain ⟨e1, e2⟩ := g5_lst.one hl
   have hx := g5_six x hl.lt e1 e2
   subst hx
   exact ⟨g, he, hr.congr (fun i hi => hc.one g5_el (by decide) hl g5_comb i hi), hg, hb⟩
  ·exact absurd h1 (by decide)
/-- All sets of the search are no more than the sets of all others. -/
theorem qj1 {C D : Nat → Nat} : ∀ k, (∀ i, i < k → C i = D i) → sm19 C k = sm19 D k := by
 intro k
 induction k with
 | zero => intro _; rfl
 | succ k ih => intro h; show sm19 C k + C k = sm19 D k + D k; rw [ih (fun i hi => h i (by omega)), h k (by omega)]
theorem qld : ∀ k, sm19 (bin 0) (k + 1) = 1 := by
 intro k
 induction k with
 | zero => rfl
 | succ k ih => show sm19 (bin 0) (k + 1) + bin 0 (k + 1) = 1; rw [ih, qf7]
theorem qle (m : Nat) : ∀ k, sm19 (bin (m + 1)) (k + 1) = sm19 (bin m) (k + 1) + sm19 (bin m) k := by
 intro k
 induction k with
 | zero => show 0 + bin (m + 1) 0 = 0 + bin m 0 + 0; rw [qap, qap]
 | succ k ih =>
  show sm19 (bin (m + 1)) (k + 1) + bin (m + 1) (k + 1) = (sm19 (bin m) (k + 1) + bin m (k + 1)) + (sm19 (bin m) k + bin m k)
  rw [ih, qat]
  omega
theorem sm19_bin : ∀ m k, sm19 (bin m) k ≤ 2 ^ m := by
 intro m
 induction m with
 | zero =>
  intro k
  cases k with
  | zero => exact Nat.zero_le _
  | succ k => rw [qld]; decide
 | succ m ih =>
  intro k
  cases k with
  | zero => exact Nat.zero_le _
  | succ k =>
   rw [qle, Nat.pow_succ]
   have := ih (k + 1)
   have := ih k
   omega
theorem few19 {r b : Nat} {C : Nat → Nat} {f ix G : Nat → Nat → Nat} (O : qg7 r b C f ix G) (hr : r ≤ 15) : ∀ k j, k < r → j < C k → sm19 C k + j ≠ 16384 := fun k j hk hj => by
 have h1 := sm19_bin (r - 1) (k + 1)
 rw [← qj1 (C := C) (k + 1) (fun i hi => (O i (by omega)).cnt)] at h1
 have h2 : 2 ^ (r - 1) ≤ 2 ^ 14 := Nat.pow_le_pow_right (by decide) (by omega)
 have h3 : (2 : Nat) ^ 14 = 16384 := by decide
 have h4 : sm19 C (k + 1) = sm19 C k + C k := rfl
 omega
theorem p5_row (w : World) : RowAt (w.alloc (.cells #[.int .u8 0, .int .u8 1, .int .u8 1, .int .u8 0, .int .u8 0] 5)) w.heap.size 5 5 p5 := by
 unfold RowAt
 rw [qbu]
 kernel_rfl
theorem qet (w : World) : Calls Try.prog 7 #[] w fun e w' => e = .returned (.bool true) ∧ Below w.heap.size w w' := by
 obtain ⟨C, fs, ix, G, O⟩ := qi3 5 0 (by decide) (by decide)
 obtain ⟨f, HF⟩ : ∃ f, Hid (g5 = f) := ⟨_, rfl⟩
 obtain ⟨p, HP⟩ : ∃ p, Hid (p5 = p) := ⟨_, rfl⟩
 have HG : Hid (∀ w : World, Mt (w.alloc (.cells #[.int .u8 1, .int .u8 0, .int .u8 0, .int .u8 1, .int .u8 1, .int .u8 1, .int .u8 2, .int .u8 2, .int .u8 0, .int .u8 0] 5)) (some ⟨w.heap.size, 0, none⟩) 10 10 f) := fun w => by
  rw [← HF.out]
  exact (g5_row w).mt (fun i _ => g5_lt i)
 have HPr : Hid (∀ w : World, Mt (w.alloc (.cells #[.int .u8 0, .int .u8 1, .int .u8 1, .int .u8 0, .int .u8 0] 5)) (some ⟨w.heap.size, 0, none⟩) 5 5 p) := fun w => by
  rw [← HP.out]
  exact (p5_row w).mt (fun i _ => p5_el i)
 have HPe : Hid (∀ i, i < 5 → p i < 256) := fun i _ => by rw [← HP.out]; exact p5_el i
 have HL : Hid (∀ (w : World) (a : Option Addr), Mt w a 10 10 f → Calls Try.prog 5 #[mv 5 2 a 10 10, .int .i64 0] w fun e w' => ∃ g : Nat, e = .returned (.tuple #[.int .u64 6, .slice (some ⟨g, 0, none⟩) 5 5, .bool true, .int .i64 0]) ∧ RowAt w' g 5 5 p ∧ w.heap.size ≤ g ∧ Below w.heap.size w w') := fun w a h => by
  rw [← HF.out] at h
  rw [← HP.out]
  exact (qg9 w 5 2 10 10 0 a g5 h g5_rt ⟨g5_rt.p, by decide, by decide⟩ (by decide) C fs ix G O).mono (fun e w' hh => g5_ans O (few19 O (by decide)) hh)
 clear HF HP O
 go_enter Try.func7, Try.ntmps7
 go_wp2_with (first
  | (go_at_call 5; refine (HL.out _ _ ((HG.out w).later (qa0 _ _))).mono ?_; rintro e w1 ⟨g, rfl, hr, hg, hb⟩; have HR1 : Hid (RowAt w1 g 5 5 p) := hr; have HB1 : Hid (Below w.heap.size w w1) := qa1 (qa1 (qa0 _ _) (qa0 _ _)) hb; clear hr hg hb)
  | (go_at_call 15; refine (same7 _ _ _ 5 5 5 p ((HR1.out.mt HPe.out).later (qa0 _ _)) (HPr.out w1)).mono ?_; rintro e w2 ⟨rfl, hb⟩; have HB2 : Hid (Below w.heap.size w w2) := qa1 (qa1 HB1.out (qa0 _ _)) hb; clear hb))
 go_ret
 exact ⟨rfl, HB2.out⟩
end Go.Proofs.Ytblagbghpfopcaa
