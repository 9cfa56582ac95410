/-
  Stage 19: the reference's Choices.
-/
import Derived.Test.YtblagbghpfopcaaGreatQsses00
import Derived.Test.YtblagbghpfopcaaGreatQsses48
import Derived.Test.YtblagbghpfopcaaGreatQsses46
set_option maxRecDepth 100000
set_option maxHeartbeats 16000000
namespace Go.Proofs.YtblagbghpfopcaaGreat
open Go.RowKit Go.Shelf
attribute [local go_sem] Oper.semAt_some
theorem qkb (w : World) (c : Int) (r n k b s : Nat) (a : Option Addr) (hr : r ≤ 64) (hb : b < r) (hs : s < 2 ^ r) (hbs : bt s b = 1) :
  Calls Tryz.prog 34 #[mv r c a n k, .int .i64 (b : Int), .int .u64 (s : Int)] w fun e w' => e = .returned (.bool false) ∧ Below w.heap.size w w' := by
 have HHa := jhid7 (qgf (o := true) hr hs hb ⟨fun _ => hbs, fun _ => rfl⟩)
 clear hbs hs
 go_enter Tryz.func34, Tryz.ntmps34
 go_wp2_with (go_at_call 20; refine (HHa.out _).mono ?_; rintro e w1 ⟨rfl, hb1⟩; have HB1 : Hid (Below w.heap.size w w1) := qa0 (qa1 _ _) hb1; clear hb1)
 go_ret
 exact ⟨rfl, HB1.out⟩
theorem rrepG19 (w : World) (r c n k b s : Nat) (a : Option Addr) (F : Nat → Nat) (v : Bool) (ha : Mt w a n k F) (R : Rt r c n) (hb : b < r) (hs : s < 2 ^ r) (hv : v = true ↔ (¬ bt s b = 1 ∧ SS (m2 F r c) r s (m2 F r c b))) :
  Calls Tryz.prog 34 #[mv r c a n k, .int .i64 (b : Int), .int .u64 (s : Int)] w fun e w' => e = .returned (.bool v) ∧ Below w.heap.size w w' := by
 by_cases hbs : bt s b = 1
 ·have e : v = false := by
   cases v
   ·rfl
   ·exact absurd hbs (hv.1 rfl).1
  rw [e]
  exact qkb w c r n k b s a R.r64 hb hs hbs
 ·exact qmq w r c n k b s a F v ha R hb hs hbs ⟨fun h => (hv.1 h).2, fun h => hv.2 ⟨hbs, h⟩⟩
theorem qh8 (w : World) (r c b E most : Int) (n k : Nat) (a : Option Addr) (h : WrgE r c b n E) (hE : E ≠ 0) :
  Calls Tryz.prog 13 #[mv r c a n k, .int .i64 b, .int .i64 most] w fun e w' => e = .returned (.tuple #[.slice none 0 0, .int .i64 E]) ∧ Below w.heap.size w w' := by
 have HP : Hid (∀ w' : World, Calls Tryz.prog 8 #[mv r c a n k, .int .i64 b] w' fun e w'' => e = .returned (.tuple #[.int .u64 0, .slice none 0 0, .bool false, .int .i64 E]) ∧ Below w'.heap.size w' w'') := fun w' => qh7 w' r c b E n k a h hE
 have g1 : (E != 0) = true := by simpa using hE
 have g2 : (E == 0) = false := by simpa using hE
 clear h hE
 go_enter Tryz.func13, Tryz.ntmps13
 go_wp2_with (go_at_call 8; refine (HP.out _).mono ?_; rintro e w1 ⟨rfl, hb⟩; have HB1 : Hid (Below w.heap.size w w1) := qa0 (qa1 _ _) hb; clear hb)
 refine bodyPost_ret (v := .tuple #[.slice none 0 0, .int .i64 E]) (by simp [results, Tryz.results13, go_sem]) rfl ?_
 exact ⟨rfl, HB1.out⟩
theorem qhy (w : World) (r c n k0 b : Nat) (most : Int) (a : Option Addr) (F : Nat → Nat) (ha : Mt w a n k0 F) (R : Rt r c n) (hg : GenQ r c n) (hb : b < r) (C : Nat → Nat) (f ix G : Nat → Nat → Nat) (O : qc7 r b C f ix G) :
  Calls Tryz.prog 13 #[mv r c a n k0, .int .i64 (b : Int), .int .i64 most] w fun e w' => ChP w w' e (m2 F r c) r b C G most := by
 have hr := R.r64
 obtain ⟨wb, HW⟩ : ∃ wb, Hid (wb = w.alloc (.cells #[.int .i64 (r : Int), .int .i64 (c : Int), .slice a n k0] 24)) := ⟨_, rfl⟩
 have HVa : Hid (Vr wb w.heap.size (.int .i64 (r : Int)) (.int .i64 (c : Int)) (.slice a n k0)) := by show Vr _ _ _ _ _; rw [HW.out]; exact Vr.new _ _ _ _
 have HB0 : Hid (Below w.heap.size w wb) := by rw [HW.out]; exact qa1 _ _
 have HLe : Hid (∀ w' : World, Below w.heap.size w w' → Calls Tryz.prog 8 #[mv r c a n k0, .int .i64 (b : Int)] w' fun e w'' => LeaP w' w'' e (m2 F r c) r b C G) := fun w' h => qf0 w' r c n k0 b a F (ha.later h) R hg hb C f ix G O
 have HA := qa3 ha
 have HR := qa3 R
 have HO := qa3 O
 obtain ⟨M, HM⟩ : ∃ M, Hid (m2 F r c = M) := ⟨_, rfl⟩
 rw [HM.out] at HLe ⊢
 have v0 := HVa.out.c0
 have v1 := HVa.out.c1
 have v2 := HVa.out.c2
 clear ha R O hg
 go_enter Tryz.func13, Tryz.ntmps13
 go_wp2_with (go_at_call 8; rw [← HW.out]; refine (HLe.out _ HB0.out).mono ?_)
 rintro e w1 (⟨er, rfl, hs, hb1⟩ | ⟨x, g, Q, rfl, hs, _, _, _, hb1⟩)
 ·have HS := qa3 hs
  have HB1 : Hid (Below w.heap.size w w1) := qa0 HB0.out hb1
  have he : er = 0 ∨ er = 4 := by
   rcases hs with ⟨_, _, h, _⟩ | ⟨h, _⟩ | ⟨_, _, h, _⟩
   ·exact .inl h
   ·exact absurd h (by decide)
   ·exact .inr h
  clear hb1 hs v0 v1 v2 HW
  rcases he with rfl | rfl
  ·have e00 : ((0 : Nat) : Int) = 0 := rfl
   rw [e00]
   clear e00
   by_cases hm0 : most < 0
   ·have d1 : decide (most < 0) = true := decide_eq_true hm0
    go_wp2
    refine bodyPost_ret (v := .tuple #[.slice none 0 0, .int .i64 2]) (by simp [results, Tryz.results13, go_sem]) rfl ?_
    exact ⟨0, false, 0, HS.out, HB1.out, .inr (.inl ⟨rfl, hm0, rfl⟩)⟩
   ·have d1 : decide (most < 0) = false := decide_eq_false hm0
    have hnv : (!false) = true := rfl
    go_wp2
    refine bodyPost_ret (v := .tuple #[.slice none 0 0, .int .i64 0]) (by simp [results, Tryz.results13, go_sem]) rfl ?_
    exact ⟨0, false, 0, HS.out, HB1.out, .inr (.inr (.inl ⟨rfl, by omega, rfl, rfl⟩))⟩
  ·have e44 : ((4 : Nat) : Int) = 4 := rfl
   rw [e44]
   clear e44
   go_wp2
   refine bodyPost_ret (v := .tuple #[.slice none 0 0, .int .i64 4]) (by simp [results, Tryz.results13, go_sem]) rfl ?_
   exact ⟨0, false, 4, HS.out, HB1.out, .inl ⟨by decide, rfl⟩⟩
 ·have HS := qa3 hs
  have HB1 : Hid (Below w.heap.size w w1) := qa0 HB0.out hb1
  have HV1 : Hid (Vr w1 w.heap.size (.int .i64 (r : Int)) (.int .i64 (c : Int)) (.slice a n k0)) := HVa.out.later hb1
  have hl : LstS M r b x := by
   rcases hs.lst HO.out hb with ⟨_, h1, _⟩ | ⟨_, _, hl⟩ | ⟨_, h1, _⟩
   ·exact absurd h1 (by decide)
   ·exact hl
   ·exact absurd h1 (by decide)
  clear hb1 hs v0 v1 v2 HW
  by_cases hm0 : most < 0
  ·have d1 : decide (most < 0) = true := decide_eq_true hm0
   clear hl
   go_wp2
   refine bodyPost_ret (v := .tuple #[.slice none 0 0, .int .i64 2]) (by simp [results, Tryz.results13, go_sem]) rfl ?_
   exact ⟨x, true, 0, HS.out, HB1.out, .inr (.inl ⟨rfl, hm0, rfl⟩)⟩
  ·have d1 : decide (most < 0) = false := decide_eq_false hm0
   have hnv : (!true) = false := rfl
   obtain ⟨mo, hmo⟩ : ∃ mo : Nat, most = (mo : Int) := ⟨most.toNat, by omega⟩
   have hmt : most.toNat = mo := by omega
   obtain ⟨k, HKk⟩ : ∃ k, Hid (cn x r = k) := ⟨_, rfl⟩
   have hkr : k < r := by rw [← HKk.out]; exact qde hb hl.none
   have HLi := qa3 (qja hr hl.lt)
   rw [HKk.out] at HLi
   obtain ⟨r1, hr1⟩ : ∃ r1, r - 1 = r1 := ⟨_, rfl⟩
   have er1 : (r : Int) - 1 = (r1 : Int) := by omega
   have HUp : Hid (∀ w' : World, Calls Tryz.prog 46 #[.int .i64 (r1 : Int), .int .i64 (k : Int)] w' fun e w'' => e = .returned (.tuple (upa (upv r1 (k : Int)))) ∧ Below w'.heap.size w' w'') := fun w' => rupto_ok r1 (k : Int) w' (by omega)
   have HCk : Hid (C k ≤ upv r1 (k : Int)) := by
    have h1 := (HO.out k hkr).cnt
    have h2 := qmn (m := r1) (k := k) (by omega)
    rw [hr1] at h1
    show _ ≤ _
    omega
   obtain ⟨U, HU⟩ : ∃ U, Hid (upv r1 (k : Int) = U) := ⟨_, rfl⟩
   rw [HU.out] at HUp HCk
   obtain ⟨uv, ue, hua, huc⟩ := qh5 U
   rw [hua] at HUp
   have m0 := HV1.out.c0
   have HUx : Hid (upv (r - 1) (cn x r : Int) = U) := by rw [HKk.out, hr1]; exact HU.out
   clear hl hua HLe
   by_cases hbad : 16384 < U
   ·have HX : Hid (16384 < upv (r - 1) (cn x r : Int)) := by rw [HUx.out]; exact hbad
    rcases huc with ⟨rfl, rfl, _⟩ | ⟨rfl, _⟩
    ·have d3 : decide ((16384 : Int) < (uv : Int)) = true := decide_eq_true (by omega)
     have d4 : decide (16384 < uv) = true := decide_eq_true hbad
     have e00 : ((0 : Nat) : Int) = 0 := rfl
     rw [e00] at HUp
     clear e00
     go_wp2_with (first
      | (go_at_call 21; refine (HLi.out _).mono ?_; rintro e w3 ⟨y3, z3, rfl, hb3⟩; have HB3 : Hid (Below w.heap.size w w3) := qa0 HB1.out hb3; have n0 := (HV1.out.later hb3).c0; clear hb3)
      | (go_at_call 46; refine (HUp.out _).mono ?_; rintro e w4 ⟨rfl, hb4⟩; have HB4 : Hid (Below w.heap.size w w4) := qa0 HB3.out hb4; clear hb4))
     refine bodyPost_ret (v := .tuple #[.slice none 0 0, .int .i64 4]) (by simp [results, Tryz.results13, go_sem]) rfl ?_
     exact ⟨x, true, 0, HS.out, HB4.out, .inr (.inr (.inr (.inl ⟨rfl, by omega, rfl, HX.out, rfl⟩)))⟩
    ·have e44 : ((4 : Nat) : Int) = 4 := rfl
     rw [e44] at HUp
     clear e44
     go_wp2_with (first
      | (go_at_call 21; refine (HLi.out _).mono ?_; rintro e w3 ⟨y3, z3, rfl, hb3⟩; have HB3 : Hid (Below w.heap.size w w3) := qa0 HB1.out hb3; have n0 := (HV1.out.later hb3).c0; clear hb3)
      | (go_at_call 46; refine (HUp.out _).mono ?_; rintro e w4 ⟨rfl, hb4⟩; have HB4 : Hid (Below w.heap.size w w4) := qa0 HB3.out hb4; clear hb4))
     refine bodyPost_ret (v := .tuple #[.slice none 0 0, .int .i64 4]) (by simp [results, Tryz.results13, go_sem]) rfl ?_
     exact ⟨x, true, 0, HS.out, HB4.out, .inr (.inr (.inr (.inl ⟨rfl, by omega, rfl, HX.out, rfl⟩)))⟩
   ·have HX : Hid (¬ 16384 < upv (r - 1) (cn x r : Int)) := by rw [HUx.out]; exact hbad
    rcases huc with ⟨rfl, rfl, _⟩ | ⟨_, h⟩
    ·have d3 : decide ((16384 : Int) < (uv : Int)) = false := decide_eq_false (by omega)
     have d4 : decide (16384 < uv) = false := decide_eq_false hbad
     have e00 : ((0 : Nat) : Int) = 0 := rfl
     rw [e00] at HUp
     have hC16 : C k ≤ 16384 := by have := HCk.out; omega
     clear e00 HU HUx HCk
     obtain ⟨x0, HX0⟩ : ∃ x : Nat, Hid ((2 ^ k - 1 : Nat) = x) := ⟨_, rfl⟩
     have HFi : Hid (∀ w' : World, Calls Tryz.prog 47 #[.int .i64 (k : Int)] w' fun e w'' => e = .returned (.int .u64 (x0 : Int)) ∧ Below w'.heap.size w' w'') := fun w' => (qfk k w' (by omega)).mono (fun e w'' h => by obtain ⟨h1, rfl⟩ := h; rw [HX0.out] at h1; exact ⟨h1, Below.refl _ _⟩)
     have HOk := qa3 (HO.out k hkr)
     have HS0 : Hid (0 < bin r k ∧ aset r k 0 = x0) := ⟨qhm r k (by omega), by rw [← HX0.out]; exact qfe (by omega)⟩
     obtain ⟨Bk, HBk⟩ : ∃ Bk, Hid (bin r k = Bk) := ⟨_, rfl⟩
     obtain ⟨Pk, HPk⟩ : ∃ P : Nat → Prop, Hid ((fun i => SS M r (G k i) (M b)) = P) := ⟨_, rfl⟩
     obtain ⟨i0, hi0, hz0, hz1, hz2⟩ := info_parts ju64
     subst hmo
     clear HX0 hmt
     go_wp2_with (first
      | (go_at_call 21; refine (HLi.out _).mono ?_; rintro e w3 ⟨y3, z3, rfl, hb3⟩; have HB3 : Hid (Below w.heap.size w w3) := qa0 HB1.out hb3; have HV3 : Hid (Vr w3 w.heap.size (.int .i64 (r : Int)) (.int .i64 (c : Int)) (.slice a n k0)) := HV1.out.later hb3; have n0 := HV3.out.c0; clear hb3)
      | (go_at_call 46; refine (HUp.out _).mono ?_; rintro e w4 ⟨rfl, hb4⟩; have HB4 : Hid (Below w.heap.size w w4) := qa0 HB3.out hb4; have HV4 : Hid (Vr w4 w.heap.size (.int .i64 (r : Int)) (.int .i64 (c : Int)) (.slice a n k0)) := HV3.out.later hb4; clear hb4)
      | (go_at_call 47; refine (HFi.out _).mono ?_; rintro e w5 ⟨rfl, hb5⟩; have HB5 : Hid (Below w.heap.size w w5) := qa0 HB4.out hb5; have HV5 : Hid (Vr w5 w.heap.size (.int .i64 (r : Int)) (.int .i64 (c : Int)) (.slice a n k0)) := HV4.out.later hb5; clear hb5))
     have hw5 := HB5.out.size
     have hv5 := HV5.out.lt
     go_loopw [15, 16, 17] (fun v15 v16 v17 wi => ∃ (i j L d s : Nat) (sl : Option Addr) (u : Nat → Nat) (t : Bool), v15 = .slice sl L d ∧ v16 = .int .u64 (s : Int) ∧ v17 = .bool t ∧ (L = 0 → sl = none ∧ d = 0) ∧ Hid (Jo wi w5.heap.size 26 .u64 (.slice sl L d) L (fun n => G k (u n))) ∧ Hid (Enm Pk mo j L u) ∧ L ≤ j ∧ j ≤ C k ∧ Hid (t = true → i < bin r k ∧ aset r k i = s ∧ RfI r k i j (C k) (G k)) ∧ Hid (t = false → j = C k) ∧ Below w5.heap.size w5 wi) (fun _ v16 v17 _ => qf4 Bk r v16 v17)
     case atStart => exact ⟨0, 0, 0, 0, x0, none, id, true, rfl, rfl, rfl, fun _ => ⟨rfl, rfl⟩, Jo.nil _ _ _ _ _, Enm.zero _ _ _, Nat.le_refl _, Nat.zero_le _, fun _ => ⟨HS0.out.1, HS0.out.2, RfI.zero _ _ _ _⟩, fun e => (by cases e), Below.refl _ _⟩
     case round =>
      obtain ⟨i, j, L, d, s, sl, u, t, rfl, rfl, rfl, h00, hJo, hEn, hLj, hjC, hT, hF, hB⟩ := hrel
      have HB := qa3 hB
      have HVr : Hid (Vr wr w.heap.size (.int .i64 (r : Int)) (.int .i64 (c : Int)) (.slice a n k0)) := HV5.out.later hB
      have r0 := HVr.out.c0
      have r1' := HVr.out.c1
      have r2 := HVr.out.c2
      have hwr := hB.size
      clear hB HS0 HLi HUp HFi
      cases t
      ·have HE := hF.out rfl
       have HFin : Hid (ChP w wr (.returned (.tuple #[.slice sl L d, .int .i64 0])) M r b C G (mo : Int)) := by
        refine ⟨x, true, 0, HS.out, qa0 HB5.out HB.out, .inr (.inr (.inr (.inr ⟨rfl, by omega, rfl, HX.out, sl, L, d, u, rfl, ?_, ?_⟩)))⟩
        ·rw [HKk.out]; exact hJo.out.mono hw5
        ·rw [HKk.out]
         have h9 := hEn.out
         rw [← HPk.out, HE] at h9
         exact h9
       clear hF hT hJo hEn
       go_wp2
       refine bodyPost_ret (v := .tuple #[.slice sl L d, .int .i64 0]) (by simp [results, Tryz.results13, go_sem]) rfl ?_
       exact HFin.out
      ·obtain ⟨hi, hsE, hI⟩ := hT.out rfl
       have hsl : s < 2 ^ r := by rw [← hsE]; exact qb8 r k i
       obtain ⟨s', t', hNx, hN1, hN2, hms⟩ := next19 hr hi hsE
       have HNx := qa3 hNx
       have HN1 := qa3 hN1
       have HN2 := qa3 hN2
       have HMs : Hid (qf4 Bk r (.int .u64 (s' : Int)) (.bool t') < qf4 Bk r (.int .u64 (s : Int)) (.bool true)) := by rw [← HBk.out]; exact hms _ rfl
       obtain ⟨v, hv⟩ : ∃ v : Bool, v = true ↔ (¬ bt s b = 1 ∧ SS M r s (M b)) := by
        by_cases h : ¬ bt s b = 1 ∧ SS M r s (M b)
        ·exact ⟨true, fun _ => h, fun _ => rfl⟩
        ·exact ⟨false, fun e => absurd e (by decide), fun e => absurd e h⟩
       have HRp : Hid (Calls Tryz.prog 34 #[mv r c a n k0, .int .i64 (b : Int), .int .u64 (s : Int)] wr fun e w'' => e = .returned (.bool v) ∧ Below wr.heap.size wr w'') := rrepG19 wr r c n k0 b s a F v (HA.out.later (qa0 HB5.out HB.out)) HR.out hb hsl (by rw [HM.out]; exact hv)
       clear hNx hN1 hN2 hms hT hF
       have hno : (v = true → L = mo) → ∃ j', Enm Pk mo j' L u ∧ RfI r k (i + 1) j' (C k) (G k) ∧ j' ≤ C k ∧ L ≤ j' := fun hv0 => by
        by_cases hbt : bt s b = 1
        ·exact ⟨j, hEn.out, hI.skip HOk.out (by rw [hsE]; exact hbt), hjC, hLj⟩
        ·obtain ⟨hj2, hG, hI2⟩ := hI.take HOk.out hi (by rw [hsE]; exact hbt)
         refine ⟨j + 1, hEn.out.no (fun hP => hv0 (hv.2 ⟨hbt, ?_⟩)), hI2, by omega, by omega⟩
         rw [← HPk.out] at hP
         rw [← hsE, ← hG]
         exact hP
       by_cases hlt : L < mo
       ·have c1 : decide ((L : Int) < (mo : Int)) = true := decide_eq_true (by omega)
        have c2 : decide (L < mo) = true := decide_eq_true hlt
        cases v
        ·obtain ⟨j', hE', hI', hj', hL'⟩ := hno (fun e => by cases e)
         have HE' := qa3 hE'
         have HI' := qa3 hI'
         clear hno hv hI hsE hi hE' hI' hsl hEn
         go_wp2_with (first
          | (go_at_call 34; refine HRp.out.mono ?_; rintro e w6 ⟨rfl, hb6⟩; have HB6 : Hid (Below w5.heap.size w5 w6) := qa0 HB.out hb6; have HJ6 : Hid (Jo w6 w5.heap.size 26 .u64 (.slice sl L d) L (fun n => G k (u n))) := hJo.out.later hb6; have o0 := (HVr.out.later hb6).c0; clear hb6)
          | (go_at_call 48; refine (HNx.out _).mono ?_; rintro e w7 ⟨rfl, hb7⟩; have HB7 : Hid (Below w5.heap.size w5 w7) := qa0 HB6.out hb7; have HJ7 : Hid (Jo w7 w5.heap.size 26 .u64 (.slice sl L d) L (fun n => G k (u n))) := HJ6.out.later hb7; clear hb7))
         exact ⟨⟨i + 1, j', L, d, s', sl, u, t', rfl, rfl, rfl, h00, HJ7.out, HE'.out, hL', hj', fun e => ⟨(HN1.out e).1, (HN1.out e).2, HI'.out⟩, fun e => HI'.out.done HOk.out (HN2.out e) hj', HB7.out⟩, HMs.out⟩
        ·have hv1 := hv.1 rfl
         obtain ⟨hj2, hG, hI2⟩ := hI.take HOk.out hi (by rw [hsE]; exact hv1.1)
         have hGs : G k j = s := hG.trans hsE
         have HPj : Hid (Pk j) := by rw [← HPk.out]; show SS M r (G k j) (M b); rw [hGs]; exact hv1.2
         have HE' : Hid (Enm Pk mo (j + 1) (L + 1) (fun n => if n = L then j else u n)) := hEn.out.yes HPj.out hlt
         have HI' := qa3 hI2
         have HEq : Hid (∀ t, t < L + 1 → (if t = L then s else G k (u t)) = G k (if t = L then j else u t)) := fun t _ => by
          by_cases e : t = L
          ·rw [if_pos e, if_pos e, hGs]
          ·rw [if_neg e, if_neg e]
         have hml : L + 1 ≤ maxLen := by unfold maxLen; omega
         clear hno hv hI hsE hi hI2 hsl hEn hv1 hG hGs
         go_wp2_with (first
          | (go_at_call 34; refine HRp.out.mono ?_; rintro e w6 ⟨rfl, hb6⟩; have HB6 : Hid (Below w5.heap.size w5 w6) := qa0 HB.out hb6; have HV6 : Hid (Vr w6 w.heap.size (.int .i64 (r : Int)) (.int .i64 (c : Int)) (.slice a n k0)) := HVr.out.later hb6; have HJ6 : Hid (Jo w6 w5.heap.size 26 .u64 (.slice sl L d) L (fun n => G k (u n))) := hJo.out.later hb6; have hw6 := HB6.out.size; clear hb6)
          | (at_builtin; refine wpList_append_own _ rfl _ _ 39 rfl w5.heap.size 26 i0 (.int .u64 0) 1 8 Tryz.underlying39 hi0 hz0 hz1 hz2 rfl (by decide) _ L _ rfl (World.ownsRow.alloc HJ6.out _) ⟨w6.heap.size, 0, none⟩ 1 1 [.int .u64 (s : Int)] rfl rfl (qe4 _ _ _ _) (qe5 _ _) hml (by omega) (by simp; omega) ?_; intro v' w8 hown' hgrow' _; have hO8 := HJ6.out.push HB6.out.size hown' hgrow'; have HO8 : Hid (Jo w8 w5.heap.size 26 .u64 v' (L + 1) (fun n => G k (if n = L then j else u n))) := hO8.1.congr HEq.out; have HB8 : Hid (Below w5.heap.size w5 w8) := HB6.out.trans hO8.2; have q0 := (HV5.out.later HB8.out).c0; clear hown' hgrow' hO8)
          | (go_at_call 48; refine (HNx.out _).mono ?_; rintro e w7 ⟨rfl, hb7⟩; have HB7 : Hid (Below w5.heap.size w5 w7) := qa0 HB8.out hb7; have HJ7 : Hid (Jo w7 w5.heap.size 26 .u64 v' (L + 1) (fun n => G k (if n = L then j else u n))) := HO8.out.later hb7; clear hb7))
         obtain ⟨qs, qd, rfl, _⟩ := HJ7.out.form
         exact ⟨⟨i + 1, j + 1, L + 1, qd, s', qs, (fun n => if n = L then j else u n), t', rfl, rfl, rfl, fun e => absurd e (by omega), HJ7.out, HE'.out, by omega, by omega, fun e => ⟨(HN1.out e).1, (HN1.out e).2, HI'.out⟩, fun e => HI'.out.done HOk.out (HN2.out e) (by omega), HB7.out⟩, HMs.out⟩
       ·have c1 : decide ((L : Int) < (mo : Int)) = false := decide_eq_false (by omega)
        have c2 : decide (L < mo) = false := decide_eq_false hlt
        obtain ⟨j', hE', hI', hj', hL'⟩ := hno (fun _ => by have := hEn.out.le; omega)
        have HE' := qa3 hE'
        have HI' := qa3 hI'
        clear hno hv hI hsE hi hE' hI' hsl hEn
        go_wp2_with (first
         | (go_at_call 48; refine (HNx.out _).mono ?_; rintro e w7 ⟨rfl, hb7⟩; have HB7 : Hid (Below w5.heap.size w5 w7) := qa0 HB.out hb7; have HJ7 : Hid (Jo w7 w5.heap.size 26 .u64 (.slice sl L d) L (fun n => G k (u n))) := hJo.out.later hb7; clear hb7))
        exact ⟨⟨i + 1, j', L, d, s', sl, u, t', rfl, rfl, rfl, h00, HJ7.out, HE'.out, hL', hj', fun e => ⟨(HN1.out e).1, (HN1.out e).2, HI'.out⟩, fun e => HI'.out.done HOk.out (HN2.out e) hj', HB7.out⟩, HMs.out⟩
    ·exact absurd h (by omega)
end Go.Proofs.YtblagbghpfopcaaGreat
