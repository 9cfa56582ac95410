/-
  Stage 19: the reference's Least.
  Stage 19: the search's answer is one.
-/
import Derived.Test.YtblagbghpfopcaaGreatQllst00
import Derived.Test.YtblagbghpfopcaaGreatQllst49
set_option maxRecDepth 100000
set_option maxHeartbeats 16000000
namespace Go.Proofs.YtblagbghpfopcaaGreat
open Go.RowKit Go.Shelf
attribute [local go_sem] Oper.semAt_some
/-- What the reference's first answers. -/
def FsP (w w' : World) (e : Ending) (M : Nat → Nat → Nat) (r b : Nat) (C : Nat → Nat) (G : Nat → Nat → Nat) : Prop := ∃ (x : Nat) (v : Bool), e = .returned (.tuple #[.int .u64 (x : Int), .bool v]) ∧ FsA M r b C G x v ∧ Below w.heap.size w w'
theorem qmk (w : World) (r c n k0 b : Nat) (a : Option Addr) (F : Nat → Nat) (ha : Mt w a n k0 F) (R : Rt r c n) (hb : b < r) (C : Nat → Nat) (f ix G : Nat → Nat → Nat) (O : qf3 r b C f ix G) :
  Calls Tryz.prog 36 #[mv r c a n k0, .int .i64 (b : Int)] w fun e w' => FsP w w' e (m2 F r c) r b C G := rfirst19 w r c n k0 b a F ha R hb C f ix G O
theorem qh2 (w : World) (r c b E : Int) (n k : Nat) (a : Option Addr) (h : WrgE r c b n E) (hE : E ≠ 0) :
  Calls Tryz.prog 8 #[mv r c a n k, .int .i64 b] w fun e w' => e = .returned (.tuple #[.int .u64 0, .slice none 0 0, .bool false, .int .i64 E]) ∧ Below w.heap.size w w' := by
 have HP : Hid (∀ w' : World, Calls Tryz.prog 33 #[mv r c a n k, .int .i64 b] w' fun e w'' => e = .returned (.int .i64 E) ∧ Below w'.heap.size w' w'') := fun w' => rbad19 w' r c b E n k a h
 have g1 : (E != 0) = true := by simpa using hE
 have g2 : (E == 0) = false := by simpa using hE
 clear h hE
 go_enter Tryz.func8, Tryz.ntmps8
 go_wp2_with (go_at_call 33; refine (HP.out _).mono ?_; rintro e w1 ⟨rfl, hb⟩; have HB1 : Hid (Below w.heap.size w w1) := qa0 (qa1 _ _) hb; clear hb)
 refine bodyPost_ret (v := .tuple #[.int .u64 0, .slice none 0 0, .bool false, .int .i64 E]) (by simp [results, Tryz.results8, go_sem]) rfl ?_
 exact ⟨rfl, HB1.out⟩
theorem qho (w : World) (r c n k b : Nat) (a : Option Addr) (F : Nat → Nat) (ha : Mt w a n k F) (R : Rt r c n) (hg : GenQ r c n) (hb : b < r) (C : Nat → Nat) (f ix G : Nat → Nat → Nat) (O : qf3 r b C f ix G) :
  Calls Tryz.prog 8 #[mv r c a n k, .int .i64 (b : Int)] w fun e w' => LeaP w w' e (m2 F r c) r b C G := by
 have hr := R.r64
 have hc := R.c64
 have hM := qb3 ha.sl.1 R
 have hb6 : b < 64 := by omega
 have HWr : Hid (∀ w' : World, Calls Tryz.prog 33 #[mv r c a n k, .int .i64 (b : Int)] w' fun e w'' => e = .returned (.int .i64 0) ∧ Below w'.heap.size w' w'') := fun w' => rbad19 w' r c b 0 n k a (.inr (.inr ⟨hg, ⟨by omega, by omega⟩, rfl⟩))
 obtain ⟨wb, HW⟩ : ∃ wb, Hid (wb = w.alloc (.cells #[.int .i64 (r : Int), .int .i64 (c : Int), .slice a n k] 24)) := ⟨_, rfl⟩
 have HVa : Hid (Vr wb w.heap.size (.int .i64 (r : Int)) (.int .i64 (c : Int)) (.slice a n k)) := by show Vr _ _ _ _ _; rw [HW.out]; exact Vr.new _ _ _ _
 have HB0 : Hid (Below w.heap.size w wb) := by rw [HW.out]; exact qa1 _ _
 have hA2 : 2 ^ r - 1 < 2 ^ r := by have := Nat.two_pow_pos r; omega
 obtain ⟨D, hD⟩ : ∃ D, rem (2 ^ r - 1) b = D := ⟨_, rfl⟩
 have hDl : D < 2 ^ r := by rw [← hD]; exact qlx hA2
 have hDb : ∀ i, i < r → (bt D i = 1 ↔ i ≠ b) := fun i hi => by
  rw [← hD, qdq (qcn hr hA2) hb6 i]
  have h1 : bt (2 ^ r - 1) i = 1 := by
   rw [qat, Nat.testBit_two_pow_sub_one]
   exact decide_eq_true hi
  exact ⟨fun h => h.2, fun h => ⟨h1, h⟩⟩
 have hDn : ¬ bt D b = 1 := fun e => (hDb b hb).1 e rfl
 have HOt : Hid (∀ w' : World, Calls Tryz.prog 35 #[mv r c a n k, .int .i64 (b : Int)] w' fun e w'' => e = .returned (.int .u64 (D : Int)) ∧ Below w'.heap.size w' w'') := fun w' => roth19 w' r b D c n k a hr hb hD.symm
 obtain ⟨v0, hv0⟩ : ∃ v0 : Bool, v0 = true ↔ SS (m2 F r c) r D (m2 F r c b) := by
  by_cases h : SS (m2 F r c) r D (m2 F r c b)
  ·exact ⟨true, fun _ => h, fun _ => rfl⟩
  ·exact ⟨false, fun e => absurd e (by decide), fun e => absurd e h⟩
 have HRp : Hid (∀ w' : World, Below wb.heap.size wb w' → Calls Tryz.prog 34 #[mv r c a n k, .int .i64 (b : Int), .int .u64 (D : Int)] w' fun e w'' => e = .returned (.bool v0) ∧ Below w'.heap.size w' w'') := fun w' h => rrep19 w' r c n k b D a F v0 (ha.later (qa0 HB0.out h)) R hb hDl hDn hv0
 have HA := qa5 ha
 have HR := qa5 R
 have HO := qa5 O
 have HMe := qa5 hM
 have HV0 := qa5 hv0
 have HDl := qa5 hDl
 have HDb := qa5 hDb
 have HDn := qa5 hDn
 clear ha R O hg hD hDl hDb hDn hA2 hv0 hM
 go_enter Tryz.func8, Tryz.ntmps8
 go_wp2_with (go_at_call 33; rw [← HW.out]; refine (HWr.out _).mono ?_; rintro e w1 ⟨rfl, hb1⟩; have HV1 : Hid (Vr w1 w.heap.size (.int .i64 (r : Int)) (.int .i64 (c : Int)) (.slice a n k)) := HVa.out.later hb1; have HB1 : Hid (Below wb.heap.size wb w1) := hb1; clear hb1)
 have hq2 : w1.drew.cell? ⟨w.heap.size, 0, none⟩ = some (.int .i64 (r : Int)) := (HV1.out.later (Below.refl _ _).drew).c0
 have hq3 : w1.drew.cell? ⟨w.heap.size, 1, none⟩ = some (.int .i64 (c : Int)) := (HV1.out.later (Below.refl _ _).drew).c1
 have hq4 : w1.drew.cell? ⟨w.heap.size, 2, none⟩ = some (.slice a n k) := (HV1.out.later (Below.refl _ _).drew).c2
 go_region_held3 (fun w' => w'.cell? ⟨w.heap.size, 0, none⟩ = some (.int .i64 (r : Int)) ∧ w'.cell? ⟨w.heap.size, 1, none⟩ = some (.int .i64 (c : Int)) ∧ w'.cell? ⟨w.heap.size, 2, none⟩ = some (.slice a n k))
   (first | exact ⟨HV3.out.c0, HV3.out.c1, HV3.out.c2⟩ | exact ⟨HV2.out.c0, HV2.out.c1, HV2.out.c2⟩ | go_keep | exact ⟨(HV1.out.later (Below.refl _ _).drew).c0, (HV1.out.later (Below.refl _ _).drew).c1, (HV1.out.later (Below.refl _ _).drew).c2⟩)
   (first
    | (go_at_call 35; refine (HOt.out _).mono ?_; rintro e w2 ⟨rfl, hb2⟩; have HB2 : Hid (Below wb.heap.size wb w2) := qa0 (qa0 HB1.out (Below.refl _ _).drew) hb2; have HV2 : Hid (Vr w2 w.heap.size (.int .i64 (r : Int)) (.int .i64 (c : Int)) (.slice a n k)) := HVa.out.later HB2.out; clear hb2)
    | (go_at_call 34; refine (HRp.out _ HB2.out).mono ?_; rintro e w3 ⟨rfl, hb3⟩; have HB3 : Hid (Below wb.heap.size wb w3) := qa0 HB2.out hb3; have HV3 : Hid (Vr w3 w.heap.size (.int .i64 (r : Int)) (.int .i64 (c : Int)) (.slice a n k)) := HVa.out.later HB3.out; clear hb3))
 clear hq2 hq3 hq4
 have v_0 := HV3.out.c0
 have v_1 := HV3.out.c1
 have v_2 := HV3.out.c2
 cases v0
 ·have hnv : (!false) = true := rfl
  have HX : Hid (SrP (m2 F r c) r b C G 0 false 0) := .inl ⟨rfl, rfl, rfl, qh1 HMe.out HDb.out (fun h => absurd (HV0.out.2 h) (by decide))⟩
  go_wp2
  refine bodyPost_ret (v := .tuple #[.int .u64 0, .slice none 0 0, .bool false, .int .i64 0]) (by simp [results, Tryz.results8, go_sem]) rfl ?_
  exact .inl ⟨0, rfl, HX.out, qa0 HB0.out HB3.out⟩
 ·have hnv : (!true) = false := rfl
  have HSD : Hid (SS (m2 F r c) r D (m2 F r c b)) := HV0.out.1 (by trivial)
  go_wp2_with (go_at_call 36; refine (qmk _ r c n k b a F (HA.out.later (qa0 HB0.out HB3.out)) HR.out hb C f ix G HO.out).mono ?_)
  rintro e w4 ⟨x, v, rfl, hfs, hb4⟩
  have HB4 : Hid (Below w.heap.size w w4) := qa0 (qa0 HB0.out HB3.out) hb4
  have HV4 : Hid (Vr w4 w.heap.size (.int .i64 (r : Int)) (.int .i64 (c : Int)) (.slice a n k)) := HV3.out.later hb4
  clear hb4 HV1 HV2 HV3 HB1 HB2 HB3 HOt HRp HWr HV0
  rcases hfs with ⟨rfl, k1, j1, hk1, hj1, hx, hsm, hss, hnb⟩ | ⟨rfl, rfl, hex⟩
  ·have HX : Hid (SrP (m2 F r c) r b C G x true 0) := .inr (.inl ⟨rfl, rfl, k1, j1, hk1, hj1, hx, hsm, hss, hnb⟩)
   have hl : LstS (m2 F r c) r b x := by
    rcases HX.out.lst HO.out hb with ⟨_, h1, _⟩ | ⟨_, _, hl⟩ | ⟨_, h1, _⟩
    ·exact absurd h1 (by decide)
    ·exact hl
    ·exact absurd h1 (by decide)
   have HLs := qa5 hl
   have HLi0 := qa5 (qmi hr hl.lt)
   obtain ⟨K, hK⟩ : ∃ K, cn x r = K := ⟨_, rfl⟩
   obtain ⟨q, hq⟩ : ∃ q, lf x r = q := ⟨_, rfl⟩
   rw [hK, hq] at HLi0
   have hKr : K ≤ 64 := by rw [← hK]; exact Nat.le_trans (qb5 r x) hr
   have HQ : Hid (∀ i, i < K → q i < r) := fun i hi => by rw [← hq]; exact (qai (by rw [hK]; exact hi)).1
   have HU : Hid (∀ i t, i < t → t < K → q i < q t) := fun i t h1 h2 => by rw [← hq]; exact qhl h1 (by rw [hK]; exact h2)
   obtain ⟨NP, HNP⟩ : ∃ NP, Hid (K * c = NP) := ⟨_, rfl⟩
   have HRP : Hid (Rt K c NP) := ⟨hKr, hc, HNP.out⟩
   have HPl : Hid (∀ i, i < NP → pkf F q c i < 256) := fun i hi => qdm HA.out.sl.1 HR.out HQ.out i (by rw [HNP.out]; exact hi)
   have HSp : Hid (Spn (m2 (pkf F q c) K c) K (ext0 (fun j => F (b * c + j)) c)) := by
    rw [qe7 hb, ← hq, ← hK]
    exact (qly HA.out.sl.1 HR.out).2 hl.is
   have HEq : Hid (∀ X, CmbA (pkf F q c) (fun j => F (b * c + j)) K c X → CmbS (m2 F r c) r b x (spr x X)) := fun X hX => by
    refine qmg HMe.out hr HLs.out hX.1.1 (fun j => ?_)
    have h1 := hX.2 j
    rw [qe7 hb] at h1
    rw [h1, hq, hK]
    exact qay (fun _ _ => rfl) (fun i hi => by rw [qe5 HQ.out hi])
   have HPP : Hid (∀ X i, i < r → pp q K X i = spr x X i) := fun X i hi => by rw [← hq, ← hK]; exact pp_spr X hi
   have HRe : Hid (∀ i, i < c → F (b * c + i) < 256) := fun i hi => HA.out.sl.1 _ (HR.out.at hb hi)
   obtain ⟨Y, HY⟩ : ∃ Y, Hid ((fun j => F (b * c + j)) = Y) := ⟨_, rfl⟩
   rw [HY.out] at HSp HEq
   have HYe : Hid (∀ i, i < c → Y i < 256) := fun i hi => by rw [← HY.out]; exact HRe.out i hi
   obtain ⟨i0, hi0, hz0, hz1, hz2⟩ := info_parts qd2
   have hml : r ≤ maxLen := by unfold maxLen; omega
   have hKi : (0 : Int) ≤ (K : Int) := by omega
   have u_0 := HV4.out.c0
   have u_1 := HV4.out.c1
   have u_2 := HV4.out.c2
   clear hl hK hq hx hss hnb hsm hk1 hj1 v_0 v_1 v_2
   go_wp2_with (first
    | (go_at_call 21; refine (HLi0.out _).mono ?_; rintro e w14 ⟨xs, xd, hil, rfl, hb⟩; have HB14 : Hid (Below w.heap.size w w14) := qa0 HB4.out hb; have HV14 : Hid (Vr w14 w.heap.size (.int .i64 (r : Int)) (.int .i64 (c : Int)) (.slice a n k)) := HV4.out.later hb; have HIl14 := qa5 hil; have d0 := HV14.out.c0; have d1 := HV14.out.c1; have d2 := HV14.out.c2; clear hb hil)
    | (go_at_call 37; refine (qbz _ r c n k K xd NP a xs F q (HA.out.later HB14.out).sl HR.out HIl14.out HQ.out hKr HNP).mono ?_; rintro e w5 ⟨s5, d5, rfl, ho5, hb5⟩; have HB5 : Hid (Below w.heap.size w (w5.alloc (.cells #[.int .i64 (K : Int), .int .i64 (c : Int), .slice s5 NP d5] 24))) := qa0 (qa0 HB14.out hb5) (qa1 _ _); have HP5 : Hid (Mt (w5.alloc (.cells #[.int .i64 (K : Int), .int .i64 (c : Int), .slice s5 NP d5] 24)) s5 NP d5 (pkf F q c)) := (qel ho5 HPl.out).later (qa1 _ _); have HVc5 : Hid (Vr (w5.alloc (.cells #[.int .i64 (K : Int), .int .i64 (c : Int), .slice s5 NP d5] 24)) w5.heap.size (.int .i64 (K : Int)) (.int .i64 (c : Int)) (.slice s5 NP d5)) := Vr.new _ _ _ _; have HV5 : Hid (Vr (w5.alloc (.cells #[.int .i64 (K : Int), .int .i64 (c : Int), .slice s5 NP d5] 24)) w.heap.size (.int .i64 (r : Int)) (.int .i64 (c : Int)) (.slice a n k)) := (HV14.out.later hb5).later (qa1 _ _); have HIl5 : Hid (Il (w5.alloc (.cells #[.int .i64 (K : Int), .int .i64 (c : Int), .slice s5 NP d5] 24)) xs K (fun i => (q i : Int))) := (HIl14.out.later hb5).later (qa1 _ _); have x0 := HV5.out.c0; have x1 := HV5.out.c1; have x2 := HV5.out.c2; clear ho5 hb5)
    | (go_at_call 38; refine (qfx _ r c n k b a F (HA.out.later HB5.out).sl HR.out hb).mono ?_; rintro e w6 ⟨v6, rfl, ho, hb6⟩; rw [HY.out] at ho; obtain ⟨ys, yd, rfl, hy, _⟩ := qi4 ho HYe.out; have HB6 : Hid (Below w.heap.size w w6) := qa0 HB5.out hb6; have HY6 : Hid (Sl w6 ys c Y) := hy; have HP6 : Hid (Mt w6 s5 NP d5 (pkf F q c)) := HP5.out.later hb6; have HVc6 : Hid (Vr w6 w5.heap.size (.int .i64 (K : Int)) (.int .i64 (c : Int)) (.slice s5 NP d5)) := HVc5.out.later hb6; have HV6 : Hid (Vr w6 w.heap.size (.int .i64 (r : Int)) (.int .i64 (c : Int)) (.slice a n k)) := HV5.out.later hb6; have HIl6 : Hid (Il w6 xs K (fun i => (q i : Int))) := HIl5.out.later hb6; have z0 := HVc6.out.c0; have z1 := HVc6.out.c1; have z2 := HVc6.out.c2; clear hy hb6 ho)
    | (go_at_call 39; refine (ql1 _ K c NP d5 yd s5 ys (pkf F q c) Y HP6.out HRP.out HY6.out HSp.out).mono ?_; rintro e w7 ⟨cs, cd, X, rfl, hm7, hX, hb7⟩; have HB7 : Hid (Below w.heap.size w w7) := qa0 HB6.out hb7; have HM7 : Hid (Sl w7 cs K X) := hm7.sl; have HX7 := qa5 (HEq.out X hX); have HV7 : Hid (Vr w7 w.heap.size (.int .i64 (r : Int)) (.int .i64 (c : Int)) (.slice a n k)) := HV6.out.later hb7; have HIl7 : Hid (Il w7 xs K (fun i => (q i : Int))) := HIl6.out.later hb7; have y0 := HV7.out.c0; clear hm7 hX hb7)
    | (at_make; refine wpList_make_full _ rfl _ _ 22 rfl w7.heap.size 5 i0 (.int .u8 0) 1 Tryz.underlying22 hi0 hz0 hz1 .i64 .i64 _ _ r rfl rfl rfl rfl (by rw [hz2]; omega) hml (Nat.le_refl _) ?_; intro w8 hown hgrow; have HR8 : Hid (RowAt w8 w7.heap.size 5 r (fun _ => 0)) := qbx hown; have HB8' : Hid (Below w7.heap.size w7 w8) := qa3.mp hgrow; clear hown hgrow))
   go_loopw [20] (fun si wi => ∃ i : Nat, i ≤ K ∧ si = .int .i64 (i : Int) ∧ RowAt wi w7.heap.size 5 r (pp q i X) ∧ Below w7.heap.size w7 wi) (fun si _ => K - (intOf si).toNat)
   case atStart => exact ⟨0, by omega, rfl, HR8.out.congr (fun l _ => rfl), HB8'.out⟩
   case round =>
    clear HR8 HB8'
    obtain ⟨i, hit, rfl, hRow, hB⟩ := hrel
    have HRow : Hid (RowAt wr w7.heap.size 5 r (pp q i X)) := hRow
    have HB : Hid (Below w7.heap.size w7 wr) := hB
    clear hRow hB
    by_cases hlt : i < K
    ·obtain ⟨px, po, eps, hpc⟩ := (HIl7.out.later HB.out) i hlt
     obtain ⟨qi, HQI⟩ : ∃ x, Hid (q i = x) := ⟨_, rfl⟩
     dsimp only at hpc
     rw [HQI.out] at hpc
     subst eps
     obtain ⟨g5, o5, efs, hxc⟩ := (HM7.out.later HB.out).2 i hlt
     obtain ⟨xi, HXI⟩ : ∃ z, Hid (X i = z) := ⟨_, rfl⟩
     rw [HXI.out] at hxc
     subst efs
     have hqi : qi < r := by rw [← HQI.out]; exact HQ.out i hlt
     have p0 : (0 : Int) ≤ (i : Int) := by omega
     have p1 : (i : Int) < (K : Int) := by omega
     have p2 : (0 : Int) ≤ (qi : Int) := by omega
     have p3 : (qi : Int) < (r : Int) := by omega
     have HD : Hid (wr.drew.cell? ⟨px, po + i, none⟩ = some (.int .i64 (qi : Int)) ∧ wr.drew.cell? ⟨g5, o5 + i, none⟩ = some (.int .u8 (xi : Int))) := ⟨hpc, hxc⟩
     clear hpc hxc
     go_wp2
     refine qah (k := 10) (n := 10) (fun w' => w'.cell? ⟨px, po + i, none⟩ = some (.int .i64 (qi : Int)) ∧ w'.cell? ⟨g5, o5 + i, none⟩ = some (.int .u8 (xi : Int))) (by kernel_rfl) (by kernel_rfl) (by decide) (by rfl) ?_
     refine wtkq 0 ?v0 rfl (by kernel_rfl) (fun _ _ _ h => h) (by rfl) ?y0 HD.out ?z0
     case y0 => (intro w hSw; (try dsimp only at hSw); go_simp; try with_reducible rfl)
     try simp only [mz1, mz3, Act.put, mz4, mz5, mz6]
     refine wtkq 1 ?v1 rfl (by kernel_rfl) (fun _ _ _ h => h) (by rfl) ?y1 HD.out ?z1
     case y1 => (intro w hSw; (try dsimp only at hSw); go_simp; try with_reducible rfl)
     try simp only [mz1, mz2, mz3, Act.put, mz4, mz5, mz6]
     refine wtkq 2 ?v2 rfl (by kernel_rfl) (fun _ _ _ h => h) (by rfl) ?y2 HD.out ?z2
     case y2 => (intro w hSw; (try dsimp only at hSw); go_simp; try with_reducible rfl)
     try simp only [mz1, mz2, mz3, Act.put, mz4, mz5, mz6]
     refine wtkq 3 ?v3 rfl (by kernel_rfl) (fun _ _ _ h => h) (by rfl) ?y3 HD.out ?z3
     case y3 => (intro w hSw; (try dsimp only at hSw); go_simp; try with_reducible rfl)
     try simp only [mz1, mz2, mz3, Act.put, mz4, mz5, mz6]
     refine wtkq 4 ?v4 rfl (by kernel_rfl) (fun _ _ _ h => h) (by rfl) ?y4 HD.out ?z4
     case y4 => (intro w hSw; (try dsimp only at hSw); go_simp; try with_reducible rfl)
     try simp only [mz1, mz2, mz3, Act.put, mz4, mz5, mz6]
     refine wtkq 5 ?v5 rfl (by kernel_rfl) (fun _ _ _ h => h) (by rfl) ?y5 HD.out ?z5
     case y5 => (intro w hSw; (try dsimp only at hSw); go_simp; try with_reducible rfl)
     try simp only [mz1, mz2, mz3, Act.put, mz4, mz5, mz6]
     refine wtkq 6 ?v6 rfl (by kernel_rfl) (fun _ _ _ h => h) (by rfl) ?y6 HD.out ?z6
     case y6 => (intro w hSw; (try dsimp only at hSw); go_simp; try with_reducible rfl)
     try simp only [mz1, mz2, mz3, Act.put, mz4, mz5, mz6]
     refine wtkq 7 ?v7 rfl (by kernel_rfl) (fun _ _ _ h => h) (by rfl) ?y7 HD.out ?z7
     case y7 => (intro w hSw; (try dsimp only at hSw); go_simp; try with_reducible rfl)
     try simp only [mz1, mz2, mz3, Act.put, mz4, mz5, mz6]
     refine wtkq 8 ?v8 rfl (by kernel_rfl) (fun _ _ _ h => h) (by rfl) ?y8 HD.out ?z8
     case y8 => (intro w hSw; (try dsimp only at hSw); go_simp; try with_reducible rfl)
     try simp only [mz1, mz2, mz3, Act.put, mz4, mz5, mz6]
     refine wtkq 9 ?v9 rfl (by kernel_rfl) (fun _ _ _ h => h) (by rfl) ?y9 HD.out ?z9
     case y9 => (intro w hSw; (try dsimp only at hSw); go_simp; try with_reducible rfl)
     try simp only [mz1, mz2, mz3, Act.put, mz4, mz5, mz6]
     refine wpAnyH_done (by kernel_rfl) ?_ _
     have hcl : wr.drew.cell? ⟨w7.heap.size, qi, none⟩ = some (.int .u8 ((pp q i X qi : Nat) : Int)) := HRow.out.cell qi hqi
     have hfl : wr.drew.frozen? ⟨w7.heap.size, qi, none⟩ = false := HRow.out.free qi
     refine qb0 rfl (fun K hK => ?_)
     go_simp
     refine hK.out _ _ ?_
     clear hK K
     try simp only [mz1, mz3, Act.put, mz4, mz5, mz6]
     go_wp2
     exact ⟨⟨i + 1, by omega, by go_num, ((HRow.out.later (Below.refl _ _).drew).set qi xi).congr (fun l _ => by rw [← HQI.out, ← HXI.out]; exact qdi HU.out hlt X l), qa6 (qa0 HB.out (Below.refl _ _).drew) (qa2 _ _ _ _) (Nat.le_refl _)⟩, by simp [intOf]; omega⟩
    ·have HIT : Hid (i = K) := Nat.le_antisymm hit (by omega)
     go_wp2
     have ho := HRow.out
     rw [HIT.out] at ho
     refine bodyPost_ret (v := .tuple #[.int .u64 (x : Int), .slice (some ⟨w7.heap.size, 0, none⟩) r r, .bool true, .int .i64 0]) (by simp [results, Tryz.results8, go_sem]) rfl ?_
     exact .inr ⟨x, w7.heap.size, spr x X, rfl, HX.out, HX7.out, ho.congr (fun l hl => HPP.out X l hl), HB7.out.size, qa0 HB7.out HB.out⟩
  ·have HX : Hid (SrP (m2 F r c) r b C G 0 false 4) := by
    rcases hex with ⟨k1, j1, h1, h2, h3, h4⟩ | hn
    ·exact .inr (.inr ⟨rfl, rfl, rfl, k1, j1, h1, h2, h3, h4, D, HDl.out, HDn.out, HSD.out⟩)
    ·exact absurd HSD.out (hn.end HO.out hb HDl.out HDn.out)
   have hnv2 : (!false) = true := rfl
   clear hex
   go_wp2
   refine bodyPost_ret (v := .tuple #[.int .u64 0, .slice none 0 0, .bool false, .int .i64 4]) (by simp [results, Tryz.results8, go_sem]) rfl ?_
   exact .inl ⟨4, rfl, HX.out, HB4.out⟩
open Go.RowKit Go.Shelf
theorem qml (C : Nat → Nat) (k : Nat) : ∀ d, sm19 C k ≤ sm19 C (k + d) := by
 intro d
 induction d with
 | zero => exact Nat.le_refl _
 | succ d ih => show sm19 C k ≤ sm19 C (k + d) + C (k + d); omega
theorem NoneB.before {M : Nat → Nat → Nat} {r b k j k' j' : Nat} {C : Nat → Nat} {G : Nat → Nat → Nat} (h : NoneB M r b C G k' j') (hj : j < C k) (hj' : j' < C k') (hs : SS M r (G k j) (M b)) (hl : sm19 C k + j < sm19 C k' + j') : False := by
 rcases Nat.lt_trichotomy k k' with h1 | h1 | h1
 ·exact h k j (.inl ⟨h1, hj⟩) hs
 ·subst h1
  exact h k j (.inr ⟨rfl, by omega⟩) hs
 ·have h2 := qml C (k' + 1) (k - (k' + 1))
  rw [show k' + 1 + (k - (k' + 1)) = k by omega] at h2
  have h3 : sm19 C (k' + 1) = sm19 C k' + C k' := rfl
  omega
theorem SrP.one {M : Nat → Nat → Nat} {r b x x' e e' : Nat} {v v' : Bool} {C : Nat → Nat} {f ix G : Nat → Nat → Nat} (O : qf3 r b C f ix G) (hb : b < r) (h : SrP M r b C G x v e) (h2 : SrP M r b C G x' v' e') : x = x' ∧ v = v' ∧ e = e' := by
 rcases h with ⟨a1, a2, a3, a4⟩ | ⟨a1, a2, k, j, hk, hj, a3, a4, a5, a6⟩ | ⟨a1, a2, a3, k, j, hk, hj, a4, a5, t, a6, a7, a8⟩
 ·rcases h2 with ⟨b1, b2, b3, b4⟩ | ⟨b1, b2, k', j', hk', hj', b3, b4, b5, b6⟩ | ⟨b1, b2, b3, k', j', hk', hj', b4, b5, t', b6, b7, b8⟩
  ·exact ⟨by rw [a1, b1], by rw [a2, b2], by rw [a3, b3]⟩
  ·rw [b3] at b5
   exact absurd b5 (a4 _ ((O k' hk').lt j' hj') ((O k' hk').none j' hj'))
  ·exact absurd b8 (a4 _ b6 b7)
 ·have hl := SrP.lst O hb (.inr (.inl ⟨a1, a2, k, j, hk, hj, a3, a4, a5, a6⟩))
  rcases h2 with ⟨b1, b2, b3, b4⟩ | ⟨b1, b2, k', j', hk', hj', b3, b4, b5, b6⟩ | ⟨b1, b2, b3, k', j', hk', hj', b4, b5, t', b6, b7, b8⟩
  ·rw [a3] at a5
   exact absurd a5 (b4 _ ((O k hk).lt j hj) ((O k hk).none j hj))
  ·have hl2 := SrP.lst O hb (.inr (.inl ⟨b1, b2, k', j', hk', hj', b3, b4, b5, b6⟩))
   rcases hl with ⟨_, c, _⟩ | ⟨_, _, c⟩ | ⟨_, c, _⟩
   ·rw [a1] at c; cases c
   ·rcases hl2 with ⟨_, d, _⟩ | ⟨_, _, d⟩ | ⟨_, d, _⟩
    ·rw [b1] at d; cases d
    ·obtain ⟨e1, e2⟩ := c.one d
     refine ⟨?_, by rw [a1, b1], by rw [a2, b2]⟩
     rw [← qck r x c.lt, ← qck r x' d.lt, e1, e2]
    ·rw [b1] at d; cases d
   ·rw [a1] at c; cases c
  ·rw [a3] at a5
   exact (b5.before hj hj' a5 (by omega)).elim
 ·rcases h2 with ⟨b1, b2, b3, b4⟩ | ⟨b1, b2, k', j', hk', hj', b3, b4, b5, b6⟩ | ⟨b1, b2, b3, k', j', hk', hj', b4, b5, t', b6, b7, b8⟩
  ·exact absurd a8 (b4 _ a6 a7)
  ·rw [b3] at b5
   exact (a5.before hj' hj b5 (by omega)).elim
  ·exact ⟨by rw [a1, b1], by rw [a2, b2], by rw [a3, b3]⟩
end Go.Proofs.YtblagbghpfopcaaGreat
