/-
  Stage 19: the reference's Least.
  Stage 19: the reference's Choices.
  Stage 19: the search's answer is one.
  Stage 19: Sizes of both sides.
-/
import Derived.Test.YtblagbghpfopcaaGreatQffsh00
import Derived.Test.YtblagbghpfopcaaGreatQffsh48
import Derived.Test.YtblagbghpfopcaaGreatQffsh47
set_option maxRecDepth 100000
set_option maxHeartbeats 16000000
namespace Go.Proofs.YtblagbghpfopcaaGreat
open Go.RowKit Go.Shelf
attribute [local go_sem] Oper.semAt_some
/-- What the reference's first answers. -/
def FsP (w w' : World) (e : Ending) (M : Nat → Nat → Nat) (r b : Nat) (C : Nat → Nat) (G : Nat → Nat → Nat) : Prop := ∃ (x : Nat) (v : Bool), e = .returned (.tuple #[.int .u64 (x : Int), .bool v]) ∧ FsA M r b C G x v ∧ Below w.heap.size w w'
theorem qne (w : World) (r c n k0 b : Nat) (a : Option Addr) (F : Nat → Nat) (ha : Mt w a n k0 F) (R : Rt r c n) (hb : b < r) (C : Nat → Nat) (f ix G : Nat → Nat → Nat) (O : qcn r b C f ix G) :
  Calls Tryz.prog 36 #[mv r c a n k0, .int .i64 (b : Int)] w fun e w' => FsP w w' e (m2 F r c) r b C G := rfirst19 w r c n k0 b a F ha R hb C f ix G O
theorem qhh (w : World) (r c b E : Int) (n k : Nat) (a : Option Addr) (h : WrgE r c b n E) (hE : E ≠ 0) :
  Calls Tryz.prog 8 #[mv r c a n k, .int .i64 b] w fun e w' => e = .returned (.tuple #[.int .u64 0, .slice none 0 0, .bool false, .int .i64 E]) ∧ Below w.heap.size w w' := by
 have HP : Hid (∀ w' : World, Calls Tryz.prog 33 #[mv r c a n k, .int .i64 b] w' fun e w'' => e = .returned (.int .i64 E) ∧ Below w'.heap.size w' w'') := fun w' => rbad19 w' r c b E n k a h
 have g1 : (E != 0) = true := by simpa using hE
 have g2 : (E == 0) = false := by simpa using hE
 clear h hE
 go_enter Tryz.func8, Tryz.ntmps8
 go_wp2_with (go_at_call 33; refine (HP.out _).mono ?_; rintro e w1 ⟨rfl, hb⟩; have HB1 : Hid (Below w.heap.size w w1) := qa1 (qa0 _ _) hb; clear hb)
 refine bodyPost_ret (v := .tuple #[.int .u64 0, .slice none 0 0, .bool false, .int .i64 E]) (by simp [results, Tryz.results8, go_sem]) rfl ?_
 exact ⟨rfl, HB1.out⟩
theorem qi7 (w : World) (r c n k b : Nat) (a : Option Addr) (F : Nat → Nat) (ha : Mt w a n k F) (R : Rt r c n) (hg : GenQ r c n) (hb : b < r) (C : Nat → Nat) (f ix G : Nat → Nat → Nat) (O : qcn r b C f ix G) :
  Calls Tryz.prog 8 #[mv r c a n k, .int .i64 (b : Int)] w fun e w' => LeaP w w' e (m2 F r c) r b C G := by
 have hr := R.r64
 have hc := R.c64
 have hM := qax ha.sl.1 R
 have hb6 : b < 64 := by omega
 have HWr : Hid (∀ w' : World, Calls Tryz.prog 33 #[mv r c a n k, .int .i64 (b : Int)] w' fun e w'' => e = .returned (.int .i64 0) ∧ Below w'.heap.size w' w'') := fun w' => rbad19 w' r c b 0 n k a (.inr (.inr ⟨hg, ⟨by omega, by omega⟩, rfl⟩))
 obtain ⟨wb, HW⟩ : ∃ wb, Hid (wb = w.alloc (.cells #[.int .i64 (r : Int), .int .i64 (c : Int), .slice a n k] 24)) := ⟨_, rfl⟩
 have HVa : Hid (Vr wb w.heap.size (.int .i64 (r : Int)) (.int .i64 (c : Int)) (.slice a n k)) := by show Vr _ _ _ _ _; rw [HW.out]; exact Vr.new _ _ _ _
 have HB0 : Hid (Below w.heap.size w wb) := by rw [HW.out]; exact qa0 _ _
 have hA2 : 2 ^ r - 1 < 2 ^ r := by have := Nat.two_pow_pos r; omega
 obtain ⟨D, hD⟩ : ∃ D, rem (2 ^ r - 1) b = D := ⟨_, rfl⟩
 have hDl : D < 2 ^ r := by rw [← hD]; exact qmt hA2
 have hDb : ∀ i, i < r → (bt D i = 1 ↔ i ≠ b) := fun i hi => by
  rw [← hD, qdy (qca hr hA2) hb6 i]
  have h1 : bt (2 ^ r - 1) i = 1 := by
   rw [qaw, Nat.testBit_two_pow_sub_one]
   exact decide_eq_true hi
  exact ⟨fun h => h.2, fun h => ⟨h1, h⟩⟩
 have hDn : ¬ bt D b = 1 := fun e => (hDb b hb).1 e rfl
 have HOt : Hid (∀ w' : World, Calls Tryz.prog 35 #[mv r c a n k, .int .i64 (b : Int)] w' fun e w'' => e = .returned (.int .u64 (D : Int)) ∧ Below w'.heap.size w' w'') := fun w' => roth19 w' r b D c n k a hr hb hD.symm
 obtain ⟨v0, hv0⟩ : ∃ v0 : Bool, v0 = true ↔ SS (m2 F r c) r D (m2 F r c b) := by
  by_cases h : SS (m2 F r c) r D (m2 F r c b)
  ·exact ⟨true, fun _ => h, fun _ => rfl⟩
  ·exact ⟨false, fun e => absurd e (by decide), fun e => absurd e h⟩
 have HRp : Hid (∀ w' : World, Below wb.heap.size wb w' → Calls Tryz.prog 34 #[mv r c a n k, .int .i64 (b : Int), .int .u64 (D : Int)] w' fun e w'' => e = .returned (.bool v0) ∧ Below w'.heap.size w' w'') := fun w' h => rrep19 w' r c n k b D a F v0 (ha.later (qa1 HB0.out h)) R hb hDl hDn hv0
 have HA := qa3 ha
 have HR := qa3 R
 have HO := qa3 O
 have HMe := qa3 hM
 have HV0 := qa3 hv0
 have HDl := qa3 hDl
 have HDb := qa3 hDb
 have HDn := qa3 hDn
 clear ha R O hg hD hDl hDb hDn hA2 hv0 hM
 go_enter Tryz.func8, Tryz.ntmps8
 go_wp2_with (go_at_call 33; rw [← HW.out]; refine (HWr.out _).mono ?_; rintro e w1 ⟨rfl, hb1⟩; have HV1 : Hid (Vr w1 w.heap.size (.int .i64 (r : Int)) (.int .i64 (c : Int)) (.slice a n k)) := HVa.out.later hb1; have HB1 : Hid (Below wb.heap.size wb w1) := hb1; clear hb1)
 have hq2 : w1.drew.cell? ⟨w.heap.size, 0, none⟩ = some (.int .i64 (r : Int)) := (HV1.out.later (Below.refl _ _).drew).c0
 have hq3 : w1.drew.cell? ⟨w.heap.size, 1, none⟩ = some (.int .i64 (c : Int)) := (HV1.out.later (Below.refl _ _).drew).c1
 have hq4 : w1.drew.cell? ⟨w.heap.size, 2, none⟩ = some (.slice a n k) := (HV1.out.later (Below.refl _ _).drew).c2
 go_region_held3 (fun w' => w'.cell? ⟨w.heap.size, 0, none⟩ = some (.int .i64 (r : Int)) ∧ w'.cell? ⟨w.heap.size, 1, none⟩ = some (.int .i64 (c : Int)) ∧ w'.cell? ⟨w.heap.size, 2, none⟩ = some (.slice a n k))
   (first | exact ⟨HV3.out.c0, HV3.out.c1, HV3.out.c2⟩ | exact ⟨HV2.out.c0, HV2.out.c1, HV2.out.c2⟩ | go_keep | exact ⟨(HV1.out.later (Below.refl _ _).drew).c0, (HV1.out.later (Below.refl _ _).drew).c1, (HV1.out.later (Below.refl _ _).drew).c2⟩)
   (first
    | (go_at_call 35; refine (HOt.out _).mono ?_; rintro e w2 ⟨rfl, hb2⟩; have HB2 : Hid (Below wb.heap.size wb w2) := qa1 (qa1 HB1.out (Below.refl _ _).drew) hb2; have HV2 : Hid (Vr w2 w.heap.size (.int .i64 (r : Int)) (.int .i64 (c : Int)) (.slice a n k)) := HVa.out.later HB2.out; clear hb2)
    | (go_at_call 34; refine (HRp.out _ HB2.out).mono ?_; rintro e w3 ⟨rfl, hb3⟩; have HB3 : Hid (Below wb.heap.size wb w3) := qa1 HB2.out hb3; have HV3 : Hid (Vr w3 w.heap.size (.int .i64 (r : Int)) (.int .i64 (c : Int)) (.slice a n k)) := HVa.out.later HB3.out; clear hb3))
 clear hq2 hq3 hq4
 have v_0 := HV3.out.c0
 have v_1 := HV3.out.c1
 have v_2 := HV3.out.c2
 cases v0
 ·have hnv : (!false) = true := rfl
  have HX : Hid (SrP (m2 F r c) r b C G 0 false 0) := .inl ⟨rfl, rfl, rfl, qhe HMe.out HDb.out (fun h => absurd (HV0.out.2 h) (by decide))⟩
  go_wp2
  refine bodyPost_ret (v := .tuple #[.int .u64 0, .slice none 0 0, .bool false, .int .i64 0]) (by simp [results, Tryz.results8, go_sem]) rfl ?_
  exact .inl ⟨0, rfl, HX.out, qa1 HB0.out HB3.out⟩
 ·have hnv : (!true) = false := rfl
  have HSD : Hid (SS (m2 F r c) r D (m2 F r c b)) := HV0.out.1 (by trivial)
  go_wp2_with (go_at_call 36; refine (qne _ r c n k b a F (HA.out.later (qa1 HB0.out HB3.out)) HR.out hb C f ix G HO.out).mono ?_)
  rintro e w4 ⟨x, v, rfl, hfs, hb4⟩
  have HB4 : Hid (Below w.heap.size w w4) := qa1 (qa1 HB0.out HB3.out) hb4
  have HV4 : Hid (Vr w4 w.heap.size (.int .i64 (r : Int)) (.int .i64 (c : Int)) (.slice a n k)) := HV3.out.later hb4
  clear hb4 HV1 HV2 HV3 HB1 HB2 HB3 HOt HRp HWr HV0
  rcases hfs with ⟨rfl, k1, j1, hk1, hj1, hx, hsm, hss, hnb⟩ | ⟨rfl, rfl, hex⟩
  ·have HX : Hid (SrP (m2 F r c) r b C G x true 0) := .inr (.inl ⟨rfl, rfl, k1, j1, hk1, hj1, hx, hsm, hss, hnb⟩)
   have hl : LstS (m2 F r c) r b x := by
    rcases HX.out.lst HO.out hb with ⟨_, h1, _⟩ | ⟨_, _, hl⟩ | ⟨_, h1, _⟩
    ·exact absurd h1 (by decide)
    ·exact hl
    ·exact absurd h1 (by decide)
   have HLs := qa3 hl
   have HLi0 := qa3 (qnc hr hl.lt)
   obtain ⟨K, hK⟩ : ∃ K, cn x r = K := ⟨_, rfl⟩
   obtain ⟨q, hq⟩ : ∃ q, lf x r = q := ⟨_, rfl⟩
   rw [hK, hq] at HLi0
   have hKr : K ≤ 64 := by rw [← hK]; exact Nat.le_trans (qb8 r x) hr
   have HQ : Hid (∀ i, i < K → q i < r) := fun i hi => by rw [← hq]; exact (qaj (by rw [hK]; exact hi)).1
   have HU : Hid (∀ i t, i < t → t < K → q i < q t) := fun i t h1 h2 => by rw [← hq]; exact qi3 h1 (by rw [hK]; exact h2)
   obtain ⟨NP, HNP⟩ : ∃ NP, Hid (K * c = NP) := ⟨_, rfl⟩
   have HRP : Hid (Rt K c NP) := ⟨hKr, hc, HNP.out⟩
   have HPl : Hid (∀ i, i < NP → pkf F q c i < 256) := fun i hi => qdt HA.out.sl.1 HR.out HQ.out i (by rw [HNP.out]; exact hi)
   have HSp : Hid (Spn (m2 (pkf F q c) K c) K (ext0 (fun j => F (b * c + j)) c)) := by
    rw [qeg hb, ← hq, ← hK]
    exact (qmu HA.out.sl.1 HR.out).2 hl.is
   have HEq : Hid (∀ X, CmbA (pkf F q c) (fun j => F (b * c + j)) K c X → CmbS (m2 F r c) r b x (spr x X)) := fun X hX => by
    refine qna HMe.out hr HLs.out hX.1.1 (fun j => ?_)
    have h1 := hX.2 j
    rw [qeg hb] at h1
    rw [h1, hq, hK]
    exact qb1 (fun _ _ => rfl) (fun i hi => by rw [qed HQ.out hi])
   have HPP : Hid (∀ X i, i < r → pp q K X i = spr x X i) := fun X i hi => by rw [← hq, ← hK]; exact pp_spr X hi
   have HRe : Hid (∀ i, i < c → F (b * c + i) < 256) := fun i hi => HA.out.sl.1 _ (HR.out.at hb hi)
   obtain ⟨Y, HY⟩ : ∃ Y, Hid ((fun j => F (b * c + j)) = Y) := ⟨_, rfl⟩
   rw [HY.out] at HSp HEq
   have HYe : Hid (∀ i, i < c → Y i < 256) := fun i hi => by rw [← HY.out]; exact HRe.out i hi
   obtain ⟨i0, hi0, hz0, hz1, hz2⟩ := info_parts qcy
   have hml : r ≤ maxLen := by unfold maxLen; omega
   have hKi : (0 : Int) ≤ (K : Int) := by omega
   have u_0 := HV4.out.c0
   have u_1 := HV4.out.c1
   have u_2 := HV4.out.c2
   clear hl hK hq hx hss hnb hsm hk1 hj1 v_0 v_1 v_2
   go_wp2_with (first
    | (go_at_call 21; refine (HLi0.out _).mono ?_; rintro e w14 ⟨xs, xd, hil, rfl, hb⟩; have HB14 : Hid (Below w.heap.size w w14) := qa1 HB4.out hb; have HV14 : Hid (Vr w14 w.heap.size (.int .i64 (r : Int)) (.int .i64 (c : Int)) (.slice a n k)) := HV4.out.later hb; have HIl14 := qa3 hil; have d0 := HV14.out.c0; have d1 := HV14.out.c1; have d2 := HV14.out.c2; clear hb hil)
    | (go_at_call 37; refine (qbz _ r c n k K xd NP a xs F q (HA.out.later HB14.out).sl HR.out HIl14.out HQ.out hKr HNP).mono ?_; rintro e w5 ⟨s5, d5, rfl, ho5, hb5⟩; have HB5 : Hid (Below w.heap.size w (w5.alloc (.cells #[.int .i64 (K : Int), .int .i64 (c : Int), .slice s5 NP d5] 24))) := qa1 (qa1 HB14.out hb5) (qa0 _ _); have HP5 : Hid (Mt (w5.alloc (.cells #[.int .i64 (K : Int), .int .i64 (c : Int), .slice s5 NP d5] 24)) s5 NP d5 (pkf F q c)) := (qet ho5 HPl.out).later (qa0 _ _); have HVc5 : Hid (Vr (w5.alloc (.cells #[.int .i64 (K : Int), .int .i64 (c : Int), .slice s5 NP d5] 24)) w5.heap.size (.int .i64 (K : Int)) (.int .i64 (c : Int)) (.slice s5 NP d5)) := Vr.new _ _ _ _; have HV5 : Hid (Vr (w5.alloc (.cells #[.int .i64 (K : Int), .int .i64 (c : Int), .slice s5 NP d5] 24)) w.heap.size (.int .i64 (r : Int)) (.int .i64 (c : Int)) (.slice a n k)) := (HV14.out.later hb5).later (qa0 _ _); have HIl5 : Hid (Il (w5.alloc (.cells #[.int .i64 (K : Int), .int .i64 (c : Int), .slice s5 NP d5] 24)) xs K (fun i => (q i : Int))) := (HIl14.out.later hb5).later (qa0 _ _); have x0 := HV5.out.c0; have x1 := HV5.out.c1; have x2 := HV5.out.c2; clear ho5 hb5)
    | (go_at_call 38; refine (qg6 _ r c n k b a F (HA.out.later HB5.out).sl HR.out hb).mono ?_; rintro e w6 ⟨v6, rfl, ho, hb6⟩; rw [HY.out] at ho; obtain ⟨ys, yd, rfl, hy, _⟩ := qin ho HYe.out; have HB6 : Hid (Below w.heap.size w w6) := qa1 HB5.out hb6; have HY6 : Hid (Sl w6 ys c Y) := hy; have HP6 : Hid (Mt w6 s5 NP d5 (pkf F q c)) := HP5.out.later hb6; have HVc6 : Hid (Vr w6 w5.heap.size (.int .i64 (K : Int)) (.int .i64 (c : Int)) (.slice s5 NP d5)) := HVc5.out.later hb6; have HV6 : Hid (Vr w6 w.heap.size (.int .i64 (r : Int)) (.int .i64 (c : Int)) (.slice a n k)) := HV5.out.later hb6; have HIl6 : Hid (Il w6 xs K (fun i => (q i : Int))) := HIl5.out.later hb6; have z0 := HVc6.out.c0; have z1 := HVc6.out.c1; have z2 := HVc6.out.c2; clear hy hb6 ho)
    | (go_at_call 39; refine (qlw _ K c NP d5 yd s5 ys (pkf F q c) Y HP6.out HRP.out HY6.out HSp.out).mono ?_; rintro e w7 ⟨cs, cd, X, rfl, hm7, hX, hb7⟩; have HB7 : Hid (Below w.heap.size w w7) := qa1 HB6.out hb7; have HM7 : Hid (Sl w7 cs K X) := hm7.sl; have HX7 := qa3 (HEq.out X hX); have HV7 : Hid (Vr w7 w.heap.size (.int .i64 (r : Int)) (.int .i64 (c : Int)) (.slice a n k)) := HV6.out.later hb7; have HIl7 : Hid (Il w7 xs K (fun i => (q i : Int))) := HIl6.out.later hb7; have y0 := HV7.out.c0; clear hm7 hX hb7)
    | (at_make; refine wpList_make_full _ rfl _ _ 22 rfl w7.heap.size 5 i0 (.int .u8 0) 1 Tryz.underlying22 hi0 hz0 hz1 .i64 .i64 _ _ r rfl rfl rfl rfl (by rw [hz2]; omega) hml (Nat.le_refl _) ?_; intro w8 hown hgrow; have HR8 : Hid (RowAt w8 w7.heap.size 5 r (fun _ => 0)) := qby hown; have HB8' : Hid (Below w7.heap.size w7 w8) := qa4.mp hgrow; clear hown hgrow))
   go_loopw [20] (fun si wi => ∃ i : Nat, i ≤ K ∧ si = .int .i64 (i : Int) ∧ RowAt wi w7.heap.size 5 r (pp q i X) ∧ Below w7.heap.size w7 wi) (fun si _ => K - (intOf si).toNat)
   case atStart => exact ⟨0, by omega, rfl, HR8.out.congr (fun l _ => rfl), HB8'.out⟩
   case round =>
    clear HR8 HB8'
    obtain ⟨i, hit, rfl, hRow, hB⟩ := hrel
    have HRow : Hid (RowAt wr w7.heap.size 5 r (pp q i X)) := hRow
    have HB : Hid (Below w7.heap.size w7 wr) := hB
    clear hRow hB
    by_cases hlt : i < K
    ·obtain ⟨px, po, eps, hpc⟩ := (HIl7.out.later HB.out) i hlt
     obtain ⟨qi, HQI⟩ : ∃ x, Hid (q i = x) := ⟨_, rfl⟩
     dsimp only at hpc
     rw [HQI.out] at hpc
     subst eps
     obtain ⟨g5, o5, efs, hxc⟩ := (HM7.out.later HB.out).2 i hlt
     obtain ⟨xi, HXI⟩ : ∃ z, Hid (X i = z) := ⟨_, rfl⟩
     rw [HXI.out] at hxc
     subst efs
     have hqi : qi < r := by rw [← HQI.out]; exact HQ.out i hlt
     have p0 : (0 : Int) ≤ (i : Int) := by omega
     have p1 : (i : Int) < (K : Int) := by omega
     have p2 : (0 : Int) ≤ (qi : Int) := by omega
     have p3 : (qi : Int) < (r : Int) := by omega
     have HD : Hid (wr.drew.cell? ⟨px, po + i, none⟩ = some (.int .i64 (qi : Int)) ∧ wr.drew.cell? ⟨g5, o5 + i, none⟩ = some (.int .u8 (xi : Int))) := ⟨hpc, hxc⟩
     clear hpc hxc
     go_wp2
     refine qai (k := 10) (n := 10) (fun w' => w'.cell? ⟨px, po + i, none⟩ = some (.int .i64 (qi : Int)) ∧ w'.cell? ⟨g5, o5 + i, none⟩ = some (.int .u8 (xi : Int))) (by kernel_rfl) (by kernel_rfl) (by decide) (by rfl) ?_
     refine wtkq 0 ?v0 rfl (by kernel_rfl) (fun _ _ _ h => h) (by rfl) ?y0 HD.out ?z0
     case y0 => (intro w hSw; (try dsimp only at hSw); go_simp; try with_reducible rfl)
     try simp only [mz1, mz3, Act.put, mz4, mz5, mz6]
     refine wtkq 1 ?v1 rfl (by kernel_rfl) (fun _ _ _ h => h) (by rfl) ?y1 HD.out ?z1
     case y1 => (intro w hSw; (try dsimp only at hSw); go_simp; try with_reducible rfl)
     try simp only [mz1, mz2, mz3, Act.put, mz4, mz5, mz6]
     refine wtkq 2 ?v2 rfl (by kernel_rfl) (fun _ _ _ h => h) (by rfl) ?y2 HD.out ?z2
     case y2 => (intro w hSw; (try dsimp only at hSw); go_simp; try with_reducible rfl)
     try simp only [mz1, mz2, mz3, Act.put, mz4, mz5, mz6]
     refine wtkq 3 ?v3 rfl (by kernel_rfl) (fun _ _ _ h => h) (by rfl) ?y3 HD.out ?z3
     case y3 => (intro w hSw; (try dsimp only at hSw); go_simp; try with_reducible rfl)
     try simp only [mz1, mz2, mz3, Act.put, mz4, mz5, mz6]
     refine wtkq 4 ?v4 rfl (by kernel_rfl) (fun _ _ _ h => h) (by rfl) ?y4 HD.out ?z4
     case y4 => (intro w hSw; (try dsimp only at hSw); go_simp; try with_reducible rfl)
     try simp only [mz1, mz2, mz3, Act.put, mz4, mz5, mz6]
     refine wtkq 5 ?v5 rfl (by kernel_rfl) (fun _ _ _ h => h) (by rfl) ?y5 HD.out ?z5
     case y5 => (intro w hSw; (try dsimp only at hSw); go_simp; try with_reducible rfl)
     try simp only [mz1, mz2, mz3, Act.put, mz4, mz5, mz6]
     refine wtkq 6 ?v6 rfl (by kernel_rfl) (fun _ _ _ h => h) (by rfl) ?y6 HD.out ?z6
     case y6 => (intro w hSw; (try dsimp only at hSw); go_simp; try with_reducible rfl)
     try simp only [mz1, mz2, mz3, Act.put, mz4, mz5, mz6]
     refine wtkq 7 ?v7 rfl (by kernel_rfl) (fun _ _ _ h => h) (by rfl) ?y7 HD.out ?z7
     case y7 => (intro w hSw; (try dsimp only at hSw); go_simp; try with_reducible rfl)
     try simp only [mz1, mz2, mz3, Act.put, mz4, mz5, mz6]
     refine wtkq 8 ?v8 rfl (by kernel_rfl) (fun _ _ _ h => h) (by rfl) ?y8 HD.out ?z8
     case y8 => (intro w hSw; (try dsimp only at hSw); go_simp; try with_reducible rfl)
     try simp only [mz1, mz2, mz3, Act.put, mz4, mz5, mz6]
     refine wtkq 9 ?v9 rfl (by kernel_rfl) (fun _ _ _ h => h) (by rfl) ?y9 HD.out ?z9
     case y9 => (intro w hSw; (try dsimp only at hSw); go_simp; try with_reducible rfl)
     try simp only [mz1, mz2, mz3, Act.put, mz4, mz5, mz6]
     refine wpAnyH_done (by kernel_rfl) ?_ _
     have hcl : wr.drew.cell? ⟨w7.heap.size, qi, none⟩ = some (.int .u8 ((pp q i X qi : Nat) : Int)) := HRow.out.cell qi hqi
     have hfl : wr.drew.frozen? ⟨w7.heap.size, qi, none⟩ = false := HRow.out.free qi
     refine qb3 rfl (fun K hK => ?_)
     go_simp
     refine hK.out _ _ ?_
     clear hK K
     try simp only [mz1, mz3, Act.put, mz4, mz5, mz6]
     go_wp2
     exact ⟨⟨i + 1, by omega, by go_num, ((HRow.out.later (Below.refl _ _).drew).set qi xi).congr (fun l _ => by rw [← HQI.out, ← HXI.out]; exact qdp HU.out hlt X l), qa6 (qa1 HB.out (Below.refl _ _).drew) (qa2 _ _ _ _) (Nat.le_refl _)⟩, by simp [intOf]; omega⟩
    ·have HIT : Hid (i = K) := Nat.le_antisymm hit (by omega)
     go_wp2
     have ho := HRow.out
     rw [HIT.out] at ho
     refine bodyPost_ret (v := .tuple #[.int .u64 (x : Int), .slice (some ⟨w7.heap.size, 0, none⟩) r r, .bool true, .int .i64 0]) (by simp [results, Tryz.results8, go_sem]) rfl ?_
     exact .inr ⟨x, w7.heap.size, spr x X, rfl, HX.out, HX7.out, ho.congr (fun l hl => HPP.out X l hl), HB7.out.size, qa1 HB7.out HB.out⟩
  ·have HX : Hid (SrP (m2 F r c) r b C G 0 false 4) := by
    rcases hex with ⟨k1, j1, h1, h2, h3, h4⟩ | hn
    ·exact .inr (.inr ⟨rfl, rfl, rfl, k1, j1, h1, h2, h3, h4, D, HDl.out, HDn.out, HSD.out⟩)
    ·exact absurd HSD.out (hn.end HO.out hb HDl.out HDn.out)
   have hnv2 : (!false) = true := rfl
   clear hex
   go_wp2
   refine bodyPost_ret (v := .tuple #[.int .u64 0, .slice none 0 0, .bool false, .int .i64 4]) (by simp [results, Tryz.results8, go_sem]) rfl ?_
   exact .inl ⟨4, rfl, HX.out, HB4.out⟩
open Go.RowKit Go.Shelf
attribute [local go_sem] Oper.semAt_some
open Go.RowKit Go.Shelf
theorem qnf (C : Nat → Nat) (k : Nat) : ∀ d, sm19 C k ≤ sm19 C (k + d) := by
 intro d
 induction d with
 | zero => exact Nat.le_refl _
 | succ d ih => show sm19 C k ≤ sm19 C (k + d) + C (k + d); omega
theorem NoneB.before {M : Nat → Nat → Nat} {r b k j k' j' : Nat} {C : Nat → Nat} {G : Nat → Nat → Nat} (h : NoneB M r b C G k' j') (hj : j < C k) (hj' : j' < C k') (hs : SS M r (G k j) (M b)) (hl : sm19 C k + j < sm19 C k' + j') : False := by
 rcases Nat.lt_trichotomy k k' with h1 | h1 | h1
 ·exact h k j (.inl ⟨h1, hj⟩) hs
 ·subst h1
  exact h k j (.inr ⟨rfl, by omega⟩) hs
 ·have h2 := qnf C (k' + 1) (k - (k' + 1))
  rw [show k' + 1 + (k - (k' + 1)) = k by omega] at h2
  have h3 : sm19 C (k' + 1) = sm19 C k' + C k' := rfl
  omega
theorem SrP.one {M : Nat → Nat → Nat} {r b x x' e e' : Nat} {v v' : Bool} {C : Nat → Nat} {f ix G : Nat → Nat → Nat} (O : qcn r b C f ix G) (hb : b < r) (h : SrP M r b C G x v e) (h2 : SrP M r b C G x' v' e') : x = x' ∧ v = v' ∧ e = e' := by
 rcases h with ⟨a1, a2, a3, a4⟩ | ⟨a1, a2, k, j, hk, hj, a3, a4, a5, a6⟩ | ⟨a1, a2, a3, k, j, hk, hj, a4, a5, t, a6, a7, a8⟩
 ·rcases h2 with ⟨b1, b2, b3, b4⟩ | ⟨b1, b2, k', j', hk', hj', b3, b4, b5, b6⟩ | ⟨b1, b2, b3, k', j', hk', hj', b4, b5, t', b6, b7, b8⟩
  ·exact ⟨by rw [a1, b1], by rw [a2, b2], by rw [a3, b3]⟩
  ·rw [b3] at b5
   exact absurd b5 (a4 _ ((O k' hk').lt j' hj') ((O k' hk').none j' hj'))
  ·exact absurd b8 (a4 _ b6 b7)
 ·have hl := SrP.lst O hb (.inr (.inl ⟨a1, a2, k, j, hk, hj, a3, a4, a5, a6⟩))
  rcases h2 with ⟨b1, b2, b3, b4⟩ | ⟨b1, b2, k', j', hk', hj', b3, b4, b5, b6⟩ | ⟨b1, b2, b3, k', j', hk', hj', b4, b5, t', b6, b7, b8⟩
  ·rw [a3] at a5
   exact absurd a5 (b4 _ ((O k hk).lt j hj) ((O k hk).none j hj))
  ·have hl2 := SrP.lst O hb (.inr (.inl ⟨b1, b2, k', j', hk', hj', b3, b4, b5, b6⟩))
   rcases hl with ⟨_, c, _⟩ | ⟨_, _, c⟩ | ⟨_, c, _⟩
   ·rw [a1] at c; cases c
   ·rcases hl2 with ⟨_, d, _⟩ | ⟨_, _, d⟩ | ⟨_, d, _⟩
    ·rw [b1] at d; cases d
    ·obtain ⟨e1, e2⟩ := c.one d
     refine ⟨?_, by rw [a1, b1], by rw [a2, b2]⟩
     rw [← qcr r x c.lt, ← qcr r x' d.lt, e1, e2]
    ·rw [b1] at d; cases d
   ·rw [a1] at c; cases c
  ·rw [a3] at a5
   exact (b5.before hj hj' a5 (by omega)).elim
 ·rcases h2 with ⟨b1, b2, b3, b4⟩ | ⟨b1, b2, k', j', hk', hj', b3, b4, b5, b6⟩ | ⟨b1, b2, b3, k', j', hk', hj', b4, b5, t', b6, b7, b8⟩
  ·exact absurd a8 (b4 _ a6 a7)
  ·rw [b3] at b5
   exact (a5.before hj' hj b5 (by omega)).elim
  ·exact ⟨by rw [a1, b1], by rw [a2, b2], by rw [a3, b3]⟩
open Go.RowKit Go.Shelf
attribute [local go_sem] Oper.semAt_some
/-- The cells of a list of n numbers of a kind. -/
def zrow (K : IntKind) (n : Nat) (f : Nat → Int) : Array Value := (Array.range n).map fun i => .int K (f i)
theorem qco (K : IntKind) (n : Nat) (f : Nat → Int) : (zrow K n f).size = n := by simp [zrow]
theorem qdm (K : IntKind) (n : Nat) (f : Nat → Int) (i : Nat) (h : i < n) : (zrow K n f)[i]? = some (.int K (f i)) := by simp [zrow, h]
theorem zrow_set (K : IntKind) (n : Nat) (f : Nat → Int) (i : Nat) (v : Int) : (zrow K n f).setIfInBounds i (.int K v) = zrow K n (fun j => if j = i then v else f j) := by
 apply Array.ext
 ·simp [zrow]
 ·intro j h1 h2
  by_cases e : i = j
  ·subst e; simp [zrow]
  ·rw [Array.getElem_setIfInBounds_ne (by simpa using h1) e]; simp [zrow, Ne.symm e]
theorem qng (K : IntKind) (n : Nat) (f : Nat → Int) (v : Int) : (zrow K n f).toList ++ [.int K (v : Int)] = (zrow K (n + 1) (fun i => if i = n then v else f i)).toList := by
 apply List.ext_getElem?
 intro i
 have hl : (zrow K n f).toList.length = n := by simp [qco]
 by_cases h1 : i < n
 ·rw [List.getElem?_append_left (by omega), Array.getElem?_toList, Array.getElem?_toList, qdm K n f i h1, qdm K (n + 1) _ i (by omega), if_neg (by omega)]
 ·rw [List.getElem?_append_right (by omega), hl]
  by_cases h2 : i = n
  ·subst h2
   have e2 : (zrow K (i + 1) (fun t => if t = i then v else f t)).toList[i]? = some (.int K v) := by rw [Array.getElem?_toList, qdm K (i + 1) _ i (by omega), if_pos rfl]
   rw [Nat.sub_self, e2]; rfl
  ·have l2 : (zrow K (n + 1) (fun i => if i = n then v else f i)).toList.length = n + 1 := by simp [qco]
   rw [List.getElem?_eq_none (by simp; omega), List.getElem?_eq_none (by omega)]
/-- A block of n numbers. -/
def ZAt (w : World) (b : Nat) (n : Nat) (f : Nat → Int) : Prop := w.heap[b]? = some (.cells (zrow .i64 n f) 3 (0, 0))
theorem ZAt.cell {w : World} {b n : Nat} {f : Nat → Int} (h : ZAt w b n f) (i : Nat) (hi : i < n) : w.cell? ⟨b, i, none⟩ = some (.int .i64 (f i)) := by
 rw [cell_of_row w b i _ _ _ h, qdm .i64 n f i hi]
theorem ZAt.free {w : World} {b n : Nat} {f : Nat → Int} (h : ZAt w b n f) (i : Nat) : w.frozen? ⟨b, i, none⟩ = false := by
 unfold ZAt at h
 simp [World.frozen?, h]
theorem ZAt.lt {w : World} {b n : Nat} {f : Nat → Int} (h : ZAt w b n f) : b < w.heap.size := lt_of_block h
theorem ZAt.set {w : World} {b n : Nat} {f : Nat → Int} (h : ZAt w b n f) (i : Nat) (v : Int) : ZAt (w.setCell ⟨b, i, none⟩ (.int .i64 v)) b n (fun j => if j = i then v else f j) := by
 unfold ZAt at *
 rw [setCell_eq_setRow w b i _ _ (0, 0) _ h, setRow_heap w b _ _ _ (0, 0) h, zrow_set]
theorem ZAt.later {w w' : World} {b n : Nat} {f : Nat → Int} (h : ZAt w b n f) (hb : Below w.heap.size w w') : ZAt w' b n f := by unfold ZAt; rw [hb.block b h.lt]; exact h
theorem ZAt.of_j {w : World} {b n : Nat} (h : JAt w b 3 .i64 n (fun _ => 0)) : ZAt w b n (fun _ => 0) := by
 unfold ZAt
 unfold JAt at h
 rw [h]
 rfl
/-- Numbers of the call's own. -/
def Zo (w : World) (B : Nat) (v : Value) (n : Nat) (f : Nat → Int) : Prop := w.ownsRow B 3 1 v n (zrow .i64 n f).toList
theorem Zo.nil (w : World) (B : Nat) (f : Nat → Int) : Zo w B (.slice none 0 0) 0 f := by
 unfold Zo
 have e : (zrow .i64 0 f).toList = [] := by simp [zrow]
 rw [e]
 exact World.ownsRow_nil _ _ _ _
theorem ZAt.zo {w : World} {B g n : Nat} {f : Nat → Int} (h : ZAt w g n f) (hn : n ≤ 140737488351232) (hB : B ≤ g) : Zo w B (.slice (some ⟨g, 0, none⟩) n n) n f :=
 ⟨by simp [qco], .inr ⟨g, n, zrow .i64 n f, rfl, hB, h, Nat.le_refl _, by unfold maxLen; omega, by simp [qco], List.take_of_length_le (by simp [qco])⟩⟩
theorem Zo.jl {w : World} {B n d : Nat} {s : Option Addr} {f : Nat → Int} (h : Zo w B (.slice s n d) n f) : Jl w s .i64 n f := fun i hi => by
 rcases h.2 with ⟨e, h0⟩ | ⟨g, cap, cur, e, _, hg, h1, _, hs, ht⟩
 ·omega
 ·cases e
  refine ⟨g, 0, rfl, ?_⟩
  rw [Nat.zero_add, cell_of_row w g i _ _ _ hg]
  have h2 : (cur.toList.take (n * 1))[i]? = (zrow .i64 n f).toList[i]? := by rw [ht]
  rw [List.getElem?_take_of_lt (by omega), Array.getElem?_toList, Array.getElem?_toList, qdm .i64 n f i hi] at h2
  exact h2
theorem Zo.later {w w' : World} {B n : Nat} {v : Value} {f : Nat → Int} (h : Zo w B v n f) (hb : Below w.heap.size w w') : Zo w' B v n f := World.ownsRow.kept h (jgrown.mpr hb) (by cases hv : v.ownBlock <;> simp)
theorem Zo.form {w : World} {B n : Nat} {v : Value} {f : Nat → Int} (h : Zo w B v n f) : ∃ s d, v = .slice s n d ∧ (s = none → n = 0 ∧ d = 0) := by
 rcases h.2 with ⟨e, h0⟩ | ⟨g, cap, cur, e, _⟩
 ·exact ⟨none, 0, by rw [e, h0], fun _ => ⟨h0, rfl⟩⟩
 ·exact ⟨_, cap, e, fun e => by cases e⟩
theorem Zo.push {w w2 : World} {B n : Nat} {v v' : Value} {f : Nat → Int} {x : Int} {o : Obj} (h : Zo w B v n f) (hB : B ≤ w.heap.size)
  (hown : w2.ownsRow B 3 1 v' (n + 1) ((zrow .i64 n f).toList ++ [.int .i64 x])) (hg : (w.alloc o).grownBy w2 v.ownBlock) : Zo w2 B v' (n + 1) (fun i => if i = n then x else f i) ∧ Below B w w2 := by
 refine ⟨?_, ?_⟩
 ·unfold Zo
  rw [← qng]
  exact hown
 ·have h1 : Below B w (w.alloc o) := (jlow w o).mono hB
  exact h1.trans (jbelow hg (by simp; omega) (fun k hk => by
   rcases h.2 with ⟨e, _⟩ | ⟨g, cap, cur, e, hb, _⟩
   ·rw [e] at hk; cases hk
   ·rw [e] at hk
    have : g = k := Option.some.inj hk
    omega))
/-- The size that is told of a block. -/
def SzP (M : Nat → Nat → Nat) (r b : Nat) (C : Nat → Nat) (G : Nat → Nat → Nat) (z : Int) : Prop := ∃ (x : Nat) (v : Bool), SrP M r b C G x v 0 ∧ z = (if v = true then (cn x r : Int) else -1)
/-- What Sizes answers of a generator. -/
def SzA (w w' : World) (e : Ending) (M : Nat → Nat → Nat) (r : Nat) (C : Nat → Nat → Nat) (G : Nat → Nat → Nat → Nat) : Prop := Below w.heap.size w w' ∧
  ((∃ b, b < r ∧ SrP M r b (C b) (G b) 0 false 4 ∧ e = .returned (.tuple #[.slice none 0 0, .int .i64 4])) ∨
   (∃ (s : Option Addr) (d : Nat) (z : Nat → Int), e = .returned (.tuple #[.slice s r d, .int .i64 0]) ∧ Zo w' w.heap.size (.slice s r d) r z ∧ ∀ i, i < r → SzP M r i (C i) (G i) (z i)))
theorem qkn (w : World) (r c : Int) (n k : Nat) (a : Option Addr) (h : ¬ GenQ r c n) :
  Calls Tryz.prog 10 #[mv r c a n k] w fun e w' => e = .returned (.tuple #[.slice none 0 0, .int .i64 3]) ∧ Below w.heap.size w w' := by
 have HP : Hid (∀ w' : World, Calls Tryz.prog 40 #[mv r c a n k] w' fun e w'' => e = .returned (.bool false) ∧ Below w'.heap.size w' w'') := fun w' => qhc w' r c n k a false (by simp [h])
 clear h
 go_enter Tryz.func10, Tryz.ntmps10
 go_wp2_with (go_at_call 40; refine (HP.out _).mono ?_; rintro e w1 ⟨rfl, hb⟩; have HB1 : Hid (Below w.heap.size w w1) := qa1 (qa0 _ _) hb; clear hb)
 refine bodyPost_ret (v := .tuple #[.slice none 0 0, .int .i64 3]) (by simp [results, Tryz.results10, go_sem]) rfl ?_
 exact ⟨rfl, HB1.out⟩
theorem qnh (w : World) (r c n k : Nat) (a : Option Addr) (F : Nat → Nat) (ha : Mt w a n k F) (R : Rt r c n) (hg : GenQ r c n) (C : Nat → Nat → Nat) (f ix G : Nat → Nat → Nat → Nat) (O : ∀ b, b < r → qcn r b (C b) (f b) (ix b) (G b)) :
  Calls Tryz.prog 10 #[mv r c a n k] w fun e w' => SzA w w' e (m2 F r c) r C G := by
 have hr := R.r64
 have HGn : Hid (∀ w' : World, Calls Tryz.prog 40 #[mv r c a n k] w' fun e w'' => e = .returned (.bool true) ∧ Below w'.heap.size w' w'') := fun w' => qhc w' r c n k a true (by simp [hg])
 obtain ⟨wb, HW⟩ : ∃ wb, Hid (wb = w.alloc (.cells #[.int .i64 (r : Int), .int .i64 (c : Int), .slice a n k] 24)) := ⟨_, rfl⟩
 have HVa : Hid (Vr wb w.heap.size (.int .i64 (r : Int)) (.int .i64 (c : Int)) (.slice a n k)) := by show Vr _ _ _ _ _; rw [HW.out]; exact Vr.new _ _ _ _
 have HB0 : Hid (Below w.heap.size w wb) := by rw [HW.out]; exact qa0 _ _
 have HA := qa3 ha
 have HR := qa3 R
 have HO := qa3 O
 have HMe := qa3 (qax ha.sl.1 R)
 obtain ⟨i0, hi0, hz0, hz1, hz2⟩ := info_parts ji64
 have hml : r ≤ maxLen := by unfold maxLen; omega
 have hnv : (!true) = false := rfl
 clear ha R O hg
 go_enter Tryz.func10, Tryz.ntmps10
 go_wp2_with (first
  | (go_at_call 40; rw [← HW.out]; refine (HGn.out _).mono ?_; rintro e w1 ⟨rfl, hb1⟩; have HV1 : Hid (Vr w1 w.heap.size (.int .i64 (r : Int)) (.int .i64 (c : Int)) (.slice a n k)) := HVa.out.later hb1; have HB1 : Hid (Below w.heap.size w w1) := qa1 HB0.out hb1; have u0 := HV1.out.c0; have u1 := HV1.out.c1; have u2 := HV1.out.c2; clear hb1)
  | (go_at_call 26; refine (qi0 _ r c n k a F (HA.out.later HB1.out) HR.out).mono ?_; rintro e w2 ⟨g, top, N, H, rfl, hrow, hH, RN, hK, hb2⟩; have HH : Hid (∀ q, q < N → H q < 256) := hH; have HRN : Hid (Rt r top N) := RN; have HK : Hid (KerEq (m2 F r c) (m2 H r top) r) := hK; have HM2 : Hid (Mt (w2.alloc (.cells #[.int .i64 (r : Int), .int .i64 (top : Int), .slice (some ⟨g, 0, none⟩) N N] 24)) (some ⟨g, 0, none⟩) N N H) := (hrow.mt hH).later (qa0 _ _); have HVb : Hid (Vr (w2.alloc (.cells #[.int .i64 (r : Int), .int .i64 (top : Int), .slice (some ⟨g, 0, none⟩) N N] 24)) w2.heap.size (.int .i64 (r : Int)) (.int .i64 (top : Int)) (.slice (some ⟨g, 0, none⟩) N N)) := Vr.new _ _ _ _; have HB2 : Hid (Below w.heap.size w (w2.alloc (.cells #[.int .i64 (r : Int), .int .i64 (top : Int), .slice (some ⟨g, 0, none⟩) N N] 24))) := qa1 (qa1 HB1.out hb2) (qa0 _ _); have t0 := ((HV1.out.later hb2).later (qa0 _ (.cells #[.int .i64 (r : Int), .int .i64 (top : Int), .slice (some ⟨g, 0, none⟩) N N] 24))).c0; clear hrow hH RN hK hb2)
  | (at_make; refine wpList_make_full _ rfl _ _ 34 rfl (w2.alloc (.cells #[.int .i64 (r : Int), .int .i64 (top : Int), .slice (some ⟨g, 0, none⟩) N N] 24)).heap.size 3 i0 (.int .i64 0) 1 Tryz.underlying34 hi0 hz0 hz1 .i64 .i64 _ _ r rfl rfl rfl rfl (by rw [hz2]; omega) hml (Nat.le_refl _) ?_; intro w7 hown hgrow; have HZ7 : Hid (ZAt w7 (w2.alloc (.cells #[.int .i64 (r : Int), .int .i64 (top : Int), .slice (some ⟨g, 0, none⟩) N N] 24)).heap.size r (fun _ => 0)) := ZAt.of_j (jmade_at hown); have HB7 : Hid (Below (w2.alloc (.cells #[.int .i64 (r : Int), .int .i64 (top : Int), .slice (some ⟨g, 0, none⟩) N N] 24)).heap.size (w2.alloc (.cells #[.int .i64 (r : Int), .int .i64 (top : Int), .slice (some ⟨g, 0, none⟩) N N] 24)) w7) := jgrown.mp hgrow; clear hown hgrow))
 obtain ⟨W6, HW6⟩ : ∃ W, Hid (W = w2.alloc (.cells #[.int .i64 (r : Int), .int .i64 (top : Int), .slice (some ⟨g, 0, none⟩) N N] 24)) := ⟨_, rfl⟩
 obtain ⟨gz, Hgz⟩ : ∃ z, Hid ((w2.alloc (.cells #[.int .i64 (r : Int), .int .i64 (top : Int), .slice (some ⟨g, 0, none⟩) N N] 24)).heap.size = z) := ⟨_, rfl⟩
 have hgz : w2.heap.size + 1 = gz := by rw [← Hgz.out]; simp
 have hw2 : w.heap.size ≤ gz := by rw [← Hgz.out]; exact HB2.out.size
 rw [Hgz.out] at HZ7 HB7
 rw [← HW6.out] at HB7 HB2 HM2 HVb
 have hW6 : W6.heap.size = gz := by rw [HW6.out]; exact Hgz.out
 simp only [hgz]
 clear t0 u0 u1 u2 HV1 HB1 HGn HVa HB0 HW HW6
 go_loopw [20] (fun si wi => ∃ (i : Nat) (z : Nat → Int), i ≤ r ∧ si = .int .i64 (i : Int) ∧ ZAt wi gz r z ∧ Hid (∀ t, t < i → SzP (m2 F r c) r t (C t) (G t) (z t)) ∧ Below gz W6 wi) (fun si _ => r - (intOf si).toNat)
 case atStart => exact ⟨0, _, by omega, rfl, HZ7.out, fun t h => by omega, HB7.out⟩
 case round =>
  clear HZ7 HB7
  obtain ⟨i, z, hi, rfl, hZ, hS, hB⟩ := hrel
  have HZ := qa3 hZ
  have HB := qa3 hB
  have HB' : Hid (Below W6.heap.size W6 wr) := by rw [hW6]; exact hB
  have HVr : Hid (Vr wr w2.heap.size (.int .i64 (r : Int)) (.int .i64 (top : Int)) (.slice (some ⟨g, 0, none⟩) N N)) := HVb.out.later HB'.out
  have HMr : Hid (Mt wr (some ⟨g, 0, none⟩) N N H) := HM2.out.later HB'.out
  have b0 := HVr.out.c0
  have b1 := HVr.out.c1
  have b2 := HVr.out.c2
  have hgr : gz ≤ wr.heap.size := by rw [← hW6]; exact hB.size
  clear hZ hB
  by_cases hlt : i < r
  ·have d1 : decide ((i : Int) < (r : Int)) = true := decide_eq_true (by omega)
   have d2 : decide (i < r) = true := decide_eq_true hlt
   go_wp2_with (go_at_call 27; refine (lsearch _ r top N N i (some ⟨g, 0, none⟩) H HMr.out HRN.out hlt (C i) (f i) (ix i) (G i) (HO.out i hlt)).mono ?_)
   rintro e w9 ⟨x, v, er, rfl, hs9, hb9⟩
   have HS9 : Hid (SrP (m2 F r c) r i (C i) (G i) x v er) := hs9.ker (qax HH.out HRN.out) HMe.out HK.out.symm hlt
   have HB9 := qa3 hb9
   have HZ9 : Hid (ZAt w9 gz r z) := HZ.out.later hb9
   clear hb9 hs9 b0 b1 b2
   by_cases he : er = 0
   ·subst he
    have e00 : ((0 : Nat) : Int) = 0 := rfl
    rw [e00]
    clear e00
    obtain ⟨zi, HZi⟩ : ∃ y, Hid (z i = y) := ⟨_, rfl⟩
    have hcl : w9.cell? ⟨gz, i, none⟩ = some (.int .i64 zi) := by rw [← HZi.out]; exact HZ9.out.cell i hlt
    have hfl : w9.frozen? ⟨gz, i, none⟩ = false := HZ9.out.free i
    have p0 : (0 : Int) ≤ (i : Int) := by omega
    have p1 : (i : Int) < (r : Int) := by omega
    cases v
    ·have hF : Hid (SzP (m2 F r c) r i (C i) (G i) (-1)) := ⟨x, false, HS9.out, rfl⟩
     go_wp2
     refine ⟨⟨i + 1, _, by omega, by go_num, HZ9.out.set i (-1), fun t ht => ?_, (HB.out.trans (HB9.out.mono hgr)).trans (jbelow (qah _ _ _ _) (by have := HB9.out.size; omega) (fun q e => by have := Option.some.inj e; omega))⟩, by simp [intOf]; omega⟩
     by_cases e : t = i
     ·subst e; simp only [if_true]; exact hF.out
     ·simp only [if_neg e]; exact hS.out t (by omega)
    ·have hl : LstS (m2 F r c) r i x := by
      rcases HS9.out.lst (HO.out i hlt) hlt with ⟨_, h1, _⟩ | ⟨_, _, hl⟩ | ⟨_, h1, _⟩
      ·exact absurd h1 (by decide)
      ·exact hl
      ·exact absurd h1 (by decide)
     obtain ⟨kx, HKx⟩ : ∃ k, Hid (cn x r = k) := ⟨_, rfl⟩
     have HCt : Hid (∀ w' : World, Calls Tryz.prog 41 #[.int .u64 (x : Int)] w' fun e w'' => e = .returned (.int .i64 (kx : Int)) ∧ w' = w'') := fun w' => by
      have h := qdi x w' (qca hr hl.lt)
      rw [qdw hr hl.lt, HKx.out] at h
      exact h
     have hF : Hid (SzP (m2 F r c) r i (C i) (G i) (kx : Int)) := ⟨x, true, HS9.out, by rw [HKx.out]; rfl⟩
     clear hl
     go_wp2_with (go_at_call 41; refine (HCt.out _).mono ?_; rintro e w' ⟨rfl, rfl⟩)
     refine ⟨⟨i + 1, _, by omega, by go_num, HZ9.out.set i (kx : Int), fun t ht => ?_, (HB.out.trans (HB9.out.mono hgr)).trans (jbelow (qah _ _ _ _) (by have := HB9.out.size; omega) (fun q e => by have := Option.some.inj e; omega))⟩, by simp [intOf]; omega⟩
     by_cases e : t = i
     ·subst e; simp only [if_true]; exact hF.out
     ·simp only [if_neg e]; exact hS.out t (by omega)
   ·have h4 : er = 4 ∧ x = 0 ∧ v = false := by
     rcases HS9.out with ⟨_, _, h, _⟩ | ⟨_, h, _⟩ | ⟨h1, h2, h, _⟩
     ·exact absurd h he
     ·exact absurd h he
     ·exact ⟨h, h1, h2⟩
    obtain ⟨rfl, rfl, rfl⟩ := h4
    have e44 : ((4 : Nat) : Int) = 4 := rfl
    rw [e44]
    clear e44
    go_wp2
    refine bodyPost_ret (v := .tuple #[.slice none 0 0, .int .i64 4]) (by simp [results, Tryz.results10, go_sem]) rfl ?_
    exact ⟨(HB2.out.trans (HB.out.mono hw2)).trans (HB9.out.mono (by omega)), .inl ⟨i, hlt, HS9.out, rfl⟩⟩
  ·have d1 : decide ((i : Int) < (r : Int)) = false := decide_eq_false (by omega)
   have d2 : decide (i < r) = false := decide_eq_false hlt
   go_wp2
   refine bodyPost_ret (v := .tuple #[.slice (some ⟨gz, 0, none⟩) r r, .int .i64 0]) (by simp [results, Tryz.results10, go_sem]) rfl ?_
   refine ⟨HB2.out.trans (HB.out.mono hw2), .inr ⟨_, _, z, rfl, ?_, fun t ht => hS.out t (by omega)⟩⟩
   exact HZ.out.zo (by omega) hw2
end Go.Proofs.YtblagbghpfopcaaGreat
