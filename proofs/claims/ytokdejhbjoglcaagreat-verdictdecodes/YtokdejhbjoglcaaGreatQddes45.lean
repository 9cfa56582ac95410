/-
  The program's verdict.decoder.
  The program's verdict.Decode: its closure and ifRecovered of matrices at it.
  The program's verdict.Decode, whole.
-/
import Derived.Test.YtokdejhbjoglcaaGreatQddes00
import Derived.Test.YtokdejhbjoglcaaGreatQddes44
import Derived.Deep.RegionHeld3
set_option maxRecDepth 100000
set_option maxHeartbeats 16000000
namespace Go.Proofs.YtokdejhbjoglcaaGreat
open Go.RowKit Go.Shelf
theorem qei (w : World) (r c n k p L : Nat) (a : Option Addr) (F : Nat → Nat) (ha : Mt w a n k F) (R : Rt r c n) (hp6 : p < 2 ^ r) (hcn : cn p r = c) (hf : FreeS (m2 F r c) r p) (HL : Hid (c * r = L)) :
  Calls Tryz.prog 15 #[mv r c a n k, .int .u64 (p : Int)] w fun e w' => ∃ g D, e = .returned (mv c r (some ⟨g, 0, none⟩) L L) ∧ RowAt w' g 5 L D ∧ w.heap.size ≤ g ∧ DecP F D p r c ∧ Below w.heap.size w w' := by
 obtain ⟨wb, HW, HX⟩ : ∃ wb, Hid (wb = (w.alloc (.cells #[.int .i64 (r : Int), .int .i64 (c : Int), .slice a n k] 24)).alloc (.cells #[.int .i64 0, .int .i64 0, .slice none 0 0] 24)) ∧ Hid (Box2 w wb r c n k a) := ⟨_, rfl, box2 w r c n k a⟩
 have HA : Hid (Mt w a n k F) := ha
 have HR : Hid (Rt r c n) := R
 have hr := R.r64
 have hc := R.c64
 obtain ⟨m, HMm⟩ : ∃ m, Hid (r * r = m) := ⟨_, rfl⟩
 obtain ⟨N, HN⟩ : ∃ N, Hid (c * c = N) := ⟨_, rfl⟩
 have RN : Hid (Rt c c N) := ⟨hc, hc, HN.out⟩
 have Rm : Hid (Rt r r m) := ⟨hr, hr, HMm.out⟩
 have RL : Hid (Rt c r L) := ⟨hc, hr, HL.out⟩
 obtain ⟨z, HLs, Hz, HPe, HRk, HDm⟩ : ∃ z : Nat → Nat, Hid (∀ w' : World, Calls Tryz.prog 23 #[.int .u64 (p : Int)] w' fun e w'' => ∃ x d, e = .returned (.slice x c d) ∧ Il w'' x c (fun i => (z i : Int)) ∧ Below w'.heap.size w' w'') ∧ Hid (∀ i, i < c → z i < r) ∧ Hid (∀ q, q < N → pkf F z c q < 256) ∧ Hid (Rk (m2 (pkf F z c) c c) c c) ∧ Hid (∀ O, (∀ q, q < N → O q < 256) → (∀ i j, i < c → j < c → pr (m2 (pkf F z c) c c) (m2 O c c) c i j = dl i j) → DecP F (prk O (pkf (idf r) z r) c r c) p r c) := by
  refine ⟨lf p r, qfm (qb2 hr hp6) (by rw [qbr hr hp6, hcn]) (fun i _ => qed hr hp6 i), fun i hi => (qae (by omega)).1, ?_, qfo ha.sl.1 R hcn hf, ?_⟩
  ·rw [← HN.out]; exact qd6 ha.sl.1 R hcn
  ·rw [← HN.out]; exact fun O hO h => qi3 ha.sl.1 R hcn hf hO h
 have HIe : Hid (∀ q, q < m → idf r q < 256) := fun q _ => by unfold idf; split <;> decide
 have HIp : Hid (∀ q, q < L → pkf (idf r) z r q < 256) := fun q _ => by unfold pkf idf; split <;> decide
 have hwb : w.heap.size + 1 < wb.heap.size := HX.out.vr.lt
 clear ha R hp6 hcn hf
 go_enter Tryz.func15, Tryz.ntmps15
 go_wp2_with (first
  | (go_at_call 23; rw [← HW.out]; refine (HLs.out _).mono ?_; rintro e w1 ⟨x, d, rfl, hi1, hb1⟩; have HB1 : Hid (Below wb.heap.size wb w1) := hb1; have HI1 : Hid (Il w1 x c (fun i => (z i : Int))) := hi1; have a0 := (HX.out.va.later hb1).c0; have a1 := (HX.out.va.later hb1).c1; have a2 := (HX.out.va.later hb1).c2; clear hi1 hb1)
  | (go_at_call 22; have _x := HI1; refine (qcg _ r c n k c d N a x F z (HA.out.later (qa0 HX.out.below HB1.out)) HR.out HI1.out Hz.out hc HN).mono ?_; rintro e w2 ⟨g2, rfl, hr2, _, hb2⟩; have HB2 : Hid (Below wb.heap.size wb w2) := qa0 HB1.out hb2; have HM2 : Hid (Mt w2 (some ⟨g2, 0, none⟩) N N (pkf F z c)) := hr2.mt HPe.out; have HI2 : Hid (Il w2 x c (fun i => (z i : Int))) := HI1.out.later hb2; clear _x HI1 hr2 hb2)
  | (go_at_call 34; refine (ginv_ok _ c N N (some ⟨g2, 0, none⟩) (pkf F z c) (HM2.out.later (qa1 _ _)) RN.out HRk.out).mono ?_; rintro e w3 ⟨s3, d3, O, rfl, hm3, hinv3, hb3⟩; have HB3 : Hid (Below wb.heap.size wb w3) := qa0 (qa0 HB2.out (qa1 _ _)) hb3; have HO3 : Hid (DecP F (prk O (pkf (idf r) z r) c r c) p r c) := HDm.out O hm3.sl.1 hinv3; have HM3 : Hid (Mt w3 s3 N d3 O) := hm3; have HI3 : Hid (Il w3 x c (fun i => (z i : Int))) := (HI2.out.later (qa1 _ _)).later hb3; have b0 := ((HX.out.va.later HB3.out).later (qa1 w3 (.cells #[.int .i64 (c : Int), .int .i64 (c : Int), .slice s3 N d3] 24))).c0; have HV3 : Hid (Vr (w3.alloc (.cells #[.int .i64 (c : Int), .int .i64 (c : Int), .slice s3 N d3] 24)) w3.heap.size (.int .i64 (c : Int)) (.int .i64 (c : Int)) (.slice s3 N d3)) := Vr.new w3 _ _ _; clear hm3 hinv3 hb3 HI2)
  | (go_at_call 35; refine (qg1 _ r m hr HMm).mono ?_; rintro e w4 ⟨g4, rfl, hr4, _, hb4⟩; have HB4 : Hid (Below wb.heap.size wb w4) := qa0 (qa0 HB3.out (qa1 _ _)) hb4; have HM4 : Hid (Mt w4 (some ⟨g4, 0, none⟩) m m (idf r)) := hr4.mt HIe.out; have HM43 : Hid (Mt w4 s3 N d3 O) := (HM3.out.later (qa1 _ _)).later hb4; have HI4 : Hid (Il w4 x c (fun i => (z i : Int))) := (HI3.out.later (qa1 _ _)).later hb4; have HV4 : Hid (Vr w4 w3.heap.size (.int .i64 (c : Int)) (.int .i64 (c : Int)) (.slice s3 N d3)) := HV3.out.later hb4; clear hr4 hb4 HI3)
  | (go_at_call 22; refine (qcg _ r r m m c d L (some ⟨g4, 0, none⟩) x (idf r) z (HM4.out.later (qa1 _ _)) Rm.out (HI4.out.later (qa1 _ _)) Hz.out hc HL).mono ?_; rintro e w5 ⟨g5, rfl, hr5, _, hb5⟩; have HB5 : Hid (Below wb.heap.size wb w5) := qa0 (qa0 HB4.out (qa1 _ _)) hb5; have HM5 : Hid (Mt w5 (some ⟨g5, 0, none⟩) L L (pkf (idf r) z r)) := hr5.mt HIp.out; have HM53 : Hid (Mt w5 s3 N d3 O) := (HM43.out.later (qa1 _ _)).later hb5; have HV5 : Hid (Vr w5 w3.heap.size (.int .i64 (c : Int)) (.int .i64 (c : Int)) (.slice s3 N d3)) := (HV4.out.later (qa1 _ _)).later hb5; have HV6 : Hid (Vr (w5.alloc (.cells #[.int .i64 (c : Int), .int .i64 (r : Int), .slice (some ⟨g5, 0, none⟩) L L] 24)) w3.heap.size (.int .i64 (c : Int)) (.int .i64 (c : Int)) (.slice s3 N d3)) := HV5.out.later (qa1 _ _); have y0 := HV6.out.c0; have y1 := HV6.out.c1; have y2 := HV6.out.c2; clear hr5 hb5)
  | (go_at_call 24; refine (qfc _ c c r N L L d3 L s3 (some ⟨g5, 0, none⟩) O (pkf (idf r) z r) (HM53.out.later (qa1 _ _)) (HM5.out.later (qa1 _ _)) RN.out RL.out RL.out).mono ?_; rintro e w6 ⟨g6, rfl, hr6, hg6, hb6⟩; have HB6 : Hid (Below wb.heap.size wb w6) := qa0 (qa0 HB5.out (qa1 _ _)) hb6; have HR6 : Hid (RowAt w6 g6 5 L (prk O (pkf (idf r) z r) c r c)) := hr6; have hgb : wb.heap.size ≤ g6 := (by have h1 := (qa0 HB5.out (qa1 w5 (.cells #[.int .i64 (c : Int), .int .i64 (r : Int), .slice (some ⟨g5, 0, none⟩) L L] 24))).size; exact Nat.le_trans h1 hg6); clear hr6 hg6 hb6)
  | (refine qa2 rfl _ _ rfl (w.heap.size + 1) _ _ _ (.int .i64 (c : Int)) (.int .i64 (r : Int)) (.slice (some ⟨g6, 0, none⟩) L L) rfl rfl (HX.out.vr.later (qa0 HB6.out (qa1 _ _))) rfl rfl rfl ?_; intro w7 HV7 HG7))
 have d0 := HV7.out.c0
 have d1 := HV7.out.c1
 have d2 := HV7.out.c2
 refine bodyPost_ret (v := mv c r (some ⟨g6, 0, none⟩) L L) (by simp [results, Tryz.results15, go_sem, d0, d1, d2, mv]) rfl ?_
 exact ⟨g6, _, rfl, (HR6.out.later (qa1 _ _)).kept HG7.out (by omega), by omega, HO3.out, qa4 (qa0 HX.out.below (qa0 HB6.out (qa1 _ _))) HG7.out (by omega)⟩
open Go.RowKit Go.Shelf
attribute [local go_sem] Oper.semAt_some
/-- A matrix of q rows and r columns in new memory is answered. -/
def MadeP (w w' : World) (e : Ending) (q r L : Nat) (PP : (Nat → Nat) → Prop) : Prop := ∃ g D, e = .returned (mv q r (some ⟨g, 0, none⟩) L L) ∧ RowAt w' g 5 L D ∧ w.heap.size ≤ g ∧ PP D ∧ Below w.heap.size w w'
/-- The same, with 'recovered' and no error. -/
def MadeT (w w' : World) (e : Ending) (q r L : Nat) (PP : (Nat → Nat) → Prop) : Prop := ∃ g D, e = .returned (.tuple #[mv q r (some ⟨g, 0, none⟩) L L, .bool true, .int .i64 0]) ∧ RowAt w' g 5 L D ∧ w.heap.size ≤ g ∧ PP D ∧ Below w.heap.size w w'
theorem qj1 (w : World) (r c : Int) (n k s b1 : Nat) (a : Option Addr) (h : ¬ GenP r c n) :
  Calls Tryz.prog 13 #[mv r c a n k, .int .u64 (s : Int), .func (.func 14) #[] #[.pointer (some ⟨b1, 0, none⟩)]] w fun e w' => e = .returned (.tuple #[mv 0 0 none 0 0, .bool false, .int .i64 3]) ∧ Below w.heap.size w w' := by
 obtain ⟨wb, HW, HX⟩ : ∃ wb, Hid (wb = (w.alloc (.cells #[.int .i64 (r : Int), .int .i64 (c : Int), .slice a n k] 24)).alloc (.cells #[.int .i64 0, .int .i64 0, .slice none 0 0] 24)) ∧ Hid (Box2 w wb r c n k a) := ⟨_, rfl, box2 w r c n k a⟩
 have HP : Hid (∀ w' : World, Calls Tryz.prog 30 #[mv r c a n k] w' fun e w'' => e = .returned (.bool false) ∧ Below w'.heap.size w' w'') := fun w' => qc9 w' r c n k a false (by simp [h])
 clear h
 go_enter Tryz.func13, Tryz.ntmps13
 go_wp2_with (first
  | (go_at_call 30; rw [← HW.out]; refine (HP.out _).mono ?_; rintro e w1 ⟨rfl, hb⟩; have HB1 : Hid (Below wb.heap.size wb w1) := hb; have x1_0 := (HX.out.va.later HB1.out).c0; have x1_1 := (HX.out.va.later HB1.out).c1; have x1_2 := (HX.out.va.later HB1.out).c2; have z1_0 := (HX.out.vr.later HB1.out).c0; have z1_1 := (HX.out.vr.later HB1.out).c1; have z1_2 := (HX.out.vr.later HB1.out).c2; clear hb)
  | (refine qa2 rfl _ _ rfl (w.heap.size + 1) _ _ _ (.int .i64 0) (.int .i64 0) (.slice none 0 0) rfl rfl (HX.out.vr.later HB1.out) rfl rfl rfl ?_; intro w7 HV7 HG7))
 have d0 := HV7.out.c0
 have d1 := HV7.out.c1
 have d2 := HV7.out.c2
 refine bodyPost_ret (v := .tuple #[mv 0 0 none 0 0, .bool false, .int .i64 3]) (by simp [results, Tryz.results13, go_sem, d0, d1, d2, mv]) rfl ?_
 exact ⟨rfl, qa4 (qa0 HX.out.below HB1.out) HG7.out (by omega)⟩
theorem vifd_arg (w : World) (r c n k s b1 : Nat) (a : Option Addr) (G : GenP r c n) (hr : r ≤ 64) (hs6 : s < 18446744073709551616) (h : ¬ s < 2 ^ r) :
  Calls Tryz.prog 13 #[mv r c a n k, .int .u64 (s : Int), .func (.func 14) #[] #[.pointer (some ⟨b1, 0, none⟩)]] w fun e w' => e = .returned (.tuple #[mv 0 0 none 0 0, .bool false, .int .i64 2]) ∧ Below w.heap.size w w' := by
 obtain ⟨wb, HW, HX⟩ : ∃ wb, Hid (wb = (w.alloc (.cells #[.int .i64 (r : Int), .int .i64 (c : Int), .slice a n k] 24)).alloc (.cells #[.int .i64 0, .int .i64 0, .slice none 0 0] 24)) ∧ Hid (Box2 w wb r c n k a) := ⟨_, rfl, box2 w r c n k a⟩
 have HP : Hid (∀ w' : World, Calls Tryz.prog 30 #[mv r c a n k] w' fun e w'' => e = .returned (.bool true) ∧ Below w'.heap.size w' w'') := fun w' => qc9 w' r c n k a true (by simp [G])
 have HR : Hid (∀ w' : World, Calls Tryz.prog 31 #[mv r c a n k, .int .u64 (s : Int)] w' fun e w'' => e = .returned (.bool false) ∧ Below w'.heap.size w' w'') := fun w' => by
  have h2 := qca w' r s n k c a hr hs6
  rw [decide_eq_false h] at h2
  exact h2
 clear h G hr hs6
 go_enter Tryz.func13, Tryz.ntmps13
 go_wp2_with (first
  | (go_at_call 30; rw [← HW.out]; refine (HP.out _).mono ?_; rintro e w1 ⟨rfl, hb⟩; have HB1 : Hid (Below wb.heap.size wb w1) := hb; have x1_0 := (HX.out.va.later HB1.out).c0; have x1_1 := (HX.out.va.later HB1.out).c1; have x1_2 := (HX.out.va.later HB1.out).c2; have z1_0 := (HX.out.vr.later HB1.out).c0; have z1_1 := (HX.out.vr.later HB1.out).c1; have z1_2 := (HX.out.vr.later HB1.out).c2; clear hb)
  | (go_at_call 31; refine (HR.out _).mono ?_; rintro e w2 ⟨rfl, hb⟩; have HB2 : Hid (Below wb.heap.size wb w2) := qa0 HB1.out hb; have x2_0 := (HX.out.va.later HB2.out).c0; have x2_1 := (HX.out.va.later HB2.out).c1; have x2_2 := (HX.out.va.later HB2.out).c2; have z2_0 := (HX.out.vr.later HB2.out).c0; have z2_1 := (HX.out.vr.later HB2.out).c1; have z2_2 := (HX.out.vr.later HB2.out).c2; clear hb)
  | (refine qa2 rfl _ _ rfl (w.heap.size + 1) _ _ _ (.int .i64 0) (.int .i64 0) (.slice none 0 0) rfl rfl (HX.out.vr.later HB2.out) rfl rfl rfl ?_; intro w7 HV7 HG7))
 have d0 := HV7.out.c0
 have d1 := HV7.out.c1
 have d2 := HV7.out.c2
 refine bodyPost_ret (v := .tuple #[mv 0 0 none 0 0, .bool false, .int .i64 2]) (by simp [results, Tryz.results13, go_sem, d0, d1, d2, mv]) rfl ?_
 exact ⟨rfl, qa4 (qa0 HX.out.below HB2.out) HG7.out (by omega)⟩
theorem vifd_no (w : World) (r c n k s t p b1 : Nat) (a : Option Addr) (F : Nat → Nat) (ha : Mt w a n k F) (R : Rt r c n) (G : GenP r c n) (hs : s < 2 ^ r) (ht : t < 2 ^ r) (htb : ∀ i, i < r → (bt t i = 1 ↔ ¬ bt s i = 1)) (hp : BaS (m2 F r c) r t p) (hb : cn p r < c) :
  Calls Tryz.prog 13 #[mv r c a n k, .int .u64 (s : Int), .func (.func 14) #[] #[.pointer (some ⟨b1, 0, none⟩)]] w fun e w' => e = .returned (.tuple #[mv 0 0 none 0 0, .bool false, .int .i64 0]) ∧ Below w.heap.size w w' := by
 have hr := R.r64
 have hs6 := qb2 hr hs
 have h := hs
 obtain ⟨wb, HW, HX⟩ : ∃ wb, Hid (wb = (w.alloc (.cells #[.int .i64 (r : Int), .int .i64 (c : Int), .slice a n k] 24)).alloc (.cells #[.int .i64 0, .int .i64 0, .slice none 0 0] 24)) ∧ Hid (Box2 w wb r c n k a) := ⟨_, rfl, box2 w r c n k a⟩
 have HP : Hid (∀ w' : World, Calls Tryz.prog 30 #[mv r c a n k] w' fun e w'' => e = .returned (.bool true) ∧ Below w'.heap.size w' w'') := fun w' => qc9 w' r c n k a true (by simp [G])
 have HR : Hid (∀ w' : World, Calls Tryz.prog 31 #[mv r c a n k, .int .u64 (s : Int)] w' fun e w'' => e = .returned (.bool true) ∧ Below w'.heap.size w' w'') := fun w' => by
  have h2 := qca w' r s n k c a hr hs6
  rw [decide_eq_true h] at h2
  exact h2
 have HF : Hid (∀ w' : World, Below w.heap.size w w' → Calls Tryz.prog 32 #[mv r c a n k, .int .u64 (s : Int)] w' fun e w'' => e = .returned (.int .u64 (p : Int)) ∧ Below w'.heap.size w' w'') := fun w' hbl => qd5 w' r c n k s t p a F (ha.later hbl) R hs ht htb hp
 obtain ⟨K, HK⟩ : ∃ K, Hid (cn p r = K) := ⟨_, rfl⟩
 have HC : Hid (∀ w' : World, Calls Tryz.prog 33 #[.int .u64 (p : Int)] w' fun e w'' => e = .returned (.int .i64 (K : Int)) ∧ w' = w'') := fun w' => by
  have h := qbl p w' (qb2 hr hp.1)
  rw [qbr hr hp.1, HK.out] at h
  exact h
 have hlt : (K : Int) < (c : Int) := by have := HK.out; omega
 clear ha R G hs ht htb hp hr hs6 h HK hb
 go_enter Tryz.func13, Tryz.ntmps13
 go_wp2_with (first
  | (go_at_call 30; rw [← HW.out]; refine (HP.out _).mono ?_; rintro e w1 ⟨rfl, hb⟩; have HB1 : Hid (Below wb.heap.size wb w1) := hb; have x1_0 := (HX.out.va.later HB1.out).c0; have x1_1 := (HX.out.va.later HB1.out).c1; have x1_2 := (HX.out.va.later HB1.out).c2; have z1_0 := (HX.out.vr.later HB1.out).c0; have z1_1 := (HX.out.vr.later HB1.out).c1; have z1_2 := (HX.out.vr.later HB1.out).c2; clear hb)
  | (go_at_call 31; refine (HR.out _).mono ?_; rintro e w2 ⟨rfl, hb⟩; have HB2 : Hid (Below wb.heap.size wb w2) := qa0 HB1.out hb; have x2_0 := (HX.out.va.later HB2.out).c0; have x2_1 := (HX.out.va.later HB2.out).c1; have x2_2 := (HX.out.va.later HB2.out).c2; have z2_0 := (HX.out.vr.later HB2.out).c0; have z2_1 := (HX.out.vr.later HB2.out).c1; have z2_2 := (HX.out.vr.later HB2.out).c2; clear hb)
  | (go_at_call 32; refine (HF.out _ (qa0 HX.out.below HB2.out)).mono ?_; rintro e w3 ⟨rfl, hb⟩; have HB3 : Hid (Below wb.heap.size wb w3) := qa0 HB2.out hb; have x3_0 := (HX.out.va.later HB3.out).c0; have x3_1 := (HX.out.va.later HB3.out).c1; have x3_2 := (HX.out.va.later HB3.out).c2; have z3_0 := (HX.out.vr.later HB3.out).c0; have z3_1 := (HX.out.vr.later HB3.out).c1; have z3_2 := (HX.out.vr.later HB3.out).c2; clear hb))
 go_region_held3 (fun w' => w'.cell? ⟨w.heap.size, 1, none⟩ = some (.int .i64 (c : Int)))
  (first | go_keep | assumption)
  (first | (go_at_call 33; refine (HC.out _).mono ?_; rintro e w' ⟨rfl, rfl⟩))
 go_wp2_with (first
  | (refine qa2 rfl _ _ rfl (w.heap.size + 1) _ _ _ (.int .i64 0) (.int .i64 0) (.slice none 0 0) rfl rfl (HX.out.vr.later HB3.out.drew) rfl rfl rfl ?_; intro w7 HV7 HG7))
 have d0 := HV7.out.c0
 have d1 := HV7.out.c1
 have d2 := HV7.out.c2
 refine bodyPost_ret (v := .tuple #[mv 0 0 none 0 0, .bool false, .int .i64 0]) (by simp [results, Tryz.results13, go_sem, d0, d1, d2, mv]) rfl ?_
 exact ⟨rfl, qa4 (qa0 HX.out.below HB3.out.drew) HG7.out (by omega)⟩
theorem vifd_yes (w : World) (r c n k s t p q L b1 : Nat) (a : Option Addr) (F : Nat → Nat) (PP : (Nat → Nat) → Prop) (ha : Mt w a n k F) (R : Rt r c n) (G : GenP r c n) (hs : s < 2 ^ r) (ht : t < 2 ^ r) (htb : ∀ i, i < r → (bt t i = 1 ↔ ¬ bt s i = 1)) (hp : BaS (m2 F r c) r t p) (hb : ¬ cn p r < c)
  (HG : Hid (∀ w' : World, Below w.heap.size w w' → Calls Tryz.prog 14 #[.int .u64 (p : Int), .pointer (some ⟨b1, 0, none⟩)] w' fun e w'' => MadeP w' w'' e q r L PP)) :
  Calls Tryz.prog 13 #[mv r c a n k, .int .u64 (s : Int), .func (.func 14) #[] #[.pointer (some ⟨b1, 0, none⟩)]] w fun e w' => MadeT w w' e q r L PP := by
 have hr := R.r64
 have hs6 := qb2 hr hs
 have h := hs
 obtain ⟨wb, HW, HX⟩ : ∃ wb, Hid (wb = (w.alloc (.cells #[.int .i64 (r : Int), .int .i64 (c : Int), .slice a n k] 24)).alloc (.cells #[.int .i64 0, .int .i64 0, .slice none 0 0] 24)) ∧ Hid (Box2 w wb r c n k a) := ⟨_, rfl, box2 w r c n k a⟩
 have HP : Hid (∀ w' : World, Calls Tryz.prog 30 #[mv r c a n k] w' fun e w'' => e = .returned (.bool true) ∧ Below w'.heap.size w' w'') := fun w' => qc9 w' r c n k a true (by simp [G])
 have HR : Hid (∀ w' : World, Calls Tryz.prog 31 #[mv r c a n k, .int .u64 (s : Int)] w' fun e w'' => e = .returned (.bool true) ∧ Below w'.heap.size w' w'') := fun w' => by
  have h2 := qca w' r s n k c a hr hs6
  rw [decide_eq_true h] at h2
  exact h2
 have HF : Hid (∀ w' : World, Below w.heap.size w w' → Calls Tryz.prog 32 #[mv r c a n k, .int .u64 (s : Int)] w' fun e w'' => e = .returned (.int .u64 (p : Int)) ∧ Below w'.heap.size w' w'') := fun w' hbl => qd5 w' r c n k s t p a F (ha.later hbl) R hs ht htb hp
 obtain ⟨K, HK⟩ : ∃ K, Hid (cn p r = K) := ⟨_, rfl⟩
 have HC : Hid (∀ w' : World, Calls Tryz.prog 33 #[.int .u64 (p : Int)] w' fun e w'' => e = .returned (.int .i64 (K : Int)) ∧ w' = w'') := fun w' => by
  have h := qbl p w' (qb2 hr hp.1)
  rw [qbr hr hp.1, HK.out] at h
  exact h
 have hlt : ¬ (K : Int) < (c : Int) := by have := HK.out; omega
 have hlt2 : decide ((K : Int) < (c : Int)) = false := decide_eq_false hlt
 clear ha R G hs ht htb hp hr hs6 h HK hb
 go_enter Tryz.func13, Tryz.ntmps13
 go_wp2_with (first
  | (go_at_call 30; rw [← HW.out]; refine (HP.out _).mono ?_; rintro e w1 ⟨rfl, hb⟩; have HB1 : Hid (Below wb.heap.size wb w1) := hb; have x1_0 := (HX.out.va.later HB1.out).c0; have x1_1 := (HX.out.va.later HB1.out).c1; have x1_2 := (HX.out.va.later HB1.out).c2; have z1_0 := (HX.out.vr.later HB1.out).c0; have z1_1 := (HX.out.vr.later HB1.out).c1; have z1_2 := (HX.out.vr.later HB1.out).c2; clear hb)
  | (go_at_call 31; refine (HR.out _).mono ?_; rintro e w2 ⟨rfl, hb⟩; have HB2 : Hid (Below wb.heap.size wb w2) := qa0 HB1.out hb; have x2_0 := (HX.out.va.later HB2.out).c0; have x2_1 := (HX.out.va.later HB2.out).c1; have x2_2 := (HX.out.va.later HB2.out).c2; have z2_0 := (HX.out.vr.later HB2.out).c0; have z2_1 := (HX.out.vr.later HB2.out).c1; have z2_2 := (HX.out.vr.later HB2.out).c2; clear hb)
  | (go_at_call 32; refine (HF.out _ (qa0 HX.out.below HB2.out)).mono ?_; rintro e w3 ⟨rfl, hb⟩; have HB3 : Hid (Below wb.heap.size wb w3) := qa0 HB2.out hb; have x3_0 := (HX.out.va.later HB3.out).c0; have x3_1 := (HX.out.va.later HB3.out).c1; have x3_2 := (HX.out.va.later HB3.out).c2; have z3_0 := (HX.out.vr.later HB3.out).c0; have z3_1 := (HX.out.vr.later HB3.out).c1; have z3_2 := (HX.out.vr.later HB3.out).c2; clear hb))
 go_region_held3 (fun w' => w'.cell? ⟨w.heap.size, 1, none⟩ = some (.int .i64 (c : Int)))
  (first | go_keep | assumption)
  (first | (go_at_call 33; refine (HC.out _).mono ?_; rintro e w' ⟨rfl, rfl⟩))
 go_wp2_with (first
  | (go_at_call 14; refine (HG.out _ (qa0 HX.out.below HB3.out.drew)).mono ?_; rintro e w4 ⟨g, O, rfl, hr4, hg4, hp4, hb4⟩; have HB4 : Hid (Below wb.heap.size wb w4) := qa0 HB3.out.drew hb4; have HR4 : Hid (RowAt w4 g 5 L O) := hr4; have HPP := qan hp4; have hgb : wb.heap.size ≤ g := Nat.le_trans HB3.out.size hg4; clear hr4 hg4 hp4 hb4)
  | (refine qa2 rfl _ _ rfl (w.heap.size + 1) _ _ _ (.int .i64 (q : Int)) (.int .i64 (r : Int)) (.slice (some ⟨g, 0, none⟩) L L) rfl rfl (HX.out.vr.later HB4.out) rfl rfl rfl ?_; intro w7 HV7 HG7))
 have d0 := HV7.out.c0
 have d1 := HV7.out.c1
 have d2 := HV7.out.c2
 refine bodyPost_ret (v := .tuple #[mv q r (some ⟨g, 0, none⟩) L L, .bool true, .int .i64 0]) (by simp [results, Tryz.results13, go_sem, d0, d1, d2, mv]) rfl ?_
 have hwb := HX.out.vr.lt
 exact ⟨g, O, rfl, HR4.out.kept HG7.out (by omega), by omega, HPP.out, qa4 (qa0 HX.out.below HB4.out) HG7.out (by omega)⟩
open Go.RowKit Go.Shelf
attribute [local go_sem] Oper.semAt_some
theorem vdec1_ok (w : World) (b r c n k p L : Nat) (a : Option Addr) (F : Nat → Nat) (hv : Vr w b (.int .i64 (r : Int)) (.int .i64 (c : Int)) (.slice a n k)) (ha : Mt w a n k F) (R : Rt r c n) (hp6 : p < 2 ^ r) (hcn : cn p r = c) (hf : FreeS (m2 F r c) r p) (HL : Hid (c * r = L)) :
  Calls Tryz.prog 14 #[.int .u64 (p : Int), .pointer (some ⟨b, 0, none⟩)] w fun e w' => MadeP w w' e c r L (fun O => DecP F O p r c) := by
 obtain ⟨wb, HW⟩ : ∃ wb, Hid (wb = w.alloc (.cells #[.int .i64 0, .int .i64 0, .slice none 0 0] 24)) := ⟨_, rfl⟩
 have HVz : Hid (Vr wb w.heap.size (.int .i64 0) (.int .i64 0) (.slice none 0 0)) := by rw [HW.out]; exact Vr.new w _ _ _
 have HBb : Hid (Below w.heap.size w wb) := by rw [HW.out]; exact qa1 _ _
 have HVb := hv.later HBb.out
 rw [HW.out] at HVb
 have c0 := HVb.c0
 have c1 := HVb.c1
 have c2 := HVb.c2
 have HC : Hid (Calls Tryz.prog 15 #[mv r c a n k, .int .u64 (p : Int)] wb fun e w' => ∃ g O, e = .returned (mv c r (some ⟨g, 0, none⟩) L L) ∧ RowAt w' g 5 L O ∧ wb.heap.size ≤ g ∧ DecP F O p r c ∧ Below wb.heap.size wb w') := qei wb r c n k p L a F (ha.later HBb.out) R hp6 hcn hf HL
 have hlt := HVz.out.lt
 clear ha R hp6 hcn hf hv HVb
 go_enter Tryz.func14, Tryz.ntmps14
 go_wp2_with (first
  | (go_at_call 15; rw [← HW.out]; refine HC.out.mono ?_; rintro e w4 ⟨g, O, rfl, hr4, hg4, hp4, hb4⟩; have HB4 : Hid (Below wb.heap.size wb w4) := hb4; have HR4 : Hid (RowAt w4 g 5 L O) := hr4; have HPP := qan hp4; have HG4 := qan hg4; clear hr4 hg4 hp4 hb4)
  | (refine qa2 rfl _ _ rfl w.heap.size _ _ _ (.int .i64 (c : Int)) (.int .i64 (r : Int)) (.slice (some ⟨g, 0, none⟩) L L) rfl rfl (HVz.out.later HB4.out) rfl rfl rfl ?_; intro w7 HV7 HG7))
 have d0 := HV7.out.c0
 have d1 := HV7.out.c1
 have d2 := HV7.out.c2
 refine bodyPost_ret (v := mv c r (some ⟨g, 0, none⟩) L L) (by simp [results, Tryz.results14, go_sem, d0, d1, d2, mv]) rfl ?_
 have hg := HG4.out
 exact ⟨g, O, rfl, HR4.out.kept HG7.out (by omega), by omega, HPP.out, qa4 (qa0 HBb.out HB4.out) HG7.out (by omega)⟩
theorem qcp (w : World) (r c E : Int) (n k s : Nat) (a : Option Addr)
  (HI : Hid (∀ w' : World, Below w.heap.size w w' → Calls Tryz.prog 13 #[mv r c a n k, .int .u64 (s : Int), .func (.func 14) #[] #[.pointer (some ⟨w.heap.size, 0, none⟩)]] w' fun e w'' => e = .returned (.tuple #[mv 0 0 none 0 0, .bool false, .int .i64 E]) ∧ Below w'.heap.size w' w'')) :
  Calls Tryz.prog 5 #[mv r c a n k, .int .u64 (s : Int)] w fun e w' => e = .returned (.tuple #[mv 0 0 none 0 0, .bool false, .int .i64 E]) ∧ Below w.heap.size w w' := by
 obtain ⟨wb, HW, HX⟩ : ∃ wb, Hid (wb = (w.alloc (.cells #[.int .i64 r, .int .i64 c, .slice a n k] 24)).alloc (.cells #[.int .i64 0, .int .i64 0, .slice none 0 0] 24)) ∧ Hid (Box2 w wb r c n k a) := ⟨_, rfl, box2 w r c n k a⟩
 have hmf : ∀ (fn : Fn) (first cap : Array Value) (w : World), (Instr.makeFunc fn first cap).run Tryz.prog w = .ok (.func fn first cap) w := fun _ _ _ _ => rfl
 go_enter Tryz.func5, Tryz.ntmps5
 go_wp2_with (first
  | (go_at_call 13; rw [← HW.out]; refine (HI.out _ HX.out.below).mono ?_; rintro e w1 ⟨rfl, hb⟩; have HB1 : Hid (Below wb.heap.size wb w1) := hb; clear hb)
  | (refine qa2 rfl _ _ rfl (w.heap.size + 1) _ _ _ (.int .i64 0) (.int .i64 0) (.slice none 0 0) rfl rfl (HX.out.vr.later HB1.out) rfl rfl rfl ?_; intro w7 HV7 HG7))
 have d0 := HV7.out.c0
 have d1 := HV7.out.c1
 have d2 := HV7.out.c2
 refine bodyPost_ret (v := .tuple #[mv 0 0 none 0 0, .bool false, .int .i64 E]) (by simp [results, Tryz.results5, go_sem, d0, d1, d2, mv]) rfl ?_
 exact ⟨rfl, qa4 (qa0 HX.out.below HB1.out) HG7.out (by omega)⟩
theorem qgw (w : World) (r c n k s q L : Nat) (a : Option Addr) (PP : (Nat → Nat) → Prop)
  (HI : Hid (∀ w' : World, Below w.heap.size w w' → Vr w' w.heap.size (.int .i64 (r : Int)) (.int .i64 (c : Int)) (.slice a n k) → Calls Tryz.prog 13 #[mv r c a n k, .int .u64 (s : Int), .func (.func 14) #[] #[.pointer (some ⟨w.heap.size, 0, none⟩)]] w' fun e w'' => MadeT w' w'' e q r L PP)) :
  Calls Tryz.prog 5 #[mv r c a n k, .int .u64 (s : Int)] w fun e w' => MadeT w w' e q r L PP := by
 obtain ⟨wb, HW, HX⟩ : ∃ wb, Hid (wb = (w.alloc (.cells #[.int .i64 (r : Int), .int .i64 (c : Int), .slice a n k] 24)).alloc (.cells #[.int .i64 0, .int .i64 0, .slice none 0 0] 24)) ∧ Hid (Box2 w wb r c n k a) := ⟨_, rfl, box2 w r c n k a⟩
 have hmf : ∀ (fn : Fn) (first cap : Array Value) (w : World), (Instr.makeFunc fn first cap).run Tryz.prog w = .ok (.func fn first cap) w := fun _ _ _ _ => rfl
 go_enter Tryz.func5, Tryz.ntmps5
 go_wp2_with (first
  | (go_at_call 13; rw [← HW.out]; refine (HI.out _ HX.out.below HX.out.va).mono ?_; rintro e w4 ⟨g, O, rfl, hr4, hg4, hp4, hb4⟩; have HB4 : Hid (Below wb.heap.size wb w4) := hb4; have HR4 : Hid (RowAt w4 g 5 L O) := hr4; have HPP := qan hp4; have HG4 := qan hg4; clear hr4 hg4 hp4 hb4)
  | (refine qa2 rfl _ _ rfl (w.heap.size + 1) _ _ _ (.int .i64 (q : Int)) (.int .i64 (r : Int)) (.slice (some ⟨g, 0, none⟩) L L) rfl rfl (HX.out.vr.later HB4.out) rfl rfl rfl ?_; intro w7 HV7 HG7))
 have d0 := HV7.out.c0
 have d1 := HV7.out.c1
 have d2 := HV7.out.c2
 refine bodyPost_ret (v := .tuple #[mv q r (some ⟨g, 0, none⟩) L L, .bool true, .int .i64 0]) (by simp [results, Tryz.results5, go_sem, d0, d1, d2, mv]) rfl ?_
 have hg := HG4.out
 have hwb := HX.out.vr.lt
 exact ⟨g, O, rfl, HR4.out.kept HG7.out (by omega), by omega, HPP.out, qa4 (qa0 HX.out.below HB4.out) HG7.out (by omega)⟩
/-- What Decode answers. -/
theorem qj2 {w : World} {r c : Int} {n k s q : Nat} {a : Option Addr} {F : Nat → Nat} {E : Int} (ha : Mt w a n k F) (hs6 : s < 18446744073709551616) (h : SayA F r c n s false q E) :
  Calls Tryz.prog 5 #[mv r c a n k, .int .u64 (s : Int)] w fun e w' => e = .returned (.tuple #[mv 0 0 none 0 0, .bool false, .int .i64 E]) ∧ Below w.heap.size w w' := by
 rcases h with ⟨h1, _, _, rfl⟩ | ⟨r', c', rfl, rfl, G, R, hs, _, _, rfl⟩ | ⟨r', c', t, p, rfl, rfl, G, R, _, _, hs, ht, _, htb, hp, hk, hle, hb, _, rfl⟩
 ·exact qcp w r c 3 n k s a (fun w' _ => qj1 w' r c n k s w.heap.size a h1)
 ·exact qcp w r' c' 2 n k s a (fun w' _ => vifd_arg w' r' c' n k s w.heap.size a G R.r64 hs6 hs)
 ·refine qcp w r' c' 0 n k s a (fun w' hbl => vifd_no w' r' c' n k s t p w.heap.size a F (ha.later hbl) R G hs ht htb hp ?_)
  have : ¬ cn p r' = c' := fun e => by have := hb.2 e; cases this
  omega
theorem qj3 {w : World} {r c n k s t p L : Nat} {a : Option Addr} {F : Nat → Nat} (ha : Mt w a n k F) (R : Rt r c n) (G : GenP r c n) (hs : s < 2 ^ r) (ht : t < 2 ^ r) (htb : ∀ i, i < r → (bt t i = 1 ↔ ¬ bt s i = 1)) (hp : BaS (m2 F r c) r t p) (hcn : cn p r = c) (HL : Hid (c * r = L)) :
  Calls Tryz.prog 5 #[mv r c a n k, .int .u64 (s : Int)] w fun e w' => MadeT w w' e c r L (fun O => DecP F O p r c) :=
 qgw w r c n k s c L a _ (fun w' hbl hv => vifd_yes w' r c n k s t p c L w.heap.size a F _ (ha.later hbl) R G hs ht htb hp (by omega)
  (fun w'' hb2 => vdec1_ok w'' w.heap.size r c n k p L a F (hv.later hb2) ((ha.later hbl).later hb2) R hp.1 hcn (hp.free (qaq ha.sl.1 R)).1 HL))
end Go.Proofs.YtokdejhbjoglcaaGreat
