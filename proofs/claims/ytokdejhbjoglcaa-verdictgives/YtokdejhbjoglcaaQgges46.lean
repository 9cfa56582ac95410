/-
  The program's verdict.Decode: its closure and ifRecovered of matrices at it.
  The program's verdict.Decode, whole.
-/
import Derived.Test.YtokdejhbjoglcaaQgges00
import Derived.Test.YtokdejhbjoglcaaQgges45
import Derived.Deep.RegionHeld3
set_option maxRecDepth 100000
set_option maxHeartbeats 16000000
namespace Go.Proofs.Ytokdejhbjoglcaa
open Go.RowKit Go.Shelf
attribute [local go_sem] Oper.semAt_some
/-- A matrix of q rows and r columns in new memory is answered. -/
def MadeP (w w' : World) (e : Ending) (q r L : Nat) (PP : (Nat → Nat) → Prop) : Prop := ∃ g D, e = .returned (mv q r (some ⟨g, 0, none⟩) L L) ∧ RowAt w' g 5 L D ∧ w.heap.size ≤ g ∧ PP D ∧ Below w.heap.size w w'
/-- The same, with 'recovered' and no error. -/
def MadeT (w w' : World) (e : Ending) (q r L : Nat) (PP : (Nat → Nat) → Prop) : Prop := ∃ g D, e = .returned (.tuple #[mv q r (some ⟨g, 0, none⟩) L L, .bool true, .int .i64 0]) ∧ RowAt w' g 5 L D ∧ w.heap.size ≤ g ∧ PP D ∧ Below w.heap.size w w'
theorem qi1 (w : World) (r c : Int) (n k s b1 : Nat) (a : Option Addr) (h : ¬ GenP r c n) :
  Calls Try.prog 28 #[mv r c a n k, .int .u64 (s : Int), .func (.func 29) #[] #[.pointer (some ⟨b1, 0, none⟩)]] w fun e w' => e = .returned (.tuple #[mv 0 0 none 0 0, .bool false, .int .i64 3]) ∧ Below w.heap.size w w' := by
 obtain ⟨wb, HW, HX⟩ : ∃ wb, Hid (wb = (w.alloc (.cells #[.int .i64 (r : Int), .int .i64 (c : Int), .slice a n k] 24)).alloc (.cells #[.int .i64 0, .int .i64 0, .slice none 0 0] 24)) ∧ Hid (Box2 w wb r c n k a) := ⟨_, rfl, box2 w r c n k a⟩
 have HP : Hid (∀ w' : World, Calls Try.prog 43 #[mv r c a n k] w' fun e w'' => e = .returned (.bool false) ∧ Below w'.heap.size w' w'') := fun w' => qbs w' r c n k a false (by simp [h])
 clear h
 go_enter Try.func28, Try.ntmps28
 go_wp2_with (first
  | (go_at_call 43; rw [← HW.out]; refine (HP.out _).mono ?_; rintro e w1 ⟨rfl, hb⟩; have HB1 : Hid (Below wb.heap.size wb w1) := hb; have x1_0 := (HX.out.va.later HB1.out).c0; have x1_1 := (HX.out.va.later HB1.out).c1; have x1_2 := (HX.out.va.later HB1.out).c2; have z1_0 := (HX.out.vr.later HB1.out).c0; have z1_1 := (HX.out.vr.later HB1.out).c1; have z1_2 := (HX.out.vr.later HB1.out).c2; clear hb)
  | (refine qa2 rfl _ _ rfl (w.heap.size + 1) _ _ _ (.int .i64 0) (.int .i64 0) (.slice none 0 0) rfl rfl (HX.out.vr.later HB1.out) rfl rfl rfl ?_; intro w7 HV7 HG7))
 have d0 := HV7.out.c0
 have d1 := HV7.out.c1
 have d2 := HV7.out.c2
 refine bodyPost_ret (v := .tuple #[mv 0 0 none 0 0, .bool false, .int .i64 3]) (by simp [results, Try.results28, go_sem, d0, d1, d2, mv]) rfl ?_
 exact ⟨rfl, qa4 (qa0 HX.out.below HB1.out) HG7.out (by omega)⟩
theorem vifd_arg (w : World) (r c n k s b1 : Nat) (a : Option Addr) (G : GenP r c n) (hr : r ≤ 64) (hs6 : s < 18446744073709551616) (h : ¬ s < 2 ^ r) :
  Calls Try.prog 28 #[mv r c a n k, .int .u64 (s : Int), .func (.func 29) #[] #[.pointer (some ⟨b1, 0, none⟩)]] w fun e w' => e = .returned (.tuple #[mv 0 0 none 0 0, .bool false, .int .i64 2]) ∧ Below w.heap.size w w' := by
 obtain ⟨wb, HW, HX⟩ : ∃ wb, Hid (wb = (w.alloc (.cells #[.int .i64 (r : Int), .int .i64 (c : Int), .slice a n k] 24)).alloc (.cells #[.int .i64 0, .int .i64 0, .slice none 0 0] 24)) ∧ Hid (Box2 w wb r c n k a) := ⟨_, rfl, box2 w r c n k a⟩
 have HP : Hid (∀ w' : World, Calls Try.prog 43 #[mv r c a n k] w' fun e w'' => e = .returned (.bool true) ∧ Below w'.heap.size w' w'') := fun w' => qbs w' r c n k a true (by simp [G])
 have HR : Hid (∀ w' : World, Calls Try.prog 44 #[mv r c a n k, .int .u64 (s : Int)] w' fun e w'' => e = .returned (.bool false) ∧ Below w'.heap.size w' w'') := fun w' => by
  have h2 := qbt w' r s n k c a hr hs6
  rw [decide_eq_false h] at h2
  exact h2
 clear h G hr hs6
 go_enter Try.func28, Try.ntmps28
 go_wp2_with (first
  | (go_at_call 43; rw [← HW.out]; refine (HP.out _).mono ?_; rintro e w1 ⟨rfl, hb⟩; have HB1 : Hid (Below wb.heap.size wb w1) := hb; have x1_0 := (HX.out.va.later HB1.out).c0; have x1_1 := (HX.out.va.later HB1.out).c1; have x1_2 := (HX.out.va.later HB1.out).c2; have z1_0 := (HX.out.vr.later HB1.out).c0; have z1_1 := (HX.out.vr.later HB1.out).c1; have z1_2 := (HX.out.vr.later HB1.out).c2; clear hb)
  | (go_at_call 44; refine (HR.out _).mono ?_; rintro e w2 ⟨rfl, hb⟩; have HB2 : Hid (Below wb.heap.size wb w2) := qa0 HB1.out hb; have x2_0 := (HX.out.va.later HB2.out).c0; have x2_1 := (HX.out.va.later HB2.out).c1; have x2_2 := (HX.out.va.later HB2.out).c2; have z2_0 := (HX.out.vr.later HB2.out).c0; have z2_1 := (HX.out.vr.later HB2.out).c1; have z2_2 := (HX.out.vr.later HB2.out).c2; clear hb)
  | (refine qa2 rfl _ _ rfl (w.heap.size + 1) _ _ _ (.int .i64 0) (.int .i64 0) (.slice none 0 0) rfl rfl (HX.out.vr.later HB2.out) rfl rfl rfl ?_; intro w7 HV7 HG7))
 have d0 := HV7.out.c0
 have d1 := HV7.out.c1
 have d2 := HV7.out.c2
 refine bodyPost_ret (v := .tuple #[mv 0 0 none 0 0, .bool false, .int .i64 2]) (by simp [results, Try.results28, go_sem, d0, d1, d2, mv]) rfl ?_
 exact ⟨rfl, qa4 (qa0 HX.out.below HB2.out) HG7.out (by omega)⟩
theorem vifd_no (w : World) (r c n k s t p b1 : Nat) (a : Option Addr) (F : Nat → Nat) (ha : Mt w a n k F) (R : Rt r c n) (G : GenP r c n) (hs : s < 2 ^ r) (ht : t < 2 ^ r) (htb : ∀ i, i < r → (bt t i = 1 ↔ ¬ bt s i = 1)) (hp : BaS (m2 F r c) r t p) (hb : cn p r < c) :
  Calls Try.prog 28 #[mv r c a n k, .int .u64 (s : Int), .func (.func 29) #[] #[.pointer (some ⟨b1, 0, none⟩)]] w fun e w' => e = .returned (.tuple #[mv 0 0 none 0 0, .bool false, .int .i64 0]) ∧ Below w.heap.size w w' := by
 have hr := R.r64
 have hs6 := qay hr hs
 have h := hs
 obtain ⟨wb, HW, HX⟩ : ∃ wb, Hid (wb = (w.alloc (.cells #[.int .i64 (r : Int), .int .i64 (c : Int), .slice a n k] 24)).alloc (.cells #[.int .i64 0, .int .i64 0, .slice none 0 0] 24)) ∧ Hid (Box2 w wb r c n k a) := ⟨_, rfl, box2 w r c n k a⟩
 have HP : Hid (∀ w' : World, Calls Try.prog 43 #[mv r c a n k] w' fun e w'' => e = .returned (.bool true) ∧ Below w'.heap.size w' w'') := fun w' => qbs w' r c n k a true (by simp [G])
 have HR : Hid (∀ w' : World, Calls Try.prog 44 #[mv r c a n k, .int .u64 (s : Int)] w' fun e w'' => e = .returned (.bool true) ∧ Below w'.heap.size w' w'') := fun w' => by
  have h2 := qbt w' r s n k c a hr hs6
  rw [decide_eq_true h] at h2
  exact h2
 have HF : Hid (∀ w' : World, Below w.heap.size w w' → Calls Try.prog 45 #[mv r c a n k, .int .u64 (s : Int)] w' fun e w'' => e = .returned (.int .u64 (p : Int)) ∧ Below w'.heap.size w' w'') := fun w' hbl => qct w' r c n k s t p a F (ha.later hbl) R hs ht htb hp
 obtain ⟨K, HK⟩ : ∃ K, Hid (cn p r = K) := ⟨_, rfl⟩
 have HC : Hid (∀ w' : World, Calls Try.prog 46 #[.int .u64 (p : Int)] w' fun e w'' => e = .returned (.int .i64 (K : Int)) ∧ w' = w'') := fun w' => by
  have h := qba p w' (qay hr hp.1)
  rw [qcb hr hp.1, HK.out] at h
  exact h
 have hlt : (K : Int) < (c : Int) := by have := HK.out; omega
 clear ha R G hs ht htb hp hr hs6 h HK hb
 go_enter Try.func28, Try.ntmps28
 go_wp2_with (first
  | (go_at_call 43; rw [← HW.out]; refine (HP.out _).mono ?_; rintro e w1 ⟨rfl, hb⟩; have HB1 : Hid (Below wb.heap.size wb w1) := hb; have x1_0 := (HX.out.va.later HB1.out).c0; have x1_1 := (HX.out.va.later HB1.out).c1; have x1_2 := (HX.out.va.later HB1.out).c2; have z1_0 := (HX.out.vr.later HB1.out).c0; have z1_1 := (HX.out.vr.later HB1.out).c1; have z1_2 := (HX.out.vr.later HB1.out).c2; clear hb)
  | (go_at_call 44; refine (HR.out _).mono ?_; rintro e w2 ⟨rfl, hb⟩; have HB2 : Hid (Below wb.heap.size wb w2) := qa0 HB1.out hb; have x2_0 := (HX.out.va.later HB2.out).c0; have x2_1 := (HX.out.va.later HB2.out).c1; have x2_2 := (HX.out.va.later HB2.out).c2; have z2_0 := (HX.out.vr.later HB2.out).c0; have z2_1 := (HX.out.vr.later HB2.out).c1; have z2_2 := (HX.out.vr.later HB2.out).c2; clear hb)
  | (go_at_call 45; refine (HF.out _ (qa0 HX.out.below HB2.out)).mono ?_; rintro e w3 ⟨rfl, hb⟩; have HB3 : Hid (Below wb.heap.size wb w3) := qa0 HB2.out hb; have x3_0 := (HX.out.va.later HB3.out).c0; have x3_1 := (HX.out.va.later HB3.out).c1; have x3_2 := (HX.out.va.later HB3.out).c2; have z3_0 := (HX.out.vr.later HB3.out).c0; have z3_1 := (HX.out.vr.later HB3.out).c1; have z3_2 := (HX.out.vr.later HB3.out).c2; clear hb))
 go_region_held3 (fun w' => w'.cell? ⟨w.heap.size, 1, none⟩ = some (.int .i64 (c : Int)))
  (first | go_keep | assumption)
  (first | (go_at_call 46; refine (HC.out _).mono ?_; rintro e w' ⟨rfl, rfl⟩))
 go_wp2_with (first
  | (refine qa2 rfl _ _ rfl (w.heap.size + 1) _ _ _ (.int .i64 0) (.int .i64 0) (.slice none 0 0) rfl rfl (HX.out.vr.later HB3.out.drew) rfl rfl rfl ?_; intro w7 HV7 HG7))
 have d0 := HV7.out.c0
 have d1 := HV7.out.c1
 have d2 := HV7.out.c2
 refine bodyPost_ret (v := .tuple #[mv 0 0 none 0 0, .bool false, .int .i64 0]) (by simp [results, Try.results28, go_sem, d0, d1, d2, mv]) rfl ?_
 exact ⟨rfl, qa4 (qa0 HX.out.below HB3.out.drew) HG7.out (by omega)⟩
theorem vifd_yes (w : World) (r c n k s t p q L b1 : Nat) (a : Option Addr) (F : Nat → Nat) (PP : (Nat → Nat) → Prop) (ha : Mt w a n k F) (R : Rt r c n) (G : GenP r c n) (hs : s < 2 ^ r) (ht : t < 2 ^ r) (htb : ∀ i, i < r → (bt t i = 1 ↔ ¬ bt s i = 1)) (hp : BaS (m2 F r c) r t p) (hb : ¬ cn p r < c)
  (HG : Hid (∀ w' : World, Below w.heap.size w w' → Calls Try.prog 29 #[.int .u64 (p : Int), .pointer (some ⟨b1, 0, none⟩)] w' fun e w'' => MadeP w' w'' e q r L PP)) :
  Calls Try.prog 28 #[mv r c a n k, .int .u64 (s : Int), .func (.func 29) #[] #[.pointer (some ⟨b1, 0, none⟩)]] w fun e w' => MadeT w w' e q r L PP := by
 have hr := R.r64
 have hs6 := qay hr hs
 have h := hs
 obtain ⟨wb, HW, HX⟩ : ∃ wb, Hid (wb = (w.alloc (.cells #[.int .i64 (r : Int), .int .i64 (c : Int), .slice a n k] 24)).alloc (.cells #[.int .i64 0, .int .i64 0, .slice none 0 0] 24)) ∧ Hid (Box2 w wb r c n k a) := ⟨_, rfl, box2 w r c n k a⟩
 have HP : Hid (∀ w' : World, Calls Try.prog 43 #[mv r c a n k] w' fun e w'' => e = .returned (.bool true) ∧ Below w'.heap.size w' w'') := fun w' => qbs w' r c n k a true (by simp [G])
 have HR : Hid (∀ w' : World, Calls Try.prog 44 #[mv r c a n k, .int .u64 (s : Int)] w' fun e w'' => e = .returned (.bool true) ∧ Below w'.heap.size w' w'') := fun w' => by
  have h2 := qbt w' r s n k c a hr hs6
  rw [decide_eq_true h] at h2
  exact h2
 have HF : Hid (∀ w' : World, Below w.heap.size w w' → Calls Try.prog 45 #[mv r c a n k, .int .u64 (s : Int)] w' fun e w'' => e = .returned (.int .u64 (p : Int)) ∧ Below w'.heap.size w' w'') := fun w' hbl => qct w' r c n k s t p a F (ha.later hbl) R hs ht htb hp
 obtain ⟨K, HK⟩ : ∃ K, Hid (cn p r = K) := ⟨_, rfl⟩
 have HC : Hid (∀ w' : World, Calls Try.prog 46 #[.int .u64 (p : Int)] w' fun e w'' => e = .returned (.int .i64 (K : Int)) ∧ w' = w'') := fun w' => by
  have h := qba p w' (qay hr hp.1)
  rw [qcb hr hp.1, HK.out] at h
  exact h
 have hlt : ¬ (K : Int) < (c : Int) := by have := HK.out; omega
 have hlt2 : decide ((K : Int) < (c : Int)) = false := decide_eq_false hlt
 clear ha R G hs ht htb hp hr hs6 h HK hb
 go_enter Try.func28, Try.ntmps28
 go_wp2_with (first
  | (go_at_call 43; rw [← HW.out]; refine (HP.out _).mono ?_; rintro e w1 ⟨rfl, hb⟩; have HB1 : Hid (Below wb.heap.size wb w1) := hb; have x1_0 := (HX.out.va.later HB1.out).c0; have x1_1 := (HX.out.va.later HB1.out).c1; have x1_2 := (HX.out.va.later HB1.out).c2; have z1_0 := (HX.out.vr.later HB1.out).c0; have z1_1 := (HX.out.vr.later HB1.out).c1; have z1_2 := (HX.out.vr.later HB1.out).c2; clear hb)
  | (go_at_call 44; refine (HR.out _).mono ?_; rintro e w2 ⟨rfl, hb⟩; have HB2 : Hid (Below wb.heap.size wb w2) := qa0 HB1.out hb; have x2_0 := (HX.out.va.later HB2.out).c0; have x2_1 := (HX.out.va.later HB2.out).c1; have x2_2 := (HX.out.va.later HB2.out).c2; have z2_0 := (HX.out.vr.later HB2.out).c0; have z2_1 := (HX.out.vr.later HB2.out).c1; have z2_2 := (HX.out.vr.later HB2.out).c2; clear hb)
  | (go_at_call 45; refine (HF.out _ (qa0 HX.out.below HB2.out)).mono ?_; rintro e w3 ⟨rfl, hb⟩; have HB3 : Hid (Below wb.heap.size wb w3) := qa0 HB2.out hb; have x3_0 := (HX.out.va.later HB3.out).c0; have x3_1 := (HX.out.va.later HB3.out).c1; have x3_2 := (HX.out.va.later HB3.out).c2; have z3_0 := (HX.out.vr.later HB3.out).c0; have z3_1 := (HX.out.vr.later HB3.out).c1; have z3_2 := (HX.out.vr.later HB3.out).c2; clear hb))
 go_region_held3 (fun w' => w'.cell? ⟨w.heap.size, 1, none⟩ = some (.int .i64 (c : Int)))
  (first | go_keep | assumption)
  (first | (go_at_call 46; refine (HC.out _).mono ?_; rintro e w' ⟨rfl, rfl⟩))
 go_wp2_with (first
  | (go_at_call 29; refine (HG.out _ (qa0 HX.out.below HB3.out.drew)).mono ?_; rintro e w4 ⟨g, O, rfl, hr4, hg4, hp4, hb4⟩; have HB4 : Hid (Below wb.heap.size wb w4) := qa0 HB3.out.drew hb4; have HR4 : Hid (RowAt w4 g 5 L O) := hr4; have HPP := qac hp4; have hgb : wb.heap.size ≤ g := Nat.le_trans HB3.out.size hg4; clear hr4 hg4 hp4 hb4)
  | (refine qa2 rfl _ _ rfl (w.heap.size + 1) _ _ _ (.int .i64 (q : Int)) (.int .i64 (r : Int)) (.slice (some ⟨g, 0, none⟩) L L) rfl rfl (HX.out.vr.later HB4.out) rfl rfl rfl ?_; intro w7 HV7 HG7))
 have d0 := HV7.out.c0
 have d1 := HV7.out.c1
 have d2 := HV7.out.c2
 refine bodyPost_ret (v := .tuple #[mv q r (some ⟨g, 0, none⟩) L L, .bool true, .int .i64 0]) (by simp [results, Try.results28, go_sem, d0, d1, d2, mv]) rfl ?_
 have hwb := HX.out.vr.lt
 exact ⟨g, O, rfl, HR4.out.kept HG7.out (by omega), by omega, HPP.out, qa4 (qa0 HX.out.below HB4.out) HG7.out (by omega)⟩
open Go.RowKit Go.Shelf
attribute [local go_sem] Oper.semAt_some
theorem vdec1_ok (w : World) (b r c n k p L : Nat) (a : Option Addr) (F : Nat → Nat) (hv : Vr w b (.int .i64 (r : Int)) (.int .i64 (c : Int)) (.slice a n k)) (ha : Mt w a n k F) (R : Rt r c n) (hp6 : p < 2 ^ r) (hcn : cn p r = c) (hf : FreeS (m2 F r c) r p) (HL : Hid (c * r = L)) :
  Calls Try.prog 29 #[.int .u64 (p : Int), .pointer (some ⟨b, 0, none⟩)] w fun e w' => MadeP w w' e c r L (fun O => DecP F O p r c) := by
 obtain ⟨wb, HW⟩ : ∃ wb, Hid (wb = w.alloc (.cells #[.int .i64 0, .int .i64 0, .slice none 0 0] 24)) := ⟨_, rfl⟩
 have HVz : Hid (Vr wb w.heap.size (.int .i64 0) (.int .i64 0) (.slice none 0 0)) := by rw [HW.out]; exact Vr.new w _ _ _
 have HBb : Hid (Below w.heap.size w wb) := by rw [HW.out]; exact qa1 _ _
 have HVb := hv.later HBb.out
 rw [HW.out] at HVb
 have c0 := HVb.c0
 have c1 := HVb.c1
 have c2 := HVb.c2
 have HC : Hid (Calls Try.prog 30 #[mv r c a n k, .int .u64 (p : Int)] wb fun e w' => ∃ g O, e = .returned (mv c r (some ⟨g, 0, none⟩) L L) ∧ RowAt w' g 5 L O ∧ wb.heap.size ≤ g ∧ DecP F O p r c ∧ Below wb.heap.size wb w') := qdz wb r c n k p L a F (ha.later HBb.out) R hp6 hcn hf HL
 have hlt := HVz.out.lt
 clear ha R hp6 hcn hf hv HVb
 go_enter Try.func29, Try.ntmps29
 go_wp2_with (first
  | (go_at_call 30; rw [← HW.out]; refine HC.out.mono ?_; rintro e w4 ⟨g, O, rfl, hr4, hg4, hp4, hb4⟩; have HB4 : Hid (Below wb.heap.size wb w4) := hb4; have HR4 : Hid (RowAt w4 g 5 L O) := hr4; have HPP := qac hp4; have HG4 := qac hg4; clear hr4 hg4 hp4 hb4)
  | (refine qa2 rfl _ _ rfl w.heap.size _ _ _ (.int .i64 (c : Int)) (.int .i64 (r : Int)) (.slice (some ⟨g, 0, none⟩) L L) rfl rfl (HVz.out.later HB4.out) rfl rfl rfl ?_; intro w7 HV7 HG7))
 have d0 := HV7.out.c0
 have d1 := HV7.out.c1
 have d2 := HV7.out.c2
 refine bodyPost_ret (v := mv c r (some ⟨g, 0, none⟩) L L) (by simp [results, Try.results29, go_sem, d0, d1, d2, mv]) rfl ?_
 have hg := HG4.out
 exact ⟨g, O, rfl, HR4.out.kept HG7.out (by omega), by omega, HPP.out, qa4 (qa0 HBb.out HB4.out) HG7.out (by omega)⟩
theorem qcg (w : World) (r c E : Int) (n k s : Nat) (a : Option Addr)
  (HI : Hid (∀ w' : World, Below w.heap.size w w' → Calls Try.prog 28 #[mv r c a n k, .int .u64 (s : Int), .func (.func 29) #[] #[.pointer (some ⟨w.heap.size, 0, none⟩)]] w' fun e w'' => e = .returned (.tuple #[mv 0 0 none 0 0, .bool false, .int .i64 E]) ∧ Below w'.heap.size w' w'')) :
  Calls Try.prog 11 #[mv r c a n k, .int .u64 (s : Int)] w fun e w' => e = .returned (.tuple #[mv 0 0 none 0 0, .bool false, .int .i64 E]) ∧ Below w.heap.size w w' := by
 obtain ⟨wb, HW, HX⟩ : ∃ wb, Hid (wb = (w.alloc (.cells #[.int .i64 r, .int .i64 c, .slice a n k] 24)).alloc (.cells #[.int .i64 0, .int .i64 0, .slice none 0 0] 24)) ∧ Hid (Box2 w wb r c n k a) := ⟨_, rfl, box2 w r c n k a⟩
 have hmf : ∀ (fn : Fn) (first cap : Array Value) (w : World), (Instr.makeFunc fn first cap).run Try.prog w = .ok (.func fn first cap) w := fun _ _ _ _ => rfl
 go_enter Try.func11, Try.ntmps11
 go_wp2_with (first
  | (go_at_call 28; rw [← HW.out]; refine (HI.out _ HX.out.below).mono ?_; rintro e w1 ⟨rfl, hb⟩; have HB1 : Hid (Below wb.heap.size wb w1) := hb; clear hb)
  | (refine qa2 rfl _ _ rfl (w.heap.size + 1) _ _ _ (.int .i64 0) (.int .i64 0) (.slice none 0 0) rfl rfl (HX.out.vr.later HB1.out) rfl rfl rfl ?_; intro w7 HV7 HG7))
 have d0 := HV7.out.c0
 have d1 := HV7.out.c1
 have d2 := HV7.out.c2
 refine bodyPost_ret (v := .tuple #[mv 0 0 none 0 0, .bool false, .int .i64 E]) (by simp [results, Try.results11, go_sem, d0, d1, d2, mv]) rfl ?_
 exact ⟨rfl, qa4 (qa0 HX.out.below HB1.out) HG7.out (by omega)⟩
theorem qg3 (w : World) (r c n k s q L : Nat) (a : Option Addr) (PP : (Nat → Nat) → Prop)
  (HI : Hid (∀ w' : World, Below w.heap.size w w' → Vr w' w.heap.size (.int .i64 (r : Int)) (.int .i64 (c : Int)) (.slice a n k) → Calls Try.prog 28 #[mv r c a n k, .int .u64 (s : Int), .func (.func 29) #[] #[.pointer (some ⟨w.heap.size, 0, none⟩)]] w' fun e w'' => MadeT w' w'' e q r L PP)) :
  Calls Try.prog 11 #[mv r c a n k, .int .u64 (s : Int)] w fun e w' => MadeT w w' e q r L PP := by
 obtain ⟨wb, HW, HX⟩ : ∃ wb, Hid (wb = (w.alloc (.cells #[.int .i64 (r : Int), .int .i64 (c : Int), .slice a n k] 24)).alloc (.cells #[.int .i64 0, .int .i64 0, .slice none 0 0] 24)) ∧ Hid (Box2 w wb r c n k a) := ⟨_, rfl, box2 w r c n k a⟩
 have hmf : ∀ (fn : Fn) (first cap : Array Value) (w : World), (Instr.makeFunc fn first cap).run Try.prog w = .ok (.func fn first cap) w := fun _ _ _ _ => rfl
 go_enter Try.func11, Try.ntmps11
 go_wp2_with (first
  | (go_at_call 28; rw [← HW.out]; refine (HI.out _ HX.out.below HX.out.va).mono ?_; rintro e w4 ⟨g, O, rfl, hr4, hg4, hp4, hb4⟩; have HB4 : Hid (Below wb.heap.size wb w4) := hb4; have HR4 : Hid (RowAt w4 g 5 L O) := hr4; have HPP := qac hp4; have HG4 := qac hg4; clear hr4 hg4 hp4 hb4)
  | (refine qa2 rfl _ _ rfl (w.heap.size + 1) _ _ _ (.int .i64 (q : Int)) (.int .i64 (r : Int)) (.slice (some ⟨g, 0, none⟩) L L) rfl rfl (HX.out.vr.later HB4.out) rfl rfl rfl ?_; intro w7 HV7 HG7))
 have d0 := HV7.out.c0
 have d1 := HV7.out.c1
 have d2 := HV7.out.c2
 refine bodyPost_ret (v := .tuple #[mv q r (some ⟨g, 0, none⟩) L L, .bool true, .int .i64 0]) (by simp [results, Try.results11, go_sem, d0, d1, d2, mv]) rfl ?_
 have hg := HG4.out
 have hwb := HX.out.vr.lt
 exact ⟨g, O, rfl, HR4.out.kept HG7.out (by omega), by omega, HPP.out, qa4 (qa0 HX.out.below HB4.out) HG7.out (by omega)⟩
/-- What Decode answers. -/
theorem qec {w : World} {r c : Int} {n k s q : Nat} {a : Option Addr} {F : Nat → Nat} {E : Int} (ha : Mt w a n k F) (hs6 : s < 18446744073709551616) (h : SayA F r c n s false q E) :
  Calls Try.prog 11 #[mv r c a n k, .int .u64 (s : Int)] w fun e w' => e = .returned (.tuple #[mv 0 0 none 0 0, .bool false, .int .i64 E]) ∧ Below w.heap.size w w' := by
 rcases h with ⟨h1, _, _, rfl⟩ | ⟨r', c', rfl, rfl, G, R, hs, _, _, rfl⟩ | ⟨r', c', t, p, rfl, rfl, G, R, _, _, hs, ht, _, htb, hp, hk, hle, hb, _, rfl⟩
 ·exact qcg w r c 3 n k s a (fun w' _ => qi1 w' r c n k s w.heap.size a h1)
 ·exact qcg w r' c' 2 n k s a (fun w' _ => vifd_arg w' r' c' n k s w.heap.size a G R.r64 hs6 hs)
 ·refine qcg w r' c' 0 n k s a (fun w' hbl => vifd_no w' r' c' n k s t p w.heap.size a F (ha.later hbl) R G hs ht htb hp ?_)
  have : ¬ cn p r' = c' := fun e => by have := hb.2 e; cases this
  omega
theorem qed {w : World} {r c n k s t p L : Nat} {a : Option Addr} {F : Nat → Nat} (ha : Mt w a n k F) (R : Rt r c n) (G : GenP r c n) (hs : s < 2 ^ r) (ht : t < 2 ^ r) (htb : ∀ i, i < r → (bt t i = 1 ↔ ¬ bt s i = 1)) (hp : BaS (m2 F r c) r t p) (hcn : cn p r = c) (HL : Hid (c * r = L)) :
  Calls Try.prog 11 #[mv r c a n k, .int .u64 (s : Int)] w fun e w' => MadeT w w' e c r L (fun O => DecP F O p r c) :=
 qg3 w r c n k s c L a _ (fun w' hbl hv => vifd_yes w' r c n k s t p c L w.heap.size a F _ (ha.later hbl) R G hs ht htb hp (by omega)
  (fun w'' hb2 => vdec1_ok w'' w.heap.size r c n k p L a F (hv.later hb2) ((ha.later hbl).later hb2) R hp.1 hcn (hp.free (qap ha.sl.1 R)).1 HL))
end Go.Proofs.Ytokdejhbjoglcaa
