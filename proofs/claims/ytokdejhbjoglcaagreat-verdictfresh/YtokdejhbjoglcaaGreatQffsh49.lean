/-
  The reference's Rebuild.
  The program's verdict.Rebuild, whole.
  VerdictFewer: with fewer lost it is recovered too; the sources.
  VerdictDecodes: the program's Decode and Rebuild answer what the reference's do.
-/
import Derived.Test.YtokdejhbjoglcaaGreatQffsh00
import Derived.Test.YtokdejhbjoglcaaGreatQffsh47
import Derived.Test.YtokdejhbjoglcaaGreatQffsh48
import Derived.OrdersHeld
import Derived.Deep.RegionHeld3
import Derived.Test.YtokdejhbjoglcaaGreatQffsh46
set_option maxRecDepth 100000
set_option maxHeartbeats 16000000
namespace Go.Proofs.YtokdejhbjoglcaaGreat
open Go.RowKit Go.Shelf
attribute [local go_sem] Oper.semAt_some
theorem qj4 (w : World) (r c : Int) (n k s b1 b2 : Nat) (a : Option Addr) (h : ¬ GenP r c n) :
  Calls Tryz.prog 13 #[mv r c a n k, .int .u64 (s : Int), .func (.func 21) #[] #[.pointer (some ⟨b1, 0, none⟩), .pointer (some ⟨b2, 0, none⟩)]] w fun e w' => e = .returned (.tuple #[mv 0 0 none 0 0, .bool false, .int .i64 3]) ∧ Below w.heap.size w w' := by
 obtain ⟨wb, HW, HX⟩ : ∃ wb, Hid (wb = (w.alloc (.cells #[.int .i64 (r : Int), .int .i64 (c : Int), .slice a n k] 24)).alloc (.cells #[.int .i64 0, .int .i64 0, .slice none 0 0] 24)) ∧ Hid (Box2 w wb r c n k a) := ⟨_, rfl, box2 w r c n k a⟩
 have HP : Hid (∀ w' : World, Calls Tryz.prog 30 #[mv r c a n k] w' fun e w'' => e = .returned (.bool false) ∧ Below w'.heap.size w' w'') := fun w' => qc9 w' r c n k a false (by simp [h])
 clear h
 go_enter Tryz.func13, Tryz.ntmps13
 go_wp2_with (first
  | (go_at_call 30; rw [← HW.out]; refine (HP.out _).mono ?_; rintro e w1 ⟨rfl, hb⟩; have HB1 : Hid (Below wb.heap.size wb w1) := hb; have x1_0 := (HX.out.va.later HB1.out).c0; have x1_1 := (HX.out.va.later HB1.out).c1; have x1_2 := (HX.out.va.later HB1.out).c2; have z1_0 := (HX.out.vr.later HB1.out).c0; have z1_1 := (HX.out.vr.later HB1.out).c1; have z1_2 := (HX.out.vr.later HB1.out).c2; clear hb)
  | (refine qa2 rfl _ _ rfl (w.heap.size + 1) _ _ _ (.int .i64 0) (.int .i64 0) (.slice none 0 0) rfl rfl (HX.out.vr.later HB1.out) rfl rfl rfl ?_; intro w7 HV7 HG7))
 have d0 := HV7.out.c0
 have d1 := HV7.out.c1
 have d2 := HV7.out.c2
 refine bodyPost_ret (v := .tuple #[mv 0 0 none 0 0, .bool false, .int .i64 3]) (by simp [results, Tryz.results13, go_sem, d0, d1, d2, mv]) rfl ?_
 exact ⟨rfl, qa4 (qa0 HX.out.below HB1.out) HG7.out (by omega)⟩
theorem vifr_arg (w : World) (r c n k s b1 b2 : Nat) (a : Option Addr) (G : GenP r c n) (hr : r ≤ 64) (hs6 : s < 18446744073709551616) (h : ¬ s < 2 ^ r) :
  Calls Tryz.prog 13 #[mv r c a n k, .int .u64 (s : Int), .func (.func 21) #[] #[.pointer (some ⟨b1, 0, none⟩), .pointer (some ⟨b2, 0, none⟩)]] w fun e w' => e = .returned (.tuple #[mv 0 0 none 0 0, .bool false, .int .i64 2]) ∧ Below w.heap.size w w' := by
 obtain ⟨wb, HW, HX⟩ : ∃ wb, Hid (wb = (w.alloc (.cells #[.int .i64 (r : Int), .int .i64 (c : Int), .slice a n k] 24)).alloc (.cells #[.int .i64 0, .int .i64 0, .slice none 0 0] 24)) ∧ Hid (Box2 w wb r c n k a) := ⟨_, rfl, box2 w r c n k a⟩
 have HP : Hid (∀ w' : World, Calls Tryz.prog 30 #[mv r c a n k] w' fun e w'' => e = .returned (.bool true) ∧ Below w'.heap.size w' w'') := fun w' => qc9 w' r c n k a true (by simp [G])
 have HR : Hid (∀ w' : World, Calls Tryz.prog 31 #[mv r c a n k, .int .u64 (s : Int)] w' fun e w'' => e = .returned (.bool false) ∧ Below w'.heap.size w' w'') := fun w' => by
  have h2 := qca w' r s n k c a hr hs6
  rw [decide_eq_false h] at h2
  exact h2
 clear h G hr hs6
 go_enter Tryz.func13, Tryz.ntmps13
 go_wp2_with (first
  | (go_at_call 30; rw [← HW.out]; refine (HP.out _).mono ?_; rintro e w1 ⟨rfl, hb⟩; have HB1 : Hid (Below wb.heap.size wb w1) := hb; have x1_0 := (HX.out.va.later HB1.out).c0; have x1_1 := (HX.out.va.later HB1.out).c1; have x1_2 := (HX.out.va.later HB1.out).c2; have z1_0 := (HX.out.vr.later HB1.out).c0; have z1_1 := (HX.out.vr.later HB1.out).c1; have z1_2 := (HX.out.vr.later HB1.out).c2; clear hb)
  | (go_at_call 31; refine (HR.out _).mono ?_; rintro e w2 ⟨rfl, hb⟩; have HB2 : Hid (Below wb.heap.size wb w2) := qa0 HB1.out hb; have x2_0 := (HX.out.va.later HB2.out).c0; have x2_1 := (HX.out.va.later HB2.out).c1; have x2_2 := (HX.out.va.later HB2.out).c2; have z2_0 := (HX.out.vr.later HB2.out).c0; have z2_1 := (HX.out.vr.later HB2.out).c1; have z2_2 := (HX.out.vr.later HB2.out).c2; clear hb)
  | (refine qa2 rfl _ _ rfl (w.heap.size + 1) _ _ _ (.int .i64 0) (.int .i64 0) (.slice none 0 0) rfl rfl (HX.out.vr.later HB2.out) rfl rfl rfl ?_; intro w7 HV7 HG7))
 have d0 := HV7.out.c0
 have d1 := HV7.out.c1
 have d2 := HV7.out.c2
 refine bodyPost_ret (v := .tuple #[mv 0 0 none 0 0, .bool false, .int .i64 2]) (by simp [results, Tryz.results13, go_sem, d0, d1, d2, mv]) rfl ?_
 exact ⟨rfl, qa4 (qa0 HX.out.below HB2.out) HG7.out (by omega)⟩
theorem vifr_no (w : World) (r c n k s t p b1 b2 : Nat) (a : Option Addr) (F : Nat → Nat) (ha : Mt w a n k F) (R : Rt r c n) (G : GenP r c n) (hs : s < 2 ^ r) (ht : t < 2 ^ r) (htb : ∀ i, i < r → (bt t i = 1 ↔ ¬ bt s i = 1)) (hp : BaS (m2 F r c) r t p) (hb : cn p r < c) :
  Calls Tryz.prog 13 #[mv r c a n k, .int .u64 (s : Int), .func (.func 21) #[] #[.pointer (some ⟨b1, 0, none⟩), .pointer (some ⟨b2, 0, none⟩)]] w fun e w' => e = .returned (.tuple #[mv 0 0 none 0 0, .bool false, .int .i64 0]) ∧ Below w.heap.size w w' := by
 have hr := R.r64
 have hs6 := qb5 hr hs
 have h := hs
 obtain ⟨wb, HW, HX⟩ : ∃ wb, Hid (wb = (w.alloc (.cells #[.int .i64 (r : Int), .int .i64 (c : Int), .slice a n k] 24)).alloc (.cells #[.int .i64 0, .int .i64 0, .slice none 0 0] 24)) ∧ Hid (Box2 w wb r c n k a) := ⟨_, rfl, box2 w r c n k a⟩
 have HP : Hid (∀ w' : World, Calls Tryz.prog 30 #[mv r c a n k] w' fun e w'' => e = .returned (.bool true) ∧ Below w'.heap.size w' w'') := fun w' => qc9 w' r c n k a true (by simp [G])
 have HR : Hid (∀ w' : World, Calls Tryz.prog 31 #[mv r c a n k, .int .u64 (s : Int)] w' fun e w'' => e = .returned (.bool true) ∧ Below w'.heap.size w' w'') := fun w' => by
  have h2 := qca w' r s n k c a hr hs6
  rw [decide_eq_true h] at h2
  exact h2
 have HF : Hid (∀ w' : World, Below w.heap.size w w' → Calls Tryz.prog 32 #[mv r c a n k, .int .u64 (s : Int)] w' fun e w'' => e = .returned (.int .u64 (p : Int)) ∧ Below w'.heap.size w' w'') := fun w' hbl => qd4 w' r c n k s t p a F (ha.later hbl) R hs ht htb hp
 obtain ⟨K, HK⟩ : ∃ K, Hid (cn p r = K) := ⟨_, rfl⟩
 have HC : Hid (∀ w' : World, Calls Tryz.prog 33 #[.int .u64 (p : Int)] w' fun e w'' => e = .returned (.int .i64 (K : Int)) ∧ w' = w'') := fun w' => by
  have h := qbk p w' (qb5 hr hp.1)
  rw [qc0 hr hp.1, HK.out] at h
  exact h
 have hlt : (K : Int) < (c : Int) := by have := HK.out; omega
 clear ha R G hs ht htb hp hr hs6 h HK hb
 go_enter Tryz.func13, Tryz.ntmps13
 go_wp2_with (first
  | (go_at_call 30; rw [← HW.out]; refine (HP.out _).mono ?_; rintro e w1 ⟨rfl, hb⟩; have HB1 : Hid (Below wb.heap.size wb w1) := hb; have x1_0 := (HX.out.va.later HB1.out).c0; have x1_1 := (HX.out.va.later HB1.out).c1; have x1_2 := (HX.out.va.later HB1.out).c2; have z1_0 := (HX.out.vr.later HB1.out).c0; have z1_1 := (HX.out.vr.later HB1.out).c1; have z1_2 := (HX.out.vr.later HB1.out).c2; clear hb)
  | (go_at_call 31; refine (HR.out _).mono ?_; rintro e w2 ⟨rfl, hb⟩; have HB2 : Hid (Below wb.heap.size wb w2) := qa0 HB1.out hb; have x2_0 := (HX.out.va.later HB2.out).c0; have x2_1 := (HX.out.va.later HB2.out).c1; have x2_2 := (HX.out.va.later HB2.out).c2; have z2_0 := (HX.out.vr.later HB2.out).c0; have z2_1 := (HX.out.vr.later HB2.out).c1; have z2_2 := (HX.out.vr.later HB2.out).c2; clear hb)
  | (go_at_call 32; refine (HF.out _ (qa0 HX.out.below HB2.out)).mono ?_; rintro e w3 ⟨rfl, hb⟩; have HB3 : Hid (Below wb.heap.size wb w3) := qa0 HB2.out hb; have x3_0 := (HX.out.va.later HB3.out).c0; have x3_1 := (HX.out.va.later HB3.out).c1; have x3_2 := (HX.out.va.later HB3.out).c2; have z3_0 := (HX.out.vr.later HB3.out).c0; have z3_1 := (HX.out.vr.later HB3.out).c1; have z3_2 := (HX.out.vr.later HB3.out).c2; clear hb))
 go_region_held3 (fun w' => w'.cell? ⟨w.heap.size, 1, none⟩ = some (.int .i64 (c : Int)))
  (first | go_keep | assumption)
  (first | (go_at_call 33; refine (HC.out _).mono ?_; rintro e w' ⟨rfl, rfl⟩))
 go_wp2_with (first
  | (refine qa2 rfl _ _ rfl (w.heap.size + 1) _ _ _ (.int .i64 0) (.int .i64 0) (.slice none 0 0) rfl rfl (HX.out.vr.later HB3.out.drew) rfl rfl rfl ?_; intro w7 HV7 HG7))
 have d0 := HV7.out.c0
 have d1 := HV7.out.c1
 have d2 := HV7.out.c2
 refine bodyPost_ret (v := .tuple #[mv 0 0 none 0 0, .bool false, .int .i64 0]) (by simp [results, Tryz.results13, go_sem, d0, d1, d2, mv]) rfl ?_
 exact ⟨rfl, qa4 (qa0 HX.out.below HB3.out.drew) HG7.out (by omega)⟩
theorem vifr_yes (w : World) (r c n k s t p q L b1 b2 : Nat) (a : Option Addr) (F : Nat → Nat) (PP : (Nat → Nat) → Prop) (ha : Mt w a n k F) (R : Rt r c n) (G : GenP r c n) (hs : s < 2 ^ r) (ht : t < 2 ^ r) (htb : ∀ i, i < r → (bt t i = 1 ↔ ¬ bt s i = 1)) (hp : BaS (m2 F r c) r t p) (hb : ¬ cn p r < c)
  (HG : Hid (∀ w' : World, Below w.heap.size w w' → Calls Tryz.prog 21 #[.int .u64 (p : Int), .pointer (some ⟨b1, 0, none⟩), .pointer (some ⟨b2, 0, none⟩)] w' fun e w'' => MadeP w' w'' e q r L PP)) :
  Calls Tryz.prog 13 #[mv r c a n k, .int .u64 (s : Int), .func (.func 21) #[] #[.pointer (some ⟨b1, 0, none⟩), .pointer (some ⟨b2, 0, none⟩)]] w fun e w' => MadeT w w' e q r L PP := by
 have hr := R.r64
 have hs6 := qb5 hr hs
 have h := hs
 obtain ⟨wb, HW, HX⟩ : ∃ wb, Hid (wb = (w.alloc (.cells #[.int .i64 (r : Int), .int .i64 (c : Int), .slice a n k] 24)).alloc (.cells #[.int .i64 0, .int .i64 0, .slice none 0 0] 24)) ∧ Hid (Box2 w wb r c n k a) := ⟨_, rfl, box2 w r c n k a⟩
 have HP : Hid (∀ w' : World, Calls Tryz.prog 30 #[mv r c a n k] w' fun e w'' => e = .returned (.bool true) ∧ Below w'.heap.size w' w'') := fun w' => qc9 w' r c n k a true (by simp [G])
 have HR : Hid (∀ w' : World, Calls Tryz.prog 31 #[mv r c a n k, .int .u64 (s : Int)] w' fun e w'' => e = .returned (.bool true) ∧ Below w'.heap.size w' w'') := fun w' => by
  have h2 := qca w' r s n k c a hr hs6
  rw [decide_eq_true h] at h2
  exact h2
 have HF : Hid (∀ w' : World, Below w.heap.size w w' → Calls Tryz.prog 32 #[mv r c a n k, .int .u64 (s : Int)] w' fun e w'' => e = .returned (.int .u64 (p : Int)) ∧ Below w'.heap.size w' w'') := fun w' hbl => qd4 w' r c n k s t p a F (ha.later hbl) R hs ht htb hp
 obtain ⟨K, HK⟩ : ∃ K, Hid (cn p r = K) := ⟨_, rfl⟩
 have HC : Hid (∀ w' : World, Calls Tryz.prog 33 #[.int .u64 (p : Int)] w' fun e w'' => e = .returned (.int .i64 (K : Int)) ∧ w' = w'') := fun w' => by
  have h := qbk p w' (qb5 hr hp.1)
  rw [qc0 hr hp.1, HK.out] at h
  exact h
 have hlt : ¬ (K : Int) < (c : Int) := by have := HK.out; omega
 have hlt2 : decide ((K : Int) < (c : Int)) = false := decide_eq_false hlt
 clear ha R G hs ht htb hp hr hs6 h HK hb
 go_enter Tryz.func13, Tryz.ntmps13
 go_wp2_with (first
  | (go_at_call 30; rw [← HW.out]; refine (HP.out _).mono ?_; rintro e w1 ⟨rfl, hb⟩; have HB1 : Hid (Below wb.heap.size wb w1) := hb; have x1_0 := (HX.out.va.later HB1.out).c0; have x1_1 := (HX.out.va.later HB1.out).c1; have x1_2 := (HX.out.va.later HB1.out).c2; have z1_0 := (HX.out.vr.later HB1.out).c0; have z1_1 := (HX.out.vr.later HB1.out).c1; have z1_2 := (HX.out.vr.later HB1.out).c2; clear hb)
  | (go_at_call 31; refine (HR.out _).mono ?_; rintro e w2 ⟨rfl, hb⟩; have HB2 : Hid (Below wb.heap.size wb w2) := qa0 HB1.out hb; have x2_0 := (HX.out.va.later HB2.out).c0; have x2_1 := (HX.out.va.later HB2.out).c1; have x2_2 := (HX.out.va.later HB2.out).c2; have z2_0 := (HX.out.vr.later HB2.out).c0; have z2_1 := (HX.out.vr.later HB2.out).c1; have z2_2 := (HX.out.vr.later HB2.out).c2; clear hb)
  | (go_at_call 32; refine (HF.out _ (qa0 HX.out.below HB2.out)).mono ?_; rintro e w3 ⟨rfl, hb⟩; have HB3 : Hid (Below wb.heap.size wb w3) := qa0 HB2.out hb; have x3_0 := (HX.out.va.later HB3.out).c0; have x3_1 := (HX.out.va.later HB3.out).c1; have x3_2 := (HX.out.va.later HB3.out).c2; have z3_0 := (HX.out.vr.later HB3.out).c0; have z3_1 := (HX.out.vr.later HB3.out).c1; have z3_2 := (HX.out.vr.later HB3.out).c2; clear hb))
 go_region_held3 (fun w' => w'.cell? ⟨w.heap.size, 1, none⟩ = some (.int .i64 (c : Int)))
  (first | go_keep | assumption)
  (first | (go_at_call 33; refine (HC.out _).mono ?_; rintro e w' ⟨rfl, rfl⟩))
 go_wp2_with (first
  | (go_at_call 21; refine (HG.out _ (qa0 HX.out.below HB3.out.drew)).mono ?_; rintro e w4 ⟨g, O, rfl, hr4, hg4, hp4, hb4⟩; have HB4 : Hid (Below wb.heap.size wb w4) := qa0 HB3.out.drew hb4; have HR4 : Hid (RowAt w4 g 5 L O) := hr4; have HPP := qal hp4; have hgb : wb.heap.size ≤ g := Nat.le_trans HB3.out.size hg4; clear hr4 hg4 hp4 hb4)
  | (refine qa2 rfl _ _ rfl (w.heap.size + 1) _ _ _ (.int .i64 (q : Int)) (.int .i64 (r : Int)) (.slice (some ⟨g, 0, none⟩) L L) rfl rfl (HX.out.vr.later HB4.out) rfl rfl rfl ?_; intro w7 HV7 HG7))
 have d0 := HV7.out.c0
 have d1 := HV7.out.c1
 have d2 := HV7.out.c2
 refine bodyPost_ret (v := .tuple #[mv q r (some ⟨g, 0, none⟩) L L, .bool true, .int .i64 0]) (by simp [results, Tryz.results13, go_sem, d0, d1, d2, mv]) rfl ?_
 have hwb := HX.out.vr.lt
 exact ⟨g, O, rfl, HR4.out.kept HG7.out (by omega), by omega, HPP.out, qa4 (qa0 HX.out.below HB4.out) HG7.out (by omega)⟩
theorem qcb (w : World) (r c E : Int) (n k s : Nat) (a : Option Addr)
  (HI : Hid (∀ w' : World, Below w.heap.size w w' → Calls Tryz.prog 13 #[mv r c a n k, .int .u64 (s : Int), .func (.func 21) #[] #[.pointer (some ⟨w.heap.size, 0, none⟩), .pointer (some ⟨w.heap.size + 1, 0, none⟩)]] w' fun e w'' => e = .returned (.tuple #[mv 0 0 none 0 0, .bool false, .int .i64 E]) ∧ Below w'.heap.size w' w'')) :
  Calls Tryz.prog 7 #[mv r c a n k, .int .u64 (s : Int)] w fun e w' => e = .returned (.tuple #[mv 0 0 none 0 0, .bool false, .int .i64 E]) ∧ Below w.heap.size w w' := by
 obtain ⟨wb, HW⟩ : ∃ wb, Hid (wb = ((w.alloc (.cells #[.int .i64 r, .int .i64 c, .slice a n k] 24)).alloc (.cells #[.int .u64 (s : Int)] 26)).alloc (.cells #[.int .i64 0, .int .i64 0, .slice none 0 0] 24)) := ⟨_, rfl⟩
 have HB0 : Hid (Below w.heap.size w wb) := by rw [HW.out]; exact qa0 (qa0 (qa1 _ _) (qa1 _ _)) (qa1 _ _)
 have HVg : Hid (Vr wb w.heap.size (.int .i64 r) (.int .i64 c) (.slice a n k)) := by rw [HW.out]; exact ((Vr.new w _ _ _).later (qa1 _ _)).later (qa1 _ _)
 have e1 : (w.alloc (.cells #[.int .i64 r, .int .i64 c, .slice a n k] 24)).heap.size = w.heap.size + 1 := by simp
 have e2 : ((w.alloc (.cells #[.int .i64 r, .int .i64 c, .slice a n k] 24)).alloc (.cells #[.int .u64 (s : Int)] 26)).heap.size = w.heap.size + 1 + 1 := by simp
 have HC : Hid (Cl wb (w.heap.size + 1) (.int .u64 (s : Int)) 26) := by
  have h := (Cl.new (w.alloc (.cells #[.int .i64 r, .int .i64 c, .slice a n k] 24)) (.int .u64 (s : Int)) 26).later (qa1 _ (.cells #[.int .i64 0, .int .i64 0, .slice none 0 0] 24))
  rw [e1, ← HW.out] at h
  exact h
 have HVz : Hid (Vr wb (w.heap.size + 1 + 1) (.int .i64 0) (.int .i64 0) (.slice none 0 0)) := by
  have h := Vr.new ((w.alloc (.cells #[.int .i64 r, .int .i64 c, .slice a n k] 24)).alloc (.cells #[.int .u64 (s : Int)] 26)) (.int .i64 0) (.int .i64 0) (.slice none 0 0)
  rw [e2, ← HW.out] at h
  exact h
 have hmf : ∀ (fn : Fn) (first cap : Array Value) (w : World), (Instr.makeFunc fn first cap).run Tryz.prog w = .ok (.func fn first cap) w := fun _ _ _ _ => rfl
 clear e1 e2
 go_enter Tryz.func7, Tryz.ntmps7
 go_wp2_with (first
  | (go_at_call 13; rw [← HW.out]; refine (HI.out _ HB0.out).mono ?_; rintro e w1 ⟨rfl, hb⟩; have HB1 : Hid (Below wb.heap.size wb w1) := hb; clear hb)
  | (refine qa2 rfl _ _ rfl (w.heap.size + 1 + 1) _ _ _ (.int .i64 0) (.int .i64 0) (.slice none 0 0) rfl rfl (HVz.out.later HB1.out) rfl rfl rfl ?_; intro w7 HV7 HG7))
 have d0 := HV7.out.c0
 have d1 := HV7.out.c1
 have d2 := HV7.out.c2
 refine bodyPost_ret (v := .tuple #[mv 0 0 none 0 0, .bool false, .int .i64 E]) (by simp [results, Tryz.results7, go_sem, d0, d1, d2, mv]) rfl ?_
 exact ⟨rfl, qa4 (qa0 HB0.out HB1.out) HG7.out (by omega)⟩
theorem qge (w : World) (r c n k s q L : Nat) (a : Option Addr) (PP : (Nat → Nat) → Prop)
  (HI : Hid (∀ w' : World, Below w.heap.size w w' → Vr w' w.heap.size (.int .i64 (r : Int)) (.int .i64 (c : Int)) (.slice a n k) → Cl w' (w.heap.size + 1) (.int .u64 (s : Int)) 26 → Calls Tryz.prog 13 #[mv r c a n k, .int .u64 (s : Int), .func (.func 21) #[] #[.pointer (some ⟨w.heap.size, 0, none⟩), .pointer (some ⟨w.heap.size + 1, 0, none⟩)]] w' fun e w'' => MadeT w' w'' e q r L PP)) :
  Calls Tryz.prog 7 #[mv r c a n k, .int .u64 (s : Int)] w fun e w' => MadeT w w' e q r L PP := by
 obtain ⟨wb, HW⟩ : ∃ wb, Hid (wb = ((w.alloc (.cells #[.int .i64 (r : Int), .int .i64 (c : Int), .slice a n k] 24)).alloc (.cells #[.int .u64 (s : Int)] 26)).alloc (.cells #[.int .i64 0, .int .i64 0, .slice none 0 0] 24)) := ⟨_, rfl⟩
 have HB0 : Hid (Below w.heap.size w wb) := by rw [HW.out]; exact qa0 (qa0 (qa1 _ _) (qa1 _ _)) (qa1 _ _)
 have HVg : Hid (Vr wb w.heap.size (.int .i64 (r : Int)) (.int .i64 (c : Int)) (.slice a n k)) := by rw [HW.out]; exact ((Vr.new w _ _ _).later (qa1 _ _)).later (qa1 _ _)
 have e1 : (w.alloc (.cells #[.int .i64 (r : Int), .int .i64 (c : Int), .slice a n k] 24)).heap.size = w.heap.size + 1 := by simp
 have e2 : ((w.alloc (.cells #[.int .i64 (r : Int), .int .i64 (c : Int), .slice a n k] 24)).alloc (.cells #[.int .u64 (s : Int)] 26)).heap.size = w.heap.size + 1 + 1 := by simp
 have HC : Hid (Cl wb (w.heap.size + 1) (.int .u64 (s : Int)) 26) := by
  have h := (Cl.new (w.alloc (.cells #[.int .i64 (r : Int), .int .i64 (c : Int), .slice a n k] 24)) (.int .u64 (s : Int)) 26).later (qa1 _ (.cells #[.int .i64 0, .int .i64 0, .slice none 0 0] 24))
  rw [e1, ← HW.out] at h
  exact h
 have HVz : Hid (Vr wb (w.heap.size + 1 + 1) (.int .i64 0) (.int .i64 0) (.slice none 0 0)) := by
  have h := Vr.new ((w.alloc (.cells #[.int .i64 (r : Int), .int .i64 (c : Int), .slice a n k] 24)).alloc (.cells #[.int .u64 (s : Int)] 26)) (.int .i64 0) (.int .i64 0) (.slice none 0 0)
  rw [e2, ← HW.out] at h
  exact h
 have hmf : ∀ (fn : Fn) (first cap : Array Value) (w : World), (Instr.makeFunc fn first cap).run Tryz.prog w = .ok (.func fn first cap) w := fun _ _ _ _ => rfl
 clear e1 e2
 go_enter Tryz.func7, Tryz.ntmps7
 go_wp2_with (first
  | (go_at_call 13; rw [← HW.out]; refine (HI.out _ HB0.out HVg.out HC.out).mono ?_; rintro e w4 ⟨g, O, rfl, hr4, hg4, hp4, hb4⟩; have HB4 : Hid (Below wb.heap.size wb w4) := hb4; have HR4 : Hid (RowAt w4 g 5 L O) := hr4; have HPP := qal hp4; have HG4 := qal hg4; clear hr4 hg4 hp4 hb4)
  | (refine qa2 rfl _ _ rfl (w.heap.size + 1 + 1) _ _ _ (.int .i64 (q : Int)) (.int .i64 (r : Int)) (.slice (some ⟨g, 0, none⟩) L L) rfl rfl (HVz.out.later HB4.out) rfl rfl rfl ?_; intro w7 HV7 HG7))
 have d0 := HV7.out.c0
 have d1 := HV7.out.c1
 have d2 := HV7.out.c2
 refine bodyPost_ret (v := .tuple #[mv q r (some ⟨g, 0, none⟩) L L, .bool true, .int .i64 0]) (by simp [results, Tryz.results7, go_sem, d0, d1, d2, mv]) rfl ?_
 have hg := HG4.out
 have hwb := HVz.out.lt
 exact ⟨g, O, rfl, HR4.out.kept HG7.out (by omega), by omega, HPP.out, qa4 (qa0 HB0.out HB4.out) HG7.out (by omega)⟩
/-- What Rebuild answers. -/
theorem qgy {w : World} {r c : Int} {n k s q : Nat} {a : Option Addr} {F : Nat → Nat} {E : Int} (ha : Mt w a n k F) (hs6 : s < 18446744073709551616) (h : SayA F r c n s false q E) :
  Calls Tryz.prog 7 #[mv r c a n k, .int .u64 (s : Int)] w fun e w' => e = .returned (.tuple #[mv 0 0 none 0 0, .bool false, .int .i64 E]) ∧ Below w.heap.size w w' := by
 rcases h with ⟨h1, _, _, rfl⟩ | ⟨r', c', rfl, rfl, G, R, hs, _, _, rfl⟩ | ⟨r', c', t, p, rfl, rfl, G, R, _, _, hs, ht, _, htb, hp, hk, hle, hb, _, rfl⟩
 ·exact qcb w r c 3 n k s a (fun w' _ => qj4 w' r c n k s w.heap.size (w.heap.size + 1) a h1)
 ·exact qcb w r' c' 2 n k s a (fun w' _ => vifr_arg w' r' c' n k s w.heap.size (w.heap.size + 1) a G R.r64 hs6 hs)
 ·refine qcb w r' c' 0 n k s a (fun w' hbl => vifr_no w' r' c' n k s t p w.heap.size (w.heap.size + 1) a F (ha.later hbl) R G hs ht htb hp ?_)
  have : ¬ cn p r' = c' := fun e => by have := hb.2 e; cases this
  omega
theorem qgz {w : World} {r c n k s t p Q : Nat} {a : Option Addr} {F : Nat → Nat} (ha : Mt w a n k F) (R : Rt r c n) (G : GenP r c n) (hs : s < 2 ^ r) (ht : t < 2 ^ r) (htb : ∀ i, i < r → (bt t i = 1 ↔ ¬ bt s i = 1)) (hp : BaS (m2 F r c) r t p) (hcn : cn p r = c) (HQ : Hid (cn s r * r = Q)) :
  Calls Tryz.prog 7 #[mv r c a n k, .int .u64 (s : Int)] w fun e w' => MadeT w w' e (cn s r) r Q (fun X => RebP F X s p r c) :=
 qge w r c n k s (cn s r) Q a _ (fun w' hbl hv hc => vifr_yes w' r c n k s t p (cn s r) Q w.heap.size (w.heap.size + 1) a F _ (ha.later hbl) R G hs ht htb hp (by omega)
  (fun w'' hb2 => vreb1_ok w'' w.heap.size (w.heap.size + 1) r c n k p s Q a F (hv.later hb2) (hc.later hb2) ((ha.later hbl).later hb2) R hp.1 hcn (hp.free (qao ha.sl.1 R)).1 hs HQ))
open Go.RowKit Go.Shelf
attribute [local go_sem] Oper.semAt_some
/-- An error's number. -/
theorem SayA.err {F : Nat → Nat} {r c : Int} {n s q : Nat} {b : Bool} {E : Int} (h : SayA F r c n s b q E) (hE : E ≠ 0) : b = false ∧ (E == 0) = false := by
 rcases h with ⟨_, rfl, _, rfl⟩ | ⟨_, _, _, _, _, _, _, rfl, _, rfl⟩ | ⟨_, _, _, _, _, _, _, _, _, _, _, _, _, _, _, _, _, _, _, rfl⟩
 ·exact ⟨rfl, rfl⟩
 ·exact ⟨rfl, rfl⟩
 ·exact absurd rfl hE
/-- No error: all that is known. -/
theorem SayA.fine {F : Nat → Nat} {r c : Int} {n s q : Nat} {b : Bool} (h : SayA F r c n s b q 0) : ∃ r' c' t p : Nat, r = (r' : Int) ∧ c = (c' : Int) ∧ GenP r c n ∧ Rt r' c' n ∧ 1 ≤ c' ∧ c' ≤ r' ∧ s < 2 ^ r' ∧ t < 2 ^ r' ∧ bits .andNot .u64 ((2 ^ r' - 1 : Nat) : Int) (s : Int) = (t : Int) ∧ (∀ i, i < r' → (bt t i = 1 ↔ ¬ bt s i = 1)) ∧ BaS (m2 F r' c') r' t p ∧ RS (m2 F r' c') r' t (cn p r') ∧ cn p r' ≤ c' ∧ (b = true ↔ cn p r' = c') ∧ q = (if b then p else 0) := by
 rcases h with ⟨_, _, _, h0⟩ | ⟨_, _, _, _, _, _, _, _, _, h0⟩ | ⟨r', c', t, p, h1, h2, h3, h4, h5, h6, h7, h8, h9, h10, h11, h12, h13, h14, h15, _⟩
 ·exact absurd h0 (by decide)
 ·exact absurd h0 (by decide)
 ·exact ⟨r', c', t, p, h1, h2, h3, h4, h5, h6, h7, h8, h9, h10, h11, h12, h13, h14, h15⟩
open Go.RowKit Go.Shelf
theorem dec_ex {F : Nat → Nat} {r c n p : Nat} (hF : ∀ i, i < n → F i < 256) (R : Rt r c n) (hcn : cn p r = c) (hf : FreeS (m2 F r c) r p) : ∃ O, DecP F O p r c := by
 have Rc : Rt c c (c * c) := ⟨R.c64, R.c64, rfl⟩
 obtain ⟨A, hA, _, h2⟩ := qke (qao (qd5 hF R hcn) Rc) (fun i j _ hj => qac _ hj) (qfm hF R hcn hf)
 exact ⟨_, qi4 (O := fun u => A (u / c) (u % c)) hF R hcn hf (fun u _ => hA _ _) (fun i j hi hj => by
  rw [← h2 i j hi hj]
  refine qam (fun _ _ => rfl) (fun u hu => ?_)
  rw [qaf _ hu hj]
  show A ((u * c + j) / c) ((u * c + j) % c) = A u j
  rw [(qes hj).1, (qes hj).2])⟩
/-- Both sides' answers, told by one matrix each. -/
theorem dec_fix {w : World} {r c n k s t p : Nat} {a : Option Addr} {F : Nat → Nat} (ha : Mt w a n k F) (R : Rt r c n) (G : GenP r c n) (hc1 : 1 ≤ c) (hs : s < 2 ^ r) (ht : t < 2 ^ r) (htb : ∀ i, i < r → (bt t i = 1 ↔ ¬ bt s i = 1)) (hp : BaS (m2 F r c) r t p) (hcn : cn p r = c)
  (HS : ∀ w' : World, Below w.heap.size w w' → Calls Tryz.prog 16 #[mv r c a n k, .int .u64 (s : Int)] w' fun e w'' => e = .returned (.tuple #[.int .u64 (p : Int), .bool true, .int .i64 0]) ∧ Below w'.heap.size w' w'') (HEx : ∃ O, DecP F O p r c) : ∃ O, DecP F O p r c ∧
  (∀ w' : World, Below w.heap.size w w' → Calls Tryz.prog 5 #[mv r c a n k, .int .u64 (s : Int)] w' fun e w'' => ∃ g, e = .returned (.tuple #[mv c r (some ⟨g, 0, none⟩) (c * r) (c * r), .bool true, .int .i64 0]) ∧ RowAt w'' g 5 (c * r) O ∧ w'.heap.size ≤ g ∧ Below w'.heap.size w' w'') ∧
  (∀ w' : World, Below w.heap.size w w' → Calls Tryz.prog 6 #[mv r c a n k, .int .u64 (s : Int)] w' fun e w'' => ∃ g, e = .returned (.tuple #[mv c r (some ⟨g, 0, none⟩) (c * r) (c * r), .bool true, .int .i64 0]) ∧ RowAt w'' g 5 (c * r) O ∧ Below w'.heap.size w' w'') := by
 obtain ⟨O, hO⟩ := HEx
 have hM := qao ha.sl.1 R
 have hfr := (hp.free hM).1
 refine ⟨O, hO, fun w' hb => (qdc (ha.later hb) R G hs ht htb hp hcn rfl).mono (fun e w'' h => ?_), fun w' hb => (qj1 w' r c n k s p (c * r) a F (ha.later hb) R hp.1 hcn hfr hc1 rfl (fun w'' hb2 => HS w'' (qa0 hb hb2))).mono (fun e w'' h => ?_)⟩
 ·obtain ⟨g, X, h1, h2, h3, h4, h5⟩ := h
  exact ⟨g, h1, h2.congr (fun q hq => h4.one ha.sl.1 R hcn hfr hO q hq), h3, h5⟩
 ·obtain ⟨g, X, h1, h2, h3, h4, h5⟩ := h
  exact ⟨g, h1, h2.congr (fun q hq => h4.one ha.sl.1 R hcn hfr hO q hq), h5⟩
end Go.Proofs.YtokdejhbjoglcaaGreat
