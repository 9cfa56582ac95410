/-
  The program's verdict.Decode: its closure and ifRecovered of matrices at it.
  The program's verdict.Decode, whole.
  The checks' own anchor: one verdict and one matrix that the document fixes.
-/
import Derived.Test.YtokdejhbjoglcaaQffer00
import Derived.Test.YtokdejhbjoglcaaQffer48
import Derived.Deep.RegionHeld3
set_option maxRecDepth 100000
set_option maxHeartbeats 16000000
namespace Go.Proofs.Ytokdejhbjoglcaa
open Go.RowKit Go.Shelf
attribute [local go_sem] Oper.semAt_some
/-- A matrix of q rows and r columns in new memory is answered. -/
def MadeP (w w' : World) (e : Ending) (q r L : Nat) (PP : (Nat → Nat) → Prop) : Prop := ∃ g D, e = .returned (mv q r (some ⟨g, 0, none⟩) L L) ∧ RowAt w' g 5 L D ∧ w.heap.size ≤ g ∧ PP D ∧ Below w.heap.size w w'
/-- The same, with 'recovered' and no error. -/
def MadeT (w w' : World) (e : Ending) (q r L : Nat) (PP : (Nat → Nat) → Prop) : Prop := ∃ g D, e = .returned (.tuple #[mv q r (some ⟨g, 0, none⟩) L L, .bool true, .int .i64 0]) ∧ RowAt w' g 5 L D ∧ w.heap.size ≤ g ∧ PP D ∧ Below w.heap.size w w'
theorem vifd_shape (w : World) (r c : Int) (n k s b1 : Nat) (a : Option Addr) (h : ¬ GenP r c n) :
  Calls Try.prog 28 #[mv r c a n k, .int .u64 (s : Int), .func (.func 29) #[] #[.pointer (some ⟨b1, 0, none⟩)]] w fun e w' => e = .returned (.tuple #[mv 0 0 none 0 0, .bool false, .int .i64 3]) ∧ Below w.heap.size w w' := by
 obtain ⟨wb, HW, HX⟩ : ∃ wb, Hid (wb = (w.alloc (.cells #[.int .i64 (r : Int), .int .i64 (c : Int), .slice a n k] 24)).alloc (.cells #[.int .i64 0, .int .i64 0, .slice none 0 0] 24)) ∧ Hid (Box2 w wb r c n k a) := ⟨_, rfl, box2 w r c n k a⟩
 have HP : Hid (∀ w' : World, Calls Try.prog 43 #[mv r c a n k] w' fun e w'' => e = .returned (.bool false) ∧ Below w'.heap.size w' w'') := fun w' => qf3 w' r c n k a false (by simp [h])
 clear h
 go_enter Try.func28, Try.ntmps28
 go_wp2_with (first
  | (go_at_call 43; rw [← HW.out]; refine (HP.out _).mono ?_; rintro e w1 ⟨rfl, hb⟩; have HB1 : Hid (Below wb.heap.size wb w1) := hb; have x1_0 := (HX.out.va.later HB1.out).c0; have x1_1 := (HX.out.va.later HB1.out).c1; have x1_2 := (HX.out.va.later HB1.out).c2; have z1_0 := (HX.out.vr.later HB1.out).c0; have z1_1 := (HX.out.vr.later HB1.out).c1; have z1_2 := (HX.out.vr.later HB1.out).c2; clear hb)
  | (refine qa3 rfl _ _ rfl (w.heap.size + 1) _ _ _ (.int .i64 0) (.int .i64 0) (.slice none 0 0) rfl rfl (HX.out.vr.later HB1.out) rfl rfl rfl ?_; intro w7 HV7 HG7))
 have d0 := HV7.out.c0
 have d1 := HV7.out.c1
 have d2 := HV7.out.c2
 refine bodyPost_ret (v := .tuple #[mv 0 0 none 0 0, .bool false, .int .i64 3]) (by simp [results, Try.results28, go_sem, d0, d1, d2, mv]) rfl ?_
 exact ⟨rfl, qa6 (qa1 HX.out.below HB1.out) HG7.out (by omega)⟩
theorem vifd_yes (w : World) (r c n k s t p q L b1 : Nat) (a : Option Addr) (F : Nat → Nat) (PP : (Nat → Nat) → Prop) (ha : Mt w a n k F) (R : Rt r c n) (G : GenP r c n) (hs : s < 2 ^ r) (ht : t < 2 ^ r) (htb : ∀ i, i < r → (bt t i = 1 ↔ ¬ bt s i = 1)) (hp : BaS (m2 F r c) r t p) (hb : ¬ cn p r < c)
  (HG : Hid (∀ w' : World, Below w.heap.size w w' → Calls Try.prog 29 #[.int .u64 (p : Int), .pointer (some ⟨b1, 0, none⟩)] w' fun e w'' => MadeP w' w'' e q r L PP)) :
  Calls Try.prog 28 #[mv r c a n k, .int .u64 (s : Int), .func (.func 29) #[] #[.pointer (some ⟨b1, 0, none⟩)]] w fun e w' => MadeT w w' e q r L PP := by
 have hr := R.r64
 have hs6 := qbj hr hs
 have h := hs
 obtain ⟨wb, HW, HX⟩ : ∃ wb, Hid (wb = (w.alloc (.cells #[.int .i64 (r : Int), .int .i64 (c : Int), .slice a n k] 24)).alloc (.cells #[.int .i64 0, .int .i64 0, .slice none 0 0] 24)) ∧ Hid (Box2 w wb r c n k a) := ⟨_, rfl, box2 w r c n k a⟩
 have HP : Hid (∀ w' : World, Calls Try.prog 43 #[mv r c a n k] w' fun e w'' => e = .returned (.bool true) ∧ Below w'.heap.size w' w'') := fun w' => qf3 w' r c n k a true (by simp [G])
 have HR : Hid (∀ w' : World, Calls Try.prog 44 #[mv r c a n k, .int .u64 (s : Int)] w' fun e w'' => e = .returned (.bool true) ∧ Below w'.heap.size w' w'') := fun w' => by
  have h2 := qfh w' r s n k c a hr hs6
  rw [decide_eq_true h] at h2
  exact h2
 have HF : Hid (∀ w' : World, Below w.heap.size w w' → Calls Try.prog 45 #[mv r c a n k, .int .u64 (s : Int)] w' fun e w'' => e = .returned (.int .u64 (p : Int)) ∧ Below w'.heap.size w' w'') := fun w' hbl => qgo w' r c n k s t p a F (ha.later hbl) R hs ht htb hp
 obtain ⟨K, HK⟩ : ∃ K, Hid (cn p r = K) := ⟨_, rfl⟩
 have HC : Hid (∀ w' : World, Calls Try.prog 46 #[.int .u64 (p : Int)] w' fun e w'' => e = .returned (.int .i64 (K : Int)) ∧ w' = w'') := fun w' => by
  have h := qdj p w' (qbj hr hp.1)
  rw [qdk hr hp.1, HK.out] at h
  exact h
 have hlt : ¬ (K : Int) < (c : Int) := by have := HK.out; omega
 have hlt2 : decide ((K : Int) < (c : Int)) = false := decide_eq_false hlt
 clear ha R G hs ht htb hp hr hs6 h HK hb
 go_enter Try.func28, Try.ntmps28
 go_wp2_with (first
  | (go_at_call 43; rw [← HW.out]; refine (HP.out _).mono ?_; rintro e w1 ⟨rfl, hb⟩; have HB1 : Hid (Below wb.heap.size wb w1) := hb; have x1_0 := (HX.out.va.later HB1.out).c0; have x1_1 := (HX.out.va.later HB1.out).c1; have x1_2 := (HX.out.va.later HB1.out).c2; have z1_0 := (HX.out.vr.later HB1.out).c0; have z1_1 := (HX.out.vr.later HB1.out).c1; have z1_2 := (HX.out.vr.later HB1.out).c2; clear hb)
  | (go_at_call 44; refine (HR.out _).mono ?_; rintro e w2 ⟨rfl, hb⟩; have HB2 : Hid (Below wb.heap.size wb w2) := qa1 HB1.out hb; have x2_0 := (HX.out.va.later HB2.out).c0; have x2_1 := (HX.out.va.later HB2.out).c1; have x2_2 := (HX.out.va.later HB2.out).c2; have z2_0 := (HX.out.vr.later HB2.out).c0; have z2_1 := (HX.out.vr.later HB2.out).c1; have z2_2 := (HX.out.vr.later HB2.out).c2; clear hb)
  | (go_at_call 45; refine (HF.out _ (qa1 HX.out.below HB2.out)).mono ?_; rintro e w3 ⟨rfl, hb⟩; have HB3 : Hid (Below wb.heap.size wb w3) := qa1 HB2.out hb; have x3_0 := (HX.out.va.later HB3.out).c0; have x3_1 := (HX.out.va.later HB3.out).c1; have x3_2 := (HX.out.va.later HB3.out).c2; have z3_0 := (HX.out.vr.later HB3.out).c0; have z3_1 := (HX.out.vr.later HB3.out).c1; have z3_2 := (HX.out.vr.later HB3.out).c2; clear hb))
 go_region_held3 (fun w' => w'.cell? ⟨w.heap.size, 1, none⟩ = some (.int .i64 (c : Int)))
  (first | go_keep | assumption)
  (first | (go_at_call 46; refine (HC.out _).mono ?_; rintro e w' ⟨rfl, rfl⟩))
 go_wp2_with (first
  | (go_at_call 29; refine (HG.out _ (qa1 HX.out.below HB3.out.drew)).mono ?_; rintro e w4 ⟨g, O, rfl, hr4, hg4, hp4, hb4⟩; have HB4 : Hid (Below wb.heap.size wb w4) := qa1 HB3.out.drew hb4; have HR4 : Hid (RowAt w4 g 5 L O) := hr4; have HPP := qbq hp4; have hgb : wb.heap.size ≤ g := Nat.le_trans HB3.out.size hg4; clear hr4 hg4 hp4 hb4)
  | (refine qa3 rfl _ _ rfl (w.heap.size + 1) _ _ _ (.int .i64 (q : Int)) (.int .i64 (r : Int)) (.slice (some ⟨g, 0, none⟩) L L) rfl rfl (HX.out.vr.later HB4.out) rfl rfl rfl ?_; intro w7 HV7 HG7))
 have d0 := HV7.out.c0
 have d1 := HV7.out.c1
 have d2 := HV7.out.c2
 refine bodyPost_ret (v := .tuple #[mv q r (some ⟨g, 0, none⟩) L L, .bool true, .int .i64 0]) (by simp [results, Try.results28, go_sem, d0, d1, d2, mv]) rfl ?_
 have hwb := HX.out.vr.lt
 exact ⟨g, O, rfl, HR4.out.kept HG7.out (by omega), by omega, HPP.out, qa6 (qa1 HX.out.below HB4.out) HG7.out (by omega)⟩
open Go.RowKit Go.Shelf
attribute [local go_sem] Oper.semAt_some
theorem vdec1_ok (w : World) (b r c n k p L : Nat) (a : Option Addr) (F : Nat → Nat) (hv : Vr w b (.int .i64 (r : Int)) (.int .i64 (c : Int)) (.slice a n k)) (ha : Mt w a n k F) (R : Rt r c n) (hp6 : p < 2 ^ r) (hcn : cn p r = c) (hf : FreeS (m2 F r c) r p) (HL : Hid (c * r = L)) :
  Calls Try.prog 29 #[.int .u64 (p : Int), .pointer (some ⟨b, 0, none⟩)] w fun e w' => MadeP w w' e c r L (fun O => DecP F O p r c) := by
 obtain ⟨wb, HW⟩ : ∃ wb, Hid (wb = w.alloc (.cells #[.int .i64 0, .int .i64 0, .slice none 0 0] 24)) := ⟨_, rfl⟩
 have HVz : Hid (Vr wb w.heap.size (.int .i64 0) (.int .i64 0) (.slice none 0 0)) := by rw [HW.out]; exact Vr.new w _ _ _
 have HBb : Hid (Below w.heap.size w wb) := by rw [HW.out]; exact qa0 _ _
 have HVb := hv.later HBb.out
 rw [HW.out] at HVb
 have c0 := HVb.c0
 have c1 := HVb.c1
 have c2 := HVb.c2
 have HC : Hid (Calls Try.prog 30 #[mv r c a n k, .int .u64 (p : Int)] wb fun e w' => ∃ g O, e = .returned (mv c r (some ⟨g, 0, none⟩) L L) ∧ RowAt w' g 5 L O ∧ wb.heap.size ≤ g ∧ DecP F O p r c ∧ Below wb.heap.size wb w') := qfk wb r c n k p L a F (ha.later HBb.out) R hp6 hcn hf HL
 have hlt := HVz.out.lt
 clear ha R hp6 hcn hf hv HVb
 go_enter Try.func29, Try.ntmps29
 go_wp2_with (first
  | (go_at_call 30; rw [← HW.out]; refine HC.out.mono ?_; rintro e w4 ⟨g, O, rfl, hr4, hg4, hp4, hb4⟩; have HB4 : Hid (Below wb.heap.size wb w4) := hb4; have HR4 : Hid (RowAt w4 g 5 L O) := hr4; have HPP := qbq hp4; have HG4 := qbq hg4; clear hr4 hg4 hp4 hb4)
  | (refine qa3 rfl _ _ rfl w.heap.size _ _ _ (.int .i64 (c : Int)) (.int .i64 (r : Int)) (.slice (some ⟨g, 0, none⟩) L L) rfl rfl (HVz.out.later HB4.out) rfl rfl rfl ?_; intro w7 HV7 HG7))
 have d0 := HV7.out.c0
 have d1 := HV7.out.c1
 have d2 := HV7.out.c2
 refine bodyPost_ret (v := mv c r (some ⟨g, 0, none⟩) L L) (by simp [results, Try.results29, go_sem, d0, d1, d2, mv]) rfl ?_
 have hg := HG4.out
 exact ⟨g, O, rfl, HR4.out.kept HG7.out (by omega), by omega, HPP.out, qa6 (qa1 HBb.out HB4.out) HG7.out (by omega)⟩
theorem qfl (w : World) (r c n k s q L : Nat) (a : Option Addr) (PP : (Nat → Nat) → Prop)
  (HI : Hid (∀ w' : World, Below w.heap.size w w' → Vr w' w.heap.size (.int .i64 (r : Int)) (.int .i64 (c : Int)) (.slice a n k) → Calls Try.prog 28 #[mv r c a n k, .int .u64 (s : Int), .func (.func 29) #[] #[.pointer (some ⟨w.heap.size, 0, none⟩)]] w' fun e w'' => MadeT w' w'' e q r L PP)) :
  Calls Try.prog 11 #[mv r c a n k, .int .u64 (s : Int)] w fun e w' => MadeT w w' e q r L PP := by
 obtain ⟨wb, HW, HX⟩ : ∃ wb, Hid (wb = (w.alloc (.cells #[.int .i64 (r : Int), .int .i64 (c : Int), .slice a n k] 24)).alloc (.cells #[.int .i64 0, .int .i64 0, .slice none 0 0] 24)) ∧ Hid (Box2 w wb r c n k a) := ⟨_, rfl, box2 w r c n k a⟩
 have hmf : ∀ (fn : Fn) (first cap : Array Value) (w : World), (Instr.makeFunc fn first cap).run Try.prog w = .ok (.func fn first cap) w := fun _ _ _ _ => rfl
 go_enter Try.func11, Try.ntmps11
 go_wp2_with (first
  | (go_at_call 28; rw [← HW.out]; refine (HI.out _ HX.out.below HX.out.va).mono ?_; rintro e w4 ⟨g, O, rfl, hr4, hg4, hp4, hb4⟩; have HB4 : Hid (Below wb.heap.size wb w4) := hb4; have HR4 : Hid (RowAt w4 g 5 L O) := hr4; have HPP := qbq hp4; have HG4 := qbq hg4; clear hr4 hg4 hp4 hb4)
  | (refine qa3 rfl _ _ rfl (w.heap.size + 1) _ _ _ (.int .i64 (q : Int)) (.int .i64 (r : Int)) (.slice (some ⟨g, 0, none⟩) L L) rfl rfl (HX.out.vr.later HB4.out) rfl rfl rfl ?_; intro w7 HV7 HG7))
 have d0 := HV7.out.c0
 have d1 := HV7.out.c1
 have d2 := HV7.out.c2
 refine bodyPost_ret (v := .tuple #[mv q r (some ⟨g, 0, none⟩) L L, .bool true, .int .i64 0]) (by simp [results, Try.results11, go_sem, d0, d1, d2, mv]) rfl ?_
 have hg := HG4.out
 have hwb := HX.out.vr.lt
 exact ⟨g, O, rfl, HR4.out.kept HG7.out (by omega), by omega, HPP.out, qa6 (qa1 HX.out.below HB4.out) HG7.out (by omega)⟩
theorem qhk {w : World} {r c n k s t p L : Nat} {a : Option Addr} {F : Nat → Nat} (ha : Mt w a n k F) (R : Rt r c n) (G : GenP r c n) (hs : s < 2 ^ r) (ht : t < 2 ^ r) (htb : ∀ i, i < r → (bt t i = 1 ↔ ¬ bt s i = 1)) (hp : BaS (m2 F r c) r t p) (hcn : cn p r = c) (HL : Hid (c * r = L)) :
  Calls Try.prog 11 #[mv r c a n k, .int .u64 (s : Int)] w fun e w' => MadeT w w' e c r L (fun O => DecP F O p r c) :=
 qfl w r c n k s c L a _ (fun w' hbl hv => vifd_yes w' r c n k s t p c L w.heap.size a F _ (ha.later hbl) R G hs ht htb hp (by omega)
  (fun w'' hb2 => vdec1_ok w'' w.heap.size r c n k p L a F (hv.later hb2) ((ha.later hbl).later hb2) R hp.1 hcn (hp.free (qap ha.sl.1 R)).1 HL))
open Go.RowKit Go.Shelf
/-- The document's three rows. -/
def g3 (i : Nat) : Nat := if i = 0 then 1 else if i = 3 then 1 else if i = 4 then 1 else if i = 5 then 1 else 0
theorem g3_lt (i : Nat) : g3 i < 256 := by
 unfold g3
 repeat' split
 all_goals decide
theorem g3_rt : Rt 3 2 6 := ⟨by decide, by decide, rfl⟩
theorem g3_el : El2 (m2 g3 3 2) := qap (fun i _ => g3_lt i) g3_rt
theorem g3_gen : GenP ((3 : Nat) : Int) ((2 : Nat) : Int) 6 := ⟨⟨by decide, by decide, by decide, by decide, by decide⟩, by decide, by decide⟩
theorem qjk (i : Nat) (hi : i < 3) : bt 6 i = 1 ↔ ¬ bt 1 i = 1 := by
 rcases (by omega : i = 0 ∨ i = 1 ∨ i = 2) with rfl | rfl | rfl <;> decide
theorem qgr : BaS (m2 g3 3 2) 3 6 6 := by
 refine ⟨by decide, fun i hi => ?_⟩
 rcases (by omega : i = 0 ∨ i = 1 ∨ i = 2) with rfl | rfl | rfl
 ·exact ⟨fun h => absurd h (by decide), fun h => absurd h.1 (by decide)⟩
 ·exact ⟨fun _ => ⟨by decide, fun h => absurd (ss_col (j := 1) h (fun i _ hb => absurd hb (bt0 i))) (by decide)⟩, fun _ => by decide⟩
 ·refine ⟨fun _ => ⟨by decide, fun h => absurd (ss_col (j := 0) h (fun i hi hb => ?_)) (by decide)⟩, fun _ => by decide⟩
  rw [show (6 % 2 ^ 2 : Nat) = 2 ^ 1 from rfl, qb9] at hb
  rw [hb]
  decide
theorem g3_say : SayA g3 ((3 : Nat) : Int) ((2 : Nat) : Int) 6 1 true 6 0 :=
 .inr (.inr ⟨3, 2, 6, 6, rfl, rfl, g3_gen, g3_rt, by decide, by decide, by decide, by decide, by decide, qjk, qgr, Rk.span (qgr.free g3_el).1 (qgr.free g3_el).2, by decide, by decide, rfl, rfl⟩)
/-- The document's matrix. -/
def d3 (i : Nat) : Nat := if i = 1 then 1 else if i = 2 then 1 else if i = 4 then 1 else 0
theorem d3_lt (i : Nat) : d3 i < 256 := by
 unfold d3
 repeat' split
 all_goals decide
theorem g3_dec {O : Nat → Nat} (h : DecP g3 O 6 3 2) : ∀ q, q < 6 → O q = d3 q := by
 have e0 : O 0 = 0 := h.off 0 0 (by decide) (by decide) (by decide)
 have e3 : O 3 = 0 := h.off 1 0 (by decide) (by decide) (by decide)
 have row : ∀ i l, i < 2 → l < 2 → (0 ^^^ fm (O (i * 3 + 0)) (m2 g3 3 2 0 l)) ^^^ fm (O (i * 3 + 1)) (m2 g3 3 2 1 l) ^^^ fm (O (i * 3 + 2)) (m2 g3 3 2 2 l) = dl i l := fun i l hi hl => h.id i l hi hl
 have m00 : m2 g3 3 2 0 0 = 1 := by decide
 have m01 : m2 g3 3 2 0 1 = 0 := by decide
 have m10 : m2 g3 3 2 1 0 = 0 := by decide
 have m11 : m2 g3 3 2 1 1 = 1 := by decide
 have m20 : m2 g3 3 2 2 0 = 1 := by decide
 have m21 : m2 g3 3 2 2 1 = 1 := by decide
 have el : ∀ q, q < 6 → O q < 256 := fun q hq => h.el q (by omega)
 have r00 := row 0 0 (by decide) (by decide)
 have r01 := row 0 1 (by decide) (by decide)
 have r10 := row 1 0 (by decide) (by decide)
 have r11 := row 1 1 (by decide) (by decide)
 rw [m00, m10, m20, qa5, qaf _ (el _ (by decide)), qaf _ (el _ (by decide))] at r00 r10
 rw [m01, m11, m21, qa5, qaf _ (el _ (by decide)), qaf _ (el _ (by decide))] at r01 r11
 simp only [Nat.zero_mul, Nat.one_mul, Nat.zero_add, Nat.reduceAdd, Nat.zero_xor, Nat.xor_zero, e0, e3] at r00 r01 r10 r11
 have f2 : O 2 = 1 := r00
 have f5 : O 5 = 0 := r10
 rw [f2] at r01
 rw [f5] at r11
 have f1 : O 1 = 1 := by
  have := congrArg (· ^^^ 1) r01
  simpa [Nat.xor_assoc, dl] using this
 have f4 : O 4 = 1 := by simpa [dl] using r11
 intro q hq
 rcases (by omega : q = 0 ∨ q = 1 ∨ q = 2 ∨ q = 3 ∨ q = 4 ∨ q = 5) with rfl | rfl | rfl | rfl | rfl | rfl
 ·rw [e0]; rfl
 ·rw [f1]; rfl
 ·rw [f2]; rfl
 ·rw [e3]; rfl
 ·rw [f4]; rfl
 ·rw [f5]; rfl
theorem g3_row (w : World) : RowAt (w.alloc (.cells #[.int .u8 1, .int .u8 0, .int .u8 0, .int .u8 1, .int .u8 1, .int .u8 1] 5)) w.heap.size 5 6 g3 := by
 unfold RowAt
 rw [qbg]
 kernel_rfl
theorem d3_row (w : World) : RowAt (w.alloc (.cells #[.int .u8 0, .int .u8 1, .int .u8 1, .int .u8 0, .int .u8 1, .int .u8 0] 5)) w.heap.size 5 6 d3 := by
 unfold RowAt
 rw [qbg]
 kernel_rfl
theorem three18 (w : World) : Calls Try.prog 35 #[] w fun e w' => ∃ g, e = .returned (mv 3 2 (some ⟨g, 0, none⟩) 6 6) ∧ Mt w' (some ⟨g, 0, none⟩) 6 6 g3 ∧ Below w.heap.size w w' := by
 obtain ⟨wb, HW⟩ : ∃ wb, Hid (wb = (w.alloc (.cells #[.int .i64 0, .int .i64 0, .slice none 0 0] 24)).alloc (.cells #[.int .u8 1, .int .u8 0, .int .u8 0, .int .u8 1, .int .u8 1, .int .u8 1] 5)) := ⟨_, rfl⟩
 have HV : Hid (Vr ((w.alloc (.cells #[.int .i64 0, .int .i64 0, .slice none 0 0] 24)).alloc (.cells #[.int .u8 1, .int .u8 0, .int .u8 0, .int .u8 1, .int .u8 1, .int .u8 1] 5)) w.heap.size (.int .i64 0) (.int .i64 0) (.slice none 0 0)) := (Vr.new w _ _ _).later (qa0 _ _)
 have HR : Hid (RowAt wb (w.heap.size + 1) 5 6 g3) := by
  have h := g3_row (w.alloc (.cells #[.int .i64 0, .int .i64 0, .slice none 0 0] 24))
  rw [World.size_alloc] at h
  rw [HW.out]
  exact h
 have HB : Hid (Below w.heap.size w wb) := by rw [HW.out]; exact qa1 (qa0 _ _) (qa0 _ _)
 go_enter Try.func35, Try.ntmps35
 go_wp2_with (refine qa3 rfl _ _ rfl w.heap.size _ _ _ (.int .i64 3) (.int .i64 2) (.slice (some ⟨w.heap.size + 1, 0, none⟩) 6 6) rfl rfl HV.out rfl rfl rfl ?_; intro w7 HV7 HG7)
 have d0 := HV7.out.c0
 have d1 := HV7.out.c1
 have d2 := HV7.out.c2
 refine bodyPost_ret (v := mv 3 2 (some ⟨w.heap.size + 1, 0, none⟩) 6 6) (by simp [results, Try.results35, go_sem, d0, d1, d2, mv]) rfl ?_
 have hg := HG7.out
 rw [← HW.out] at hg
 exact ⟨w.heap.size + 1, rfl, (HR.out.kept hg (by omega)).mt (fun i _ => g3_lt i), qa6 HB.out hg (by omega)⟩
theorem qjl (w : World) : Calls Try.prog 14 #[] w fun e w' => e = .returned (.bool true) ∧ Below w.heap.size w w' := by
 obtain ⟨f, HF⟩ : ∃ f, Hid (g3 = f) := ⟨_, rfl⟩
 obtain ⟨h, HH⟩ : ∃ h, Hid (d3 = h) := ⟨_, rfl⟩
 have H3 : Hid (∀ w : World, Calls Try.prog 35 #[] w fun e w' => ∃ g, e = .returned (mv 3 2 (some ⟨g, 0, none⟩) 6 6) ∧ Mt w' (some ⟨g, 0, none⟩) 6 6 f ∧ Below w.heap.size w w') := fun w => by rw [← HF.out]; exact three18 w
 have HRc : Hid (∀ (w : World) (a : Option Addr), Mt w a 6 6 f → Calls Try.prog 7 #[mv 3 2 a 6 6, .int .u64 1] w fun e w' => e = .returned (.tuple #[.bool true, .int .i64 0]) ∧ Below w.heap.size w w') := fun w a h => by
  rw [← HF.out] at h
  exact (say_c h (by decide) g3_say).vr w (Below.refl _ _)
 have HDc : Hid (∀ (w : World) (a : Option Addr), Mt w a 6 6 f → Calls Try.prog 11 #[mv 3 2 a 6 6, .int .u64 1] w fun e w' => ∃ g, e = .returned (.tuple #[mv 2 3 (some ⟨g, 0, none⟩) 6 6, .bool true, .int .i64 0]) ∧ Mt w' (some ⟨g, 0, none⟩) 6 6 h ∧ Below w.heap.size w w') := fun w a hm => by
  rw [← HF.out] at hm
  refine (qhk (s := 1) (t := 6) (p := 6) (L := 6) hm g3_rt g3_gen (by decide) (by decide) qjk qgr (by decide) rfl).mono (fun e w' hh => ?_)
  obtain ⟨g, O, he, hr, _, hp, hb⟩ := hh
  refine ⟨g, he, ?_, hb⟩
  rw [← HH.out]
  exact (hr.congr (g3_dec hp)).mt (fun i _ => d3_lt i)
 have HD : Hid (∀ w : World, Mt (w.alloc (.cells #[.int .u8 0, .int .u8 1, .int .u8 1, .int .u8 0, .int .u8 1, .int .u8 0] 5)) (some ⟨w.heap.size, 0, none⟩) 6 6 h) := fun w => by
  rw [← HH.out]
  exact (d3_row w).mt (fun i _ => d3_lt i)
 clear HF HH
 go_enter Try.func14, Try.ntmps14
 go_wp2_with (first
  | (go_at_call 35; have _x := H3; refine (H3.out _).mono ?_; rintro e w1 ⟨g1, rfl, hm1, hb⟩; have HM1 : Hid (Mt w1 (some ⟨g1, 0, none⟩) 6 6 f) := hm1; have HB1 : Hid (Below w.heap.size w w1) := hb; have H3b := H3; clear H3 _x hb hm1)
  | (go_at_call 7; refine (HRc.out _ _ HM1.out).mono ?_; rintro e w2 ⟨rfl, hb⟩; have HB2 : Hid (Below w.heap.size w w2) := qa1 HB1.out hb; clear hb)
  | (go_at_call 35; refine (H3b.out _).mono ?_; rintro e w3 ⟨g3, rfl, hm3, hb⟩; have HM3 : Hid (Mt w3 (some ⟨g3, 0, none⟩) 6 6 f) := hm3; have HB3 : Hid (Below w.heap.size w w3) := qa1 HB2.out hb; clear hb hm3)
  | (go_at_call 11; refine (HDc.out _ _ HM3.out).mono ?_; rintro e w4 ⟨g4, rfl, hm4, hb⟩; have HM4 : Hid (Mt ((w4.alloc (.cells #[.int .i64 2, .int .i64 3, .slice (some ⟨g4, 0, none⟩) 6 6] 24)).alloc (.cells #[.int .u8 0, .int .u8 1, .int .u8 1, .int .u8 0, .int .u8 1, .int .u8 0] 5)) (some ⟨g4, 0, none⟩) 6 6 h) := (hm4.later (qa0 _ _)).later (qa0 _ _); have HD4 : Hid (Mt ((w4.alloc (.cells #[.int .i64 2, .int .i64 3, .slice (some ⟨g4, 0, none⟩) 6 6] 24)).alloc (.cells #[.int .u8 0, .int .u8 1, .int .u8 1, .int .u8 0, .int .u8 1, .int .u8 0] 5)) (some ⟨w4.heap.size + 1, 0, none⟩) 6 6 h) := (by have hq := HD.out (w4.alloc (.cells #[.int .i64 2, .int .i64 3, .slice (some ⟨g4, 0, none⟩) 6 6] 24)); rw [World.size_alloc] at hq; exact hq); have HB4 : Hid (Below w.heap.size w w4) := qa1 HB3.out hb; clear hb hm4)
  | (go_at_call 36; refine (like7 _ 2 3 (some ⟨g4, 0, none⟩) (some ⟨w4.heap.size + 1, 0, none⟩) 6 6 6 h HM4.out HD4.out).mono ?_; rintro e w5 ⟨rfl, hb⟩; have HB5 : Hid (Below w.heap.size w w5) := qa1 (qa1 (qa1 HB4.out (qa0 _ _)) (qa0 _ _)) hb; clear hb))
 go_ret
 exact ⟨rfl, HB5.out⟩
end Go.Proofs.Ytokdejhbjoglcaa
