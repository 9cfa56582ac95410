/-
  The checks' own anchor: one verdict and one matrix that the document fixes.
-/
import Derived.Test.YtokdejhbjoglcaaGreatQffsh00
import Derived.Test.YtokdejhbjoglcaaGreatQffsh45
set_option maxRecDepth 100000
set_option maxHeartbeats 16000000
namespace Go.Proofs.YtokdejhbjoglcaaGreat
open Go.RowKit Go.Shelf
/-- The document's three rows. -/
def g3 (i : Nat) : Nat := if i = 0 then 1 else if i = 3 then 1 else if i = 4 then 1 else if i = 5 then 1 else 0
theorem g3_lt (i : Nat) : g3 i < 256 := by
 unfold g3
 repeat' split
 all_goals decide
theorem g3_rt : Rt 3 2 6 := ⟨by decide, by decide, rfl⟩
theorem g3_el : El2 (m2 g3 3 2) := qao (fun i _ => g3_lt i) g3_rt
theorem g3_gen : GenP ((3 : Nat) : Int) ((2 : Nat) : Int) 6 := ⟨⟨by decide, by decide, by decide, by decide, by decide⟩, by decide, by decide⟩
theorem qle (i : Nat) (hi : i < 3) : bt 6 i = 1 ↔ ¬ bt 1 i = 1 := by
 rcases (by omega : i = 0 ∨ i = 1 ∨ i = 2) with rfl | rfl | rfl <;> decide
theorem qi5 : BaS (m2 g3 3 2) 3 6 6 := by
 refine ⟨by decide, fun i hi => ?_⟩
 rcases (by omega : i = 0 ∨ i = 1 ∨ i = 2) with rfl | rfl | rfl
 ·exact ⟨fun h => absurd h (by decide), fun h => absurd h.1 (by decide)⟩
 ·exact ⟨fun _ => ⟨by decide, fun h => absurd (ss_col (j := 1) h (fun i _ hb => absurd hb (bt0 i))) (by decide)⟩, fun _ => by decide⟩
 ·refine ⟨fun _ => ⟨by decide, fun h => absurd (ss_col (j := 0) h (fun i hi hb => ?_)) (by decide)⟩, fun _ => by decide⟩
  rw [show (6 % 2 ^ 2 : Nat) = 2 ^ 1 from rfl, qbm] at hb
  rw [hb]
  decide
theorem g3_say : SayA g3 ((3 : Nat) : Int) ((2 : Nat) : Int) 6 1 true 6 0 :=
 .inr (.inr ⟨3, 2, 6, 6, rfl, rfl, g3_gen, g3_rt, by decide, by decide, by decide, by decide, by decide, qle, qi5, Rk.span (qi5.free g3_el).1 (qi5.free g3_el).2, by decide, by decide, rfl, rfl⟩)
/-- The document's matrix. -/
def d3 (i : Nat) : Nat := if i = 1 then 1 else if i = 2 then 1 else if i = 4 then 1 else 0
theorem d3_lt (i : Nat) : d3 i < 256 := by
 unfold d3
 repeat' split
 all_goals decide
theorem g3_dec {O : Nat → Nat} (h : DecP g3 O 6 3 2) : ∀ q, q < 6 → O q = d3 q := by
 have e0 : O 0 = 0 := h.off 0 0 (by decide) (by decide) (by decide)
 have e3 : O 3 = 0 := h.off 1 0 (by decide) (by decide) (by decide)
 have row : ∀ i l, i < 2 → l < 2 → (0 ^^^ fm (O (i * 3 + 0)) (m2 g3 3 2 0 l)) ^^^ fm (O (i * 3 + 1)) (m2 g3 3 2 1 l) ^^^ fm (O (i * 3 + 2)) (m2 g3 3 2 2 l) = dl i l := fun i l hi hl => h.id i l hi hl
 have m00 : m2 g3 3 2 0 0 = 1 := by decide
 have m01 : m2 g3 3 2 0 1 = 0 := by decide
 have m10 : m2 g3 3 2 1 0 = 0 := by decide
 have m11 : m2 g3 3 2 1 1 = 1 := by decide
 have m20 : m2 g3 3 2 2 0 = 1 := by decide
 have m21 : m2 g3 3 2 2 1 = 1 := by decide
 have el : ∀ q, q < 6 → O q < 256 := fun q hq => h.el q (by omega)
 have r00 := row 0 0 (by decide) (by decide)
 have r01 := row 0 1 (by decide) (by decide)
 have r10 := row 1 0 (by decide) (by decide)
 have r11 := row 1 1 (by decide) (by decide)
 rw [m00, m10, m20, qa7, qaq _ (el _ (by decide)), qaq _ (el _ (by decide))] at r00 r10
 rw [m01, m11, m21, qa7, qaq _ (el _ (by decide)), qaq _ (el _ (by decide))] at r01 r11
 simp only [Nat.zero_mul, Nat.one_mul, Nat.zero_add, Nat.reduceAdd, Nat.zero_xor, Nat.xor_zero, e0, e3] at r00 r01 r10 r11
 have f2 : O 2 = 1 := r00
 have f5 : O 5 = 0 := r10
 rw [f2] at r01
 rw [f5] at r11
 have f1 : O 1 = 1 := by
  have := congrArg (· ^^^ 1) r01
  simpa [Nat.xor_assoc, dl] using this
 have f4 : O 4 = 1 := by simpa [dl] using r11
 intro q hq
 rcases (by omega : q = 0 ∨ q = 1 ∨ q = 2 ∨ q = 3 ∨ q = 4 ∨ q = 5) with rfl | rfl | rfl | rfl | rfl | rfl
 ·rw [e0]; rfl
 ·rw [f1]; rfl
 ·rw [f2]; rfl
 ·rw [e3]; rfl
 ·rw [f4]; rfl
 ·rw [f5]; rfl
theorem g3_row (w : World) : RowAt (w.alloc (.cells #[.int .u8 1, .int .u8 0, .int .u8 0, .int .u8 1, .int .u8 1, .int .u8 1] 5)) w.heap.size 5 6 g3 := by
 unfold RowAt
 rw [qbr]
 kernel_rfl
theorem d3_row (w : World) : RowAt (w.alloc (.cells #[.int .u8 0, .int .u8 1, .int .u8 1, .int .u8 0, .int .u8 1, .int .u8 0] 5)) w.heap.size 5 6 d3 := by
 unfold RowAt
 rw [qbr]
 kernel_rfl
theorem three18 (w : World) : Calls Tryz.prog 29 #[] w fun e w' => ∃ g, e = .returned (mv 3 2 (some ⟨g, 0, none⟩) 6 6) ∧ Mt w' (some ⟨g, 0, none⟩) 6 6 g3 ∧ Below w.heap.size w w' := by
 obtain ⟨wb, HW⟩ : ∃ wb, Hid (wb = (w.alloc (.cells #[.int .i64 0, .int .i64 0, .slice none 0 0] 24)).alloc (.cells #[.int .u8 1, .int .u8 0, .int .u8 0, .int .u8 1, .int .u8 1, .int .u8 1] 5)) := ⟨_, rfl⟩
 have HV : Hid (Vr ((w.alloc (.cells #[.int .i64 0, .int .i64 0, .slice none 0 0] 24)).alloc (.cells #[.int .u8 1, .int .u8 0, .int .u8 0, .int .u8 1, .int .u8 1, .int .u8 1] 5)) w.heap.size (.int .i64 0) (.int .i64 0) (.slice none 0 0)) := (Vr.new w _ _ _).later (qa1 _ _)
 have HR : Hid (RowAt wb (w.heap.size + 1) 5 6 g3) := by
  have h := g3_row (w.alloc (.cells #[.int .i64 0, .int .i64 0, .slice none 0 0] 24))
  rw [World.size_alloc] at h
  rw [HW.out]
  exact h
 have HB : Hid (Below w.heap.size w wb) := by rw [HW.out]; exact qa0 (qa1 _ _) (qa1 _ _)
 go_enter Tryz.func29, Tryz.ntmps29
 go_wp2_with (refine qa2 rfl _ _ rfl w.heap.size _ _ _ (.int .i64 3) (.int .i64 2) (.slice (some ⟨w.heap.size + 1, 0, none⟩) 6 6) rfl rfl HV.out rfl rfl rfl ?_; intro w7 HV7 HG7)
 have d0 := HV7.out.c0
 have d1 := HV7.out.c1
 have d2 := HV7.out.c2
 refine bodyPost_ret (v := mv 3 2 (some ⟨w.heap.size + 1, 0, none⟩) 6 6) (by simp [results, Tryz.results29, go_sem, d0, d1, d2, mv]) rfl ?_
 have hg := HG7.out
 rw [← HW.out] at hg
 exact ⟨w.heap.size + 1, rfl, (HR.out.kept hg (by omega)).mt (fun i _ => g3_lt i), qa4 HB.out hg (by omega)⟩
theorem anch18 (w : World) : Calls Tryz.prog 12 #[] w fun e w' => e = .returned (.bool true) ∧ Below w.heap.size w w' := by
 obtain ⟨f, HF⟩ : ∃ f, Hid (g3 = f) := ⟨_, rfl⟩
 obtain ⟨h, HH⟩ : ∃ h, Hid (d3 = h) := ⟨_, rfl⟩
 have H3 : Hid (∀ w : World, Calls Tryz.prog 29 #[] w fun e w' => ∃ g, e = .returned (mv 3 2 (some ⟨g, 0, none⟩) 6 6) ∧ Mt w' (some ⟨g, 0, none⟩) 6 6 f ∧ Below w.heap.size w w') := fun w => by rw [← HF.out]; exact three18 w
 have HRc : Hid (∀ (w : World) (a : Option Addr), Mt w a 6 6 f → Calls Tryz.prog 28 #[mv 3 2 a 6 6, .int .u64 1] w fun e w' => e = .returned (.tuple #[.bool true, .int .i64 0]) ∧ Below w.heap.size w w') := fun w a h => by
  rw [← HF.out] at h
  exact (say_c h (by decide) g3_say).vr w (Below.refl _ _)
 have HDc : Hid (∀ (w : World) (a : Option Addr), Mt w a 6 6 f → Calls Tryz.prog 5 #[mv 3 2 a 6 6, .int .u64 1] w fun e w' => ∃ g, e = .returned (.tuple #[mv 2 3 (some ⟨g, 0, none⟩) 6 6, .bool true, .int .i64 0]) ∧ Mt w' (some ⟨g, 0, none⟩) 6 6 h ∧ Below w.heap.size w w') := fun w a hm => by
  rw [← HF.out] at hm
  refine (qdc (s := 1) (t := 6) (p := 6) (L := 6) hm g3_rt g3_gen (by decide) (by decide) qle qi5 (by decide) rfl).mono (fun e w' hh => ?_)
  obtain ⟨g, O, he, hr, _, hp, hb⟩ := hh
  refine ⟨g, he, ?_, hb⟩
  rw [← HH.out]
  exact (hr.congr (g3_dec hp)).mt (fun i _ => d3_lt i)
 have HD : Hid (∀ w : World, Mt (w.alloc (.cells #[.int .u8 0, .int .u8 1, .int .u8 1, .int .u8 0, .int .u8 1, .int .u8 0] 5)) (some ⟨w.heap.size, 0, none⟩) 6 6 h) := fun w => by
  rw [← HH.out]
  exact (d3_row w).mt (fun i _ => d3_lt i)
 clear HF HH
 go_enter Tryz.func12, Tryz.ntmps12
 go_wp2_with (first
  | (go_at_call 29; have _x := H3; refine (H3.out _).mono ?_; rintro e w1 ⟨g1, rfl, hm1, hb⟩; have HM1 : Hid (Mt w1 (some ⟨g1, 0, none⟩) 6 6 f) := hm1; have HB1 : Hid (Below w.heap.size w w1) := hb; have H3b := H3; clear H3 _x hb hm1)
  | (go_at_call 28; refine (HRc.out _ _ HM1.out).mono ?_; rintro e w2 ⟨rfl, hb⟩; have HB2 : Hid (Below w.heap.size w w2) := qa0 HB1.out hb; clear hb)
  | (go_at_call 29; refine (H3b.out _).mono ?_; rintro e w3 ⟨g3, rfl, hm3, hb⟩; have HM3 : Hid (Mt w3 (some ⟨g3, 0, none⟩) 6 6 f) := hm3; have HB3 : Hid (Below w.heap.size w w3) := qa0 HB2.out hb; clear hb hm3)
  | (go_at_call 5; refine (HDc.out _ _ HM3.out).mono ?_; rintro e w4 ⟨g4, rfl, hm4, hb⟩; have HM4 : Hid (Mt ((w4.alloc (.cells #[.int .i64 2, .int .i64 3, .slice (some ⟨g4, 0, none⟩) 6 6] 24)).alloc (.cells #[.int .u8 0, .int .u8 1, .int .u8 1, .int .u8 0, .int .u8 1, .int .u8 0] 5)) (some ⟨g4, 0, none⟩) 6 6 h) := (hm4.later (qa1 _ _)).later (qa1 _ _); have HD4 : Hid (Mt ((w4.alloc (.cells #[.int .i64 2, .int .i64 3, .slice (some ⟨g4, 0, none⟩) 6 6] 24)).alloc (.cells #[.int .u8 0, .int .u8 1, .int .u8 1, .int .u8 0, .int .u8 1, .int .u8 0] 5)) (some ⟨w4.heap.size + 1, 0, none⟩) 6 6 h) := (by have hq := HD.out (w4.alloc (.cells #[.int .i64 2, .int .i64 3, .slice (some ⟨g4, 0, none⟩) 6 6] 24)); rw [World.size_alloc] at hq; exact hq); have HB4 : Hid (Below w.heap.size w w4) := qa0 HB3.out hb; clear hb hm4)
  | (go_at_call 9; refine (ql5 _ 2 3 (some ⟨g4, 0, none⟩) (some ⟨w4.heap.size + 1, 0, none⟩) 6 6 6 h HM4.out HD4.out).mono ?_; rintro e w5 ⟨rfl, hb⟩; have HB5 : Hid (Below w.heap.size w w5) := qa0 (qa0 (qa0 HB4.out (qa1 _ _)) (qa1 _ _)) hb; clear hb))
 go_ret
 exact ⟨rfl, HB5.out⟩
end Go.Proofs.YtokdejhbjoglcaaGreat
