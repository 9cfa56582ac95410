/-
  Contracts of the matrices' reference: Same, Copy.
-/
import Derived.Test.YtaoehildaenbnaaSp
namespace Go.Proofs.Ytaoehildaenbnaa
open Go.RowKit
/-- Two boxes: two arguments. -/
structure Box2m (w wb : World) (r c r' c' : Int) (n k m d : Nat) (a b : Option Addr) : Prop where
  va : Vr wb w.heap.size (.int .i64 r) (.int .i64 c) (.slice a n k)
  vb : Vr wb (w.heap.size + 1) (.int .i64 r') (.int .i64 c') (.slice b m d)
  below : Below w.heap.size w wb
theorem box2m (w : World) (r c r' c' : Int) (n k m d : Nat) (a b : Option Addr) : Box2m w ((w.alloc (.cells #[.int .i64 r, .int .i64 c, .slice a n k] 24)).alloc (.cells #[.int .i64 r', .int .i64 c', .slice b m d] 24)) r c r' c' n k m d a b := by
  refine ⟨(Vr.new w _ _ _).later (alloc_low _ _), ?_, two_below (alloc_low _ _) (alloc_low _ _)⟩
  have := Vr.new (w.alloc (.cells #[.int .i64 r, .int .i64 c, .slice a n k] 24)) (.int .i64 r') (.int .i64 c') (.slice b m d)
  simpa using this
set_option maxRecDepth 20000 in
set_option maxHeartbeats 1000000 in
theorem same3_no (w : World) (r c r' c' : Int) (a b : Option Addr) (n m k d : Nat) (h : ¬ (RightP r c n ∧ RightP r' c' m)) :
    Calls Try.prog 22 #[mv r c a n k, mv r' c' b m d] w fun e w' => e = .returned (.bool false) ∧ Below w.heap.size w w' := by
  obtain ⟨wb, HW, HX⟩ : ∃ wb, Hid (wb = (w.alloc (.cells #[.int .i64 r, .int .i64 c, .slice a n k] 24)).alloc (.cells #[.int .i64 r', .int .i64 c', .slice b m d] 24)) ∧ Hid (Box2m w wb r c r' c' n k m d a b) := ⟨_, rfl, box2m w r c r' c' n k m d a b⟩
  by_cases h1 : RightP r c n
  · have H1 : Hid (RightP r c n) := h1
    have H2 : Hid (¬ RightP r' c' m) := fun e => h ⟨h1, e⟩
    clear h h1
    go_enter Try.func22, Try.ntmps22
    go_wp2_with (first
      | (go_at_call 14; have _x := HB1; refine (right_no _ _ _ _ _ _ H2.out).mono ?_; rintro e w2 ⟨rfl, hb2⟩; have HB2 : Hid (Below wb.heap.size wb w2) := two_below HB1.out hb2; clear hb2)
      | (go_at_call 14; rw [← HW.out]; refine (right_yes _ _ _ _ _ _ H1.out).mono ?_; rintro e w1 ⟨rfl, hb1⟩; have HB1 : Hid (Below wb.heap.size wb w1) := hb1; have b0 := (HX.out.vb.later hb1).c0; have b1 := (HX.out.vb.later hb1).c1; have b2 := (HX.out.vb.later hb1).c2; clear hb1))
    go_ret
    exact ⟨rfl, two_below HX.out.below HB2.out⟩
  · have H1 : Hid (¬ RightP r c n) := h1
    clear h h1
    go_enter Try.func22, Try.ntmps22
    go_wp2_with (go_at_call 14; rw [← HW.out]; refine (right_no _ _ _ _ _ _ H1.out).mono ?_; rintro e w1 ⟨rfl, hb1⟩; have HB1 : Hid (Below wb.heap.size wb w1) := hb1; clear hb1)
    go_ret
    exact ⟨rfl, two_below HX.out.below HB1.out⟩
set_option maxRecDepth 20000 in
set_option maxHeartbeats 1000000 in
theorem same3_yes (w : World) (r c r' c' : Int) (a b : Option Addr) (n m k d : Nat) (f g : Nat → Nat) (ha : Sl w a n f) (hb : Sl w b m g) (h1 : RightP r c n) (h2 : RightP r' c' m) :
    Calls Try.prog 22 #[mv r c a n k, mv r' c' b m d] w fun e w' => e = .returned (.bool (likeB r c r' c' n m f g)) ∧ Below w.heap.size w w' := by
  obtain ⟨wb, HW, HX⟩ : ∃ wb, Hid (wb = (w.alloc (.cells #[.int .i64 r, .int .i64 c, .slice a n k] 24)).alloc (.cells #[.int .i64 r', .int .i64 c', .slice b m d] 24)) ∧ Hid (Box2m w wb r c r' c' n k m d a b) := ⟨_, rfl, box2m w r c r' c' n k m d a b⟩
  have H1 : Hid (RightP r c n) := h1
  have H2 : Hid (RightP r' c' m) := h2
  obtain ⟨s, HS⟩ : ∃ s, Hid (likeB r c r' c' n m f g = s) := ⟨_, rfl⟩
  have HLk : Hid (∀ w', Below w.heap.size w w' → Calls Try.prog 36 #[.agg #[.int .i64 r, .int .i64 c, .slice a n k], .agg #[.int .i64 r', .int .i64 c', .slice b m d]] w' fun e w'' => e = .returned (.bool s) ∧ Below w'.heap.size w' w'') := by
    rw [← HS.out]; exact fun w' h' => like_exact w' r c r' c' a b n m k d f g (ha.later h') (hb.later h')
  rw [HS.out]
  clear ha hb h1 h2
  go_enter Try.func22, Try.ntmps22
  go_wp2_with (first
    | (go_at_call 36; refine (HLk.out _ (two_below HX.out.below HB2.out)).mono ?_; rintro e w3 ⟨rfl, hb3⟩; have HB3 : Hid (Below wb.heap.size wb w3) := two_below HB2.out hb3; clear hb3)
    | (go_at_call 14; have _x := HB1; refine (right_yes _ _ _ _ _ _ H2.out).mono ?_; rintro e w2 ⟨rfl, hb2⟩; have HB2 : Hid (Below wb.heap.size wb w2) := two_below HB1.out hb2; have a0 := (HX.out.va.later HB2.out).c0; have a1 := (HX.out.va.later HB2.out).c1; have a2 := (HX.out.va.later HB2.out).c2; have b0 := (HX.out.vb.later HB2.out).c0; have b1 := (HX.out.vb.later HB2.out).c1; have b2 := (HX.out.vb.later HB2.out).c2; clear hb2)
    | (go_at_call 14; rw [← HW.out]; refine (right_yes _ _ _ _ _ _ H1.out).mono ?_; rintro e w1 ⟨rfl, hb1⟩; have HB1 : Hid (Below wb.heap.size wb w1) := hb1; have b0 := (HX.out.vb.later hb1).c0; have b1 := (HX.out.vb.later hb1).c1; have b2 := (HX.out.vb.later hb1).c2; clear hb1))
  go_ret
  exact ⟨rfl, two_below HX.out.below HB3.out⟩
end Go.Proofs.Ytaoehildaenbnaa
