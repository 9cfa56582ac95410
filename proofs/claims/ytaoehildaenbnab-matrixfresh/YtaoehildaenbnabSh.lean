/-
  Contracts of the matrices' reference: what fails in Transpose and Mul; Apply.
-/
import Derived.Test.YtaoehildaenbnabSg
namespace Go.Proofs.Ytaoehildaenbnab
open Go.RowKit
/-- Two that may be multiplied. -/
def FitP (r c : Int) (n : Nat) (r' c' : Int) (m : Nat) : Prop := RightP r c n ∧ RightP r' c' m ∧ c = r'
set_option maxRecDepth 20000 in
set_option maxHeartbeats 2000000 in
theorem rmmul_bad (w : World) (r c r' c' : Int) (n k m d : Nat) (a b : Option Addr) (h : ¬ FitP r c n r' c' m) :
    Calls Try.prog 20 #[mv r c a n k, mv r' c' b m d] w fun e w' => e = .returned (.tuple #[mv 0 0 none 0 0, .int .i64 3]) ∧ Below w.heap.size w w' := by
  obtain ⟨wb, HW⟩ : ∃ wb, Hid (wb = ((w.alloc (.cells #[.int .i64 r, .int .i64 c, .slice a n k] 24)).alloc (.cells #[.int .i64 r', .int .i64 c', .slice b m d] 24)).alloc (.cells #[.int .i64 0, .int .i64 0, .slice none 0 0] 24)) := ⟨_, rfl⟩
  have HVa : Hid (Vr wb w.heap.size (.int .i64 r) (.int .i64 c) (.slice a n k)) := by rw [HW.out]; exact ((Vr.new w _ _ _).later (alloc_low _ _)).later (alloc_low _ _)
  have HVb : Hid (Vr wb (w.heap.size + 1) (.int .i64 r') (.int .i64 c') (.slice b m d)) := by show Vr _ _ _ _ _; rw [HW.out]; have := (Vr.new (w.alloc (.cells #[.int .i64 r, .int .i64 c, .slice a n k] 24)) (.int .i64 r') (.int .i64 c') (.slice b m d)).later (alloc_low _ (.cells #[.int .i64 0, .int .i64 0, .slice none 0 0] 24)); simpa using this
  have HVr : Hid (Vr wb (w.heap.size + 1 + 1) (.int .i64 0) (.int .i64 0) (.slice none 0 0)) := by show Vr _ _ _ _ _; rw [HW.out]; have := Vr.new ((w.alloc (.cells #[.int .i64 r, .int .i64 c, .slice a n k] 24)).alloc (.cells #[.int .i64 r', .int .i64 c', .slice b m d] 24)) (.int .i64 0) (.int .i64 0) (.slice none 0 0); simpa using this
  have HB0 : Hid (Below w.heap.size w wb) := by rw [HW.out]; exact two_below (two_below (alloc_low _ _) (alloc_low _ _)) (alloc_low _ _)
  by_cases h1 : RightP r c n
  · by_cases h2 : RightP r' c' m
    · have h3 : c ≠ r' := fun e => h ⟨h1, h2, e⟩
      have g1 : (c != r') = true := by simpa using h3
      have H1 : Hid (RightP r c n) := h1
      have H2 : Hid (RightP r' c' m) := h2
      clear h h1 h2 h3
      go_enter Try.func20, Try.ntmps20
      go_wp2_with (first
        | (go_at_call 9; have _x := HB1; refine (right_yes _ _ _ _ _ _ H2.out).mono ?_; rintro e w2 ⟨rfl, hb2⟩; have HB2 : Hid (Below wb.heap.size wb w2) := two_below HB1.out hb2; have a1 := (HVa.out.later HB2.out).c1; have b0 := (HVb.out.later HB2.out).c0; have HV2 : Hid (Vr w2 (w.heap.size + 1 + 1) (.int .i64 0) (.int .i64 0) (.slice none 0 0)) := HVr.out.later HB2.out; have HBw : Hid (Below w.heap.size w w2) := two_below HB0.out HB2.out; clear hb2)
        | (go_at_call 9; rw [← HW.out]; refine (right_yes _ _ _ _ _ _ H1.out).mono ?_; rintro e w1 ⟨rfl, hb1⟩; have HB1 : Hid (Below wb.heap.size wb w1) := hb1; have b0 := (HVb.out.later hb1).c0; have b1 := (HVb.out.later hb1).c1; have b2 := (HVb.out.later hb1).c2; clear hb1)
        | (refine wpList_store_var rfl _ _ rfl (w.heap.size + 1 + 1) _ _ _ (.int .i64 0) (.int .i64 0) (.slice none 0 0) rfl rfl HV2.out rfl rfl rfl ?_; intro w4 HV4 HG4))
      have c0 := HV4.out.c0
      have c1 := HV4.out.c1
      have c2 := HV4.out.c2
      refine bodyPost_ret (v := .tuple #[mv 0 0 none 0 0, .int .i64 3]) (by simp [results, Try.results20, go_sem, c0, c1, c2, mv]) rfl ?_
      exact ⟨rfl, below_row HBw.out HG4.out (by omega)⟩
    · have H1 : Hid (RightP r c n) := h1
      have H2 : Hid (¬ RightP r' c' m) := h2
      clear h h1 h2
      go_enter Try.func20, Try.ntmps20
      go_wp2_with (first
        | (go_at_call 9; have _x := HB1; refine (right_no _ _ _ _ _ _ H2.out).mono ?_; rintro e w2 ⟨rfl, hb2⟩; have HB2 : Hid (Below wb.heap.size wb w2) := two_below HB1.out hb2; have HV2 : Hid (Vr w2 (w.heap.size + 1 + 1) (.int .i64 0) (.int .i64 0) (.slice none 0 0)) := HVr.out.later HB2.out; have HBw : Hid (Below w.heap.size w w2) := two_below HB0.out HB2.out; clear hb2)
        | (go_at_call 9; rw [← HW.out]; refine (right_yes _ _ _ _ _ _ H1.out).mono ?_; rintro e w1 ⟨rfl, hb1⟩; have HB1 : Hid (Below wb.heap.size wb w1) := hb1; have b0 := (HVb.out.later hb1).c0; have b1 := (HVb.out.later hb1).c1; have b2 := (HVb.out.later hb1).c2; clear hb1)
        | (refine wpList_store_var rfl _ _ rfl (w.heap.size + 1 + 1) _ _ _ (.int .i64 0) (.int .i64 0) (.slice none 0 0) rfl rfl HV2.out rfl rfl rfl ?_; intro w4 HV4 HG4))
      have c0 := HV4.out.c0
      have c1 := HV4.out.c1
      have c2 := HV4.out.c2
      refine bodyPost_ret (v := .tuple #[mv 0 0 none 0 0, .int .i64 3]) (by simp [results, Try.results20, go_sem, c0, c1, c2, mv]) rfl ?_
      exact ⟨rfl, below_row HBw.out HG4.out (by omega)⟩
  · have H1 : Hid (¬ RightP r c n) := h1
    clear h h1
    go_enter Try.func20, Try.ntmps20
    go_wp2_with (first
      | (go_at_call 9; rw [← HW.out]; refine (right_no _ _ _ _ _ _ H1.out).mono ?_; rintro e w1 ⟨rfl, hb1⟩; have HV2 : Hid (Vr w1 (w.heap.size + 1 + 1) (.int .i64 0) (.int .i64 0) (.slice none 0 0)) := HVr.out.later hb1; have HBw : Hid (Below w.heap.size w w1) := two_below HB0.out hb1; clear hb1)
      | (refine wpList_store_var rfl _ _ rfl (w.heap.size + 1 + 1) _ _ _ (.int .i64 0) (.int .i64 0) (.slice none 0 0) rfl rfl HV2.out rfl rfl rfl ?_; intro w4 HV4 HG4))
    have c0 := HV4.out.c0
    have c1 := HV4.out.c1
    have c2 := HV4.out.c2
    refine bodyPost_ret (v := .tuple #[mv 0 0 none 0 0, .int .i64 3]) (by simp [results, Try.results20, go_sem, c0, c1, c2, mv]) rfl ?_
    exact ⟨rfl, below_row HBw.out HG4.out (by omega)⟩
/-- Each row's Dot with the list. -/
def apf (F X : Nat → Nat) (c i : Nat) : Nat := xs (fun t => fm (F (i * c + t)) (X t)) c
theorem prk_apf (F X : Nat → Nat) (c i : Nat) : prk F X c 1 c i = apf F X c i := by
  unfold prk apf
  refine xs_congr (fun t _ => ?_)
  rw [Nat.div_one, Nat.mod_one, Nat.mul_one, Nat.add_zero]
end Go.Proofs.Ytaoehildaenbnab
