/-
  Contracts of the matrices' reference: what fails in Transpose and Mul; Apply.
-/
import Derived.Test.YtaoehildaenbnaaSg
namespace Go.Proofs.Ytaoehildaenbnaa
open Go.RowKit
set_option maxHeartbeats 1000000 in
theorem rtrans_bad (w : World) (r c : Int) (n k : Nat) (a : Option Addr) (h : ¬ RightP r c n) :
    Calls Try.prog 28 #[mv r c a n k] w fun e w' => e = .returned (.tuple #[mv 0 0 none 0 0, .int .i64 3]) ∧ Below w.heap.size w w' := by
  have HH : Hid (¬ RightP r c n) := h
  obtain ⟨wb, HW⟩ : ∃ wb, Hid (wb = (w.alloc (.cells #[.int .i64 r, .int .i64 c, .slice a n k] 24)).alloc (.cells #[.int .i64 0, .int .i64 0, .slice none 0 0] 24)) := ⟨_, rfl⟩
  have HVr : Hid (Vr wb (w.heap.size + 1) (.int .i64 0) (.int .i64 0) (.slice none 0 0)) := by show Vr _ _ _ _ _; rw [HW.out]; have := Vr.new (w.alloc (.cells #[.int .i64 r, .int .i64 c, .slice a n k] 24)) (.int .i64 0) (.int .i64 0) (.slice none 0 0); simpa using this
  have HB0 : Hid (Below w.heap.size w wb) := by rw [HW.out]; exact two_below (alloc_low _ _) (alloc_low _ _)
  clear h
  go_enter Try.func28, Try.ntmps28
  go_wp2_with (first
    | (go_at_call 14; rw [← HW.out]; refine (right_no _ _ _ _ _ _ HH.out).mono ?_; rintro e w1 ⟨rfl, hb1⟩; have HV1 : Hid (Vr w1 (w.heap.size + 1) (.int .i64 0) (.int .i64 0) (.slice none 0 0)) := HVr.out.later hb1; have HB1 : Hid (Below w.heap.size w w1) := two_below HB0.out hb1; clear hb1)
    | (refine wpList_store_var rfl _ _ rfl (w.heap.size + 1) _ _ _ (.int .i64 0) (.int .i64 0) (.slice none 0 0) rfl rfl HV1.out rfl rfl rfl ?_; intro w2 HV2 HG2))
  have c0 := HV2.out.c0
  have c1 := HV2.out.c1
  have c2 := HV2.out.c2
  refine bodyPost_ret (v := .tuple #[mv 0 0 none 0 0, .int .i64 3]) (by simp [results, Try.results28, go_sem, c0, c1, c2, mv]) rfl ?_
  exact ⟨rfl, below_row HB1.out HG2.out (by omega)⟩
/-- Two that may be multiplied. -/
def FitP (r c : Int) (n : Nat) (r' c' : Int) (m : Nat) : Prop := RightP r c n ∧ RightP r' c' m ∧ c = r'
set_option maxRecDepth 20000 in
set_option maxHeartbeats 2000000 in
theorem rmmul_bad (w : World) (r c r' c' : Int) (n k m d : Nat) (a b : Option Addr) (h : ¬ FitP r c n r' c' m) :
    Calls Try.prog 24 #[mv r c a n k, mv r' c' b m d] w fun e w' => e = .returned (.tuple #[mv 0 0 none 0 0, .int .i64 3]) ∧ Below w.heap.size w w' := by
  obtain ⟨wb, HW⟩ : ∃ wb, Hid (wb = ((w.alloc (.cells #[.int .i64 r, .int .i64 c, .slice a n k] 24)).alloc (.cells #[.int .i64 r', .int .i64 c', .slice b m d] 24)).alloc (.cells #[.int .i64 0, .int .i64 0, .slice none 0 0] 24)) := ⟨_, rfl⟩
  have HVa : Hid (Vr wb w.heap.size (.int .i64 r) (.int .i64 c) (.slice a n k)) := by rw [HW.out]; exact ((Vr.new w _ _ _).later (alloc_low _ _)).later (alloc_low _ _)
  have HVb : Hid (Vr wb (w.heap.size + 1) (.int .i64 r') (.int .i64 c') (.slice b m d)) := by show Vr _ _ _ _ _; rw [HW.out]; have := (Vr.new (w.alloc (.cells #[.int .i64 r, .int .i64 c, .slice a n k] 24)) (.int .i64 r') (.int .i64 c') (.slice b m d)).later (alloc_low _ (.cells #[.int .i64 0, .int .i64 0, .slice none 0 0] 24)); simpa using this
  have HVr : Hid (Vr wb (w.heap.size + 1 + 1) (.int .i64 0) (.int .i64 0) (.slice none 0 0)) := by show Vr _ _ _ _ _; rw [HW.out]; have := Vr.new ((w.alloc (.cells #[.int .i64 r, .int .i64 c, .slice a n k] 24)).alloc (.cells #[.int .i64 r', .int .i64 c', .slice b m d] 24)) (.int .i64 0) (.int .i64 0) (.slice none 0 0); simpa using this
  have HB0 : Hid (Below w.heap.size w wb) := by rw [HW.out]; exact two_below (two_below (alloc_low _ _) (alloc_low _ _)) (alloc_low _ _)
  by_cases h1 : RightP r c n
  · by_cases h2 : RightP r' c' m
    · have h3 : c ≠ r' := fun e => h ⟨h1, h2, e⟩
      have g1 : (c != r') = true := by simpa using h3
      have H1 : Hid (RightP r c n) := h1
      have H2 : Hid (RightP r' c' m) := h2
      clear h h1 h2 h3
      go_enter Try.func24, Try.ntmps24
      go_wp2_with (first
        | (go_at_call 14; have _x := HB1; refine (right_yes _ _ _ _ _ _ H2.out).mono ?_; rintro e w2 ⟨rfl, hb2⟩; have HB2 : Hid (Below wb.heap.size wb w2) := two_below HB1.out hb2; have a1 := (HVa.out.later HB2.out).c1; have b0 := (HVb.out.later HB2.out).c0; have HV2 : Hid (Vr w2 (w.heap.size + 1 + 1) (.int .i64 0) (.int .i64 0) (.slice none 0 0)) := HVr.out.later HB2.out; have HBw : Hid (Below w.heap.size w w2) := two_below HB0.out HB2.out; clear hb2)
        | (go_at_call 14; rw [← HW.out]; refine (right_yes _ _ _ _ _ _ H1.out).mono ?_; rintro e w1 ⟨rfl, hb1⟩; have HB1 : Hid (Below wb.heap.size wb w1) := hb1; have b0 := (HVb.out.later hb1).c0; have b1 := (HVb.out.later hb1).c1; have b2 := (HVb.out.later hb1).c2; clear hb1)
        | (refine wpList_store_var rfl _ _ rfl (w.heap.size + 1 + 1) _ _ _ (.int .i64 0) (.int .i64 0) (.slice none 0 0) rfl rfl HV2.out rfl rfl rfl ?_; intro w4 HV4 HG4))
      have c0 := HV4.out.c0
      have c1 := HV4.out.c1
      have c2 := HV4.out.c2
      refine bodyPost_ret (v := .tuple #[mv 0 0 none 0 0, .int .i64 3]) (by simp [results, Try.results24, go_sem, c0, c1, c2, mv]) rfl ?_
      exact ⟨rfl, below_row HBw.out HG4.out (by omega)⟩
    · have H1 : Hid (RightP r c n) := h1
      have H2 : Hid (¬ RightP r' c' m) := h2
      clear h h1 h2
      go_enter Try.func24, Try.ntmps24
      go_wp2_with (first
        | (go_at_call 14; have _x := HB1; refine (right_no _ _ _ _ _ _ H2.out).mono ?_; rintro e w2 ⟨rfl, hb2⟩; have HB2 : Hid (Below wb.heap.size wb w2) := two_below HB1.out hb2; have HV2 : Hid (Vr w2 (w.heap.size + 1 + 1) (.int .i64 0) (.int .i64 0) (.slice none 0 0)) := HVr.out.later HB2.out; have HBw : Hid (Below w.heap.size w w2) := two_below HB0.out HB2.out; clear hb2)
        | (go_at_call 14; rw [← HW.out]; refine (right_yes _ _ _ _ _ _ H1.out).mono ?_; rintro e w1 ⟨rfl, hb1⟩; have HB1 : Hid (Below wb.heap.size wb w1) := hb1; have b0 := (HVb.out.later hb1).c0; have b1 := (HVb.out.later hb1).c1; have b2 := (HVb.out.later hb1).c2; clear hb1)
        | (refine wpList_store_var rfl _ _ rfl (w.heap.size + 1 + 1) _ _ _ (.int .i64 0) (.int .i64 0) (.slice none 0 0) rfl rfl HV2.out rfl rfl rfl ?_; intro w4 HV4 HG4))
      have c0 := HV4.out.c0
      have c1 := HV4.out.c1
      have c2 := HV4.out.c2
      refine bodyPost_ret (v := .tuple #[mv 0 0 none 0 0, .int .i64 3]) (by simp [results, Try.results24, go_sem, c0, c1, c2, mv]) rfl ?_
      exact ⟨rfl, below_row HBw.out HG4.out (by omega)⟩
  · have H1 : Hid (¬ RightP r c n) := h1
    clear h h1
    go_enter Try.func24, Try.ntmps24
    go_wp2_with (first
      | (go_at_call 14; rw [← HW.out]; refine (right_no _ _ _ _ _ _ H1.out).mono ?_; rintro e w1 ⟨rfl, hb1⟩; have HV2 : Hid (Vr w1 (w.heap.size + 1 + 1) (.int .i64 0) (.int .i64 0) (.slice none 0 0)) := HVr.out.later hb1; have HBw : Hid (Below w.heap.size w w1) := two_below HB0.out hb1; clear hb1)
      | (refine wpList_store_var rfl _ _ rfl (w.heap.size + 1 + 1) _ _ _ (.int .i64 0) (.int .i64 0) (.slice none 0 0) rfl rfl HV2.out rfl rfl rfl ?_; intro w4 HV4 HG4))
    have c0 := HV4.out.c0
    have c1 := HV4.out.c1
    have c2 := HV4.out.c2
    refine bodyPost_ret (v := .tuple #[mv 0 0 none 0 0, .int .i64 3]) (by simp [results, Try.results24, go_sem, c0, c1, c2, mv]) rfl ?_
    exact ⟨rfl, below_row HBw.out HG4.out (by omega)⟩
/-- Each row's Dot with the list. -/
def apf (F X : Nat → Nat) (c i : Nat) : Nat := xs (fun t => fm (F (i * c + t)) (X t)) c
theorem prk_apf (F X : Nat → Nat) (c i : Nat) : prk F X c 1 c i = apf F X c i := by
  unfold prk apf
  refine xs_congr (fun t _ => ?_)
  rw [Nat.div_one, Nat.mod_one, Nat.mul_one, Nat.add_zero]
set_option maxRecDepth 20000 in
set_option maxHeartbeats 1000000 in
theorem rapply_ok (w : World) (r c n k d : Nat) (a b : Option Addr) (F X : Nat → Nat) (ha : Sl w a n F) (hb : Sl w b c X) (R : Rt r c n) :
    Calls Try.prog 26 #[mv r c a n k, .slice b c d] w fun e w' => ∃ g, e = .returned (.tuple #[.slice (some ⟨g, 0, none⟩) r r, .int .i64 0]) ∧ RowAt w' g 5 r (apf F X c) ∧ w.heap.size ≤ g ∧ Below w.heap.size w w' := by
  have HR : Hid (Rt r c n) := R
  have hr := R.r64
  have hc := R.c64
  have HX : Hid (Rt c 1 c) := ⟨hc, by omega, by omega⟩
  have HC : Hid (Rt r 1 r) := ⟨hr, by omega, by omega⟩
  obtain ⟨wb, HW⟩ : ∃ wb, Hid (wb = w.alloc (.cells #[.int .i64 (r : Int), .int .i64 (c : Int), .slice a n k] 24)) := ⟨_, rfl⟩
  have HV0 : Hid (Vr wb w.heap.size (.int .i64 (r : Int)) (.int .i64 (c : Int)) (.slice a n k)) := by rw [HW.out]; exact Vr.new w _ _ _
  have HB0 : Hid (Below w.heap.size w wb) := by rw [HW.out]; exact alloc_low _ _
  have HSa : Hid (Sl w a n F) := ha
  have HSb : Hid (Sl w b c X) := hb
  have HMul : Hid (∀ w', Below w.heap.size w w' → Calls Try.prog 24 #[.agg #[.int .i64 (r : Int), .int .i64 (c : Int), .slice a n k], .agg #[.int .i64 (c : Int), .int .i64 1, .slice b c d]] w' fun e w'' => ∃ g, e = .returned (.tuple #[mv r 1 (some ⟨g, 0, none⟩) r r, .int .i64 0]) ∧ RowAt w'' g 5 r (prk F X c 1 c) ∧ w'.heap.size ≤ g ∧ Below w'.heap.size w' w'') := fun w' h' => rmmul_ok w' r c 1 n c r k d a b F X (HSa.out.later h') (HSb.out.later h') HR.out HX.out HC.out
  clear ha hb R
  go_enter Try.func26, Try.ntmps26
  go_wp2_with (first
    | (go_at_call 14; rw [← HW.out]; refine (right_yes _ _ _ _ _ _ HR.out.p).mono ?_; rintro e w1 ⟨rfl, hb1⟩; have HB1 : Hid (Below w.heap.size w w1) := two_below HB0.out hb1; have c0 := (HV0.out.later hb1).c0; have c1 := (HV0.out.later hb1).c1; have c2 := (HV0.out.later hb1).c2; clear hb1)
    | (go_at_call 24; refine (HMul.out _ HB1.out).mono ?_; rintro e w2 ⟨g, rfl, hr2, hg2, hb2⟩; have HR2 : Hid (RowAt w2 g 5 r (prk F X c 1 c)) := hr2; have HB2 : Hid (Below w.heap.size w w2) := two_below HB1.out hb2; have hgl : w.heap.size ≤ g := Nat.le_trans HB1.out.size hg2; clear hr2 hg2 hb2))
  go_ret2
  exact ⟨g, rfl, (HR2.out.later (alloc_low _ _)).congr (fun i _ => prk_apf F X c i), hgl, two_below HB2.out (alloc_low _ _)⟩
set_option maxRecDepth 20000 in
set_option maxHeartbeats 1000000 in
theorem rapply_bad (w : World) (r c : Int) (n k m d : Nat) (a b : Option Addr) (h : ¬ (RightP r c n ∧ (m : Int) = c)) :
    Calls Try.prog 26 #[mv r c a n k, .slice b m d] w fun e w' => e = .returned (.tuple #[.slice none 0 0, .int .i64 3]) ∧ Below w.heap.size w w' := by
  obtain ⟨wb, HW⟩ : ∃ wb, Hid (wb = w.alloc (.cells #[.int .i64 r, .int .i64 c, .slice a n k] 24)) := ⟨_, rfl⟩
  have HV0 : Hid (Vr wb w.heap.size (.int .i64 r) (.int .i64 c) (.slice a n k)) := by rw [HW.out]; exact Vr.new w _ _ _
  have HB0 : Hid (Below w.heap.size w wb) := by rw [HW.out]; exact alloc_low _ _
  by_cases h1 : RightP r c n
  · have h2 : (m : Int) ≠ c := fun e => h ⟨h1, e⟩
    have g1 : ((m : Int) != c) = true := by simpa using h2
    have H1 : Hid (RightP r c n) := h1
    clear h h1 h2
    go_enter Try.func26, Try.ntmps26
    go_wp2_with (go_at_call 14; rw [← HW.out]; refine (right_yes _ _ _ _ _ _ H1.out).mono ?_; rintro e w1 ⟨rfl, hb1⟩; have HB1 : Hid (Below w.heap.size w w1) := two_below HB0.out hb1; have c1 := (HV0.out.later hb1).c1; clear hb1)
    go_ret2
    exact ⟨rfl, HB1.out⟩
  · have H1 : Hid (¬ RightP r c n) := h1
    clear h h1
    go_enter Try.func26, Try.ntmps26
    go_wp2_with (go_at_call 14; rw [← HW.out]; refine (right_no _ _ _ _ _ _ H1.out).mono ?_; rintro e w1 ⟨rfl, hb1⟩; have HB1 : Hid (Below w.heap.size w w1) := two_below HB0.out hb1; clear hb1)
    go_ret2
    exact ⟨rfl, HB1.out⟩
end Go.Proofs.Ytaoehildaenbnaa
