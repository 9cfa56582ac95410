/-
  Contracts of the matrices' reference: what fails in Kron; Same.
-/
import Derived.Test.YtaoehildaenbnaaSi
namespace Go.Proofs.Ytaoehildaenbnaa
open Go.RowKit
/-- Three boxes: two arguments and a result. -/
structure Box3 (w wb : World) (r c r' c' : Int) (n k m d : Nat) (a b : Option Addr) : Prop where
  va : Vr wb w.heap.size (.int .i64 r) (.int .i64 c) (.slice a n k)
  vb : Vr wb (w.heap.size + 1) (.int .i64 r') (.int .i64 c') (.slice b m d)
  vr : Vr wb (w.heap.size + 1 + 1) (.int .i64 0) (.int .i64 0) (.slice none 0 0)
  below : Below w.heap.size w wb
theorem box3 (w : World) (r c r' c' : Int) (n k m d : Nat) (a b : Option Addr) : Box3 w (((w.alloc (.cells #[.int .i64 r, .int .i64 c, .slice a n k] 24)).alloc (.cells #[.int .i64 r', .int .i64 c', .slice b m d] 24)).alloc (.cells #[.int .i64 0, .int .i64 0, .slice none 0 0] 24)) r c r' c' n k m d a b := by
  refine ⟨((Vr.new w _ _ _).later (alloc_low _ _)).later (alloc_low _ _), ?_, ?_, two_below (two_below (alloc_low _ _) (alloc_low _ _)) (alloc_low _ _)⟩
  · have := (Vr.new (w.alloc (.cells #[.int .i64 r, .int .i64 c, .slice a n k] 24)) (.int .i64 r') (.int .i64 c') (.slice b m d)).later (alloc_low _ (.cells #[.int .i64 0, .int .i64 0, .slice none 0 0] 24))
    simpa using this
  · have := Vr.new ((w.alloc (.cells #[.int .i64 r, .int .i64 c, .slice a n k] 24)).alloc (.cells #[.int .i64 r', .int .i64 c', .slice b m d] 24)) (.int .i64 0) (.int .i64 0) (.slice none 0 0)
    simpa using this
set_option maxRecDepth 20000 in
set_option maxHeartbeats 2000000 in
theorem rkron_bad (w : World) (r c r' c' : Int) (n k m d : Nat) (a b : Option Addr) (h : ¬ (RightP r c n ∧ RightP r' c' m)) :
    Calls Try.prog 32 #[mv r c a n k, mv r' c' b m d] w fun e w' => e = .returned (.tuple #[mv 0 0 none 0 0, .int .i64 3]) ∧ Below w.heap.size w w' := by
  obtain ⟨wb, HW, HX⟩ : ∃ wb, Hid (wb = ((w.alloc (.cells #[.int .i64 r, .int .i64 c, .slice a n k] 24)).alloc (.cells #[.int .i64 r', .int .i64 c', .slice b m d] 24)).alloc (.cells #[.int .i64 0, .int .i64 0, .slice none 0 0] 24)) ∧ Hid (Box3 w wb r c r' c' n k m d a b) := ⟨_, rfl, box3 w r c r' c' n k m d a b⟩
  by_cases h1 : RightP r c n
  · have H1 : Hid (RightP r c n) := h1
    have H2 : Hid (¬ RightP r' c' m) := fun e => h ⟨h1, e⟩
    clear h h1
    go_enter Try.func32, Try.ntmps32
    go_wp2_with (first
      | (go_at_call 14; have _x := HB1; refine (right_no _ _ _ _ _ _ H2.out).mono ?_; rintro e w2 ⟨rfl, hb2⟩; have HB2 : Hid (Below wb.heap.size wb w2) := two_below HB1.out hb2; have HV2 : Hid (Vr w2 (w.heap.size + 1 + 1) (.int .i64 0) (.int .i64 0) (.slice none 0 0)) := HX.out.vr.later HB2.out; have HBw : Hid (Below w.heap.size w w2) := two_below HX.out.below HB2.out; clear hb2)
      | (go_at_call 14; rw [← HW.out]; refine (right_yes _ _ _ _ _ _ H1.out).mono ?_; rintro e w1 ⟨rfl, hb1⟩; have HB1 : Hid (Below wb.heap.size wb w1) := hb1; have b0 := (HX.out.vb.later hb1).c0; have b1 := (HX.out.vb.later hb1).c1; have b2 := (HX.out.vb.later hb1).c2; clear hb1)
      | (refine wpList_store_var rfl _ _ rfl (w.heap.size + 1 + 1) _ _ _ (.int .i64 0) (.int .i64 0) (.slice none 0 0) rfl rfl HV2.out rfl rfl rfl ?_; intro w4 HV4 HG4))
    have c0 := HV4.out.c0
    have c1 := HV4.out.c1
    have c2 := HV4.out.c2
    refine bodyPost_ret (v := .tuple #[mv 0 0 none 0 0, .int .i64 3]) (by simp [results, Try.results32, go_sem, c0, c1, c2, mv]) rfl ?_
    exact ⟨rfl, below_row HBw.out HG4.out (by omega)⟩
  · have H1 : Hid (¬ RightP r c n) := h1
    clear h h1
    go_enter Try.func32, Try.ntmps32
    go_wp2_with (first
      | (go_at_call 14; rw [← HW.out]; refine (right_no _ _ _ _ _ _ H1.out).mono ?_; rintro e w1 ⟨rfl, hb1⟩; have HV2 : Hid (Vr w1 (w.heap.size + 1 + 1) (.int .i64 0) (.int .i64 0) (.slice none 0 0)) := HX.out.vr.later hb1; have HBw : Hid (Below w.heap.size w w1) := two_below HX.out.below hb1; clear hb1)
      | (refine wpList_store_var rfl _ _ rfl (w.heap.size + 1 + 1) _ _ _ (.int .i64 0) (.int .i64 0) (.slice none 0 0) rfl rfl HV2.out rfl rfl rfl ?_; intro w4 HV4 HG4))
    have c0 := HV4.out.c0
    have c1 := HV4.out.c1
    have c2 := HV4.out.c2
    refine bodyPost_ret (v := .tuple #[mv 0 0 none 0 0, .int .i64 3]) (by simp [results, Try.results32, go_sem, c0, c1, c2, mv]) rfl ?_
    exact ⟨rfl, below_row HBw.out HG4.out (by omega)⟩
set_option maxRecDepth 20000 in
set_option maxHeartbeats 2000000 in
theorem rkron_limit (w : World) (ra ca rb cb na nb RR CC ka kb : Nat) (a b : Option Addr) (RA : Rt ra ca na) (RB : Rt rb cb nb) (eR : ra * rb = RR) (eC : ca * cb = CC) (hl : 64 < RR ∨ 64 < CC) :
    Calls Try.prog 32 #[mv ra ca a na ka, mv rb cb b nb kb] w fun e w' => e = .returned (.tuple #[mv 0 0 none 0 0, .int .i64 4]) ∧ Below w.heap.size w w' := by
  obtain ⟨wb, HW, HX⟩ : ∃ wb, Hid (wb = ((w.alloc (.cells #[.int .i64 (ra : Int), .int .i64 (ca : Int), .slice a na ka] 24)).alloc (.cells #[.int .i64 (rb : Int), .int .i64 (cb : Int), .slice b nb kb] 24)).alloc (.cells #[.int .i64 0, .int .i64 0, .slice none 0 0] 24)) ∧ Hid (Box3 w wb ra ca rb cb na ka nb kb a b) := ⟨_, rfl, box3 w ra ca rb cb na ka nb kb a b⟩
  have HRA : Hid (Rt ra ca na) := RA
  have HRB : Hid (Rt rb cb nb) := RB
  have lR : RR ≤ 4096 := by rw [← eR]; exact Nat.mul_le_mul RA.r64 RB.r64
  have lC : CC ≤ 4096 := by rw [← eC]; exact Nat.mul_le_mul RA.c64 RB.c64
  have eR' : (ra : Int) * (rb : Int) = (RR : Int) := by rw [← eR]; simp
  have eC' : (ca : Int) * (cb : Int) = (CC : Int) := by rw [← eC]; simp
  have wR : IntKind.i64.wrap (RR : Int) = (RR : Int) := by rw [IntKind.wrap_i64]; omega
  have wC : IntKind.i64.wrap (CC : Int) = (CC : Int) := by rw [IntKind.wrap_i64]; omega
  clear RA RB eR eC
  by_cases h1 : 64 < RR
  · clear hl
    go_enter Try.func32, Try.ntmps32
    go_wp2_with (first
      | (go_at_call 14; have _x := HB1; refine (right_yes _ _ _ _ _ _ HRB.out.p).mono ?_; rintro e w2 ⟨rfl, hb2⟩; have HB2 : Hid (Below wb.heap.size wb w2) := two_below HB1.out hb2; have a0 := (HX.out.va.later HB2.out).c0; have a1 := (HX.out.va.later HB2.out).c1; have b0 := (HX.out.vb.later HB2.out).c0; have b1 := (HX.out.vb.later HB2.out).c1; have HV2 : Hid (Vr w2 (w.heap.size + 1 + 1) (.int .i64 0) (.int .i64 0) (.slice none 0 0)) := HX.out.vr.later HB2.out; have HBw : Hid (Below w.heap.size w w2) := two_below HX.out.below HB2.out; clear hb2)
      | (go_at_call 14; rw [← HW.out]; refine (right_yes _ _ _ _ _ _ HRA.out.p).mono ?_; rintro e w1 ⟨rfl, hb1⟩; have HB1 : Hid (Below wb.heap.size wb w1) := hb1; have b0 := (HX.out.vb.later hb1).c0; have b1 := (HX.out.vb.later hb1).c1; have b2 := (HX.out.vb.later hb1).c2; clear hb1)
      | (refine wpList_store_var rfl _ _ rfl (w.heap.size + 1 + 1) _ _ _ (.int .i64 0) (.int .i64 0) (.slice none 0 0) rfl rfl HV2.out rfl rfl rfl ?_; intro w4 HV4 HG4))
    have c0 := HV4.out.c0
    have c1 := HV4.out.c1
    have c2 := HV4.out.c2
    refine bodyPost_ret (v := .tuple #[mv 0 0 none 0 0, .int .i64 4]) (by simp [results, Try.results32, go_sem, c0, c1, c2, mv]) rfl ?_
    exact ⟨rfl, below_row HBw.out HG4.out (by omega)⟩
  · have h2 : 64 < CC := by omega
    clear hl
    go_enter Try.func32, Try.ntmps32
    go_wp2_with (first
      | (go_at_call 14; have _x := HB1; refine (right_yes _ _ _ _ _ _ HRB.out.p).mono ?_; rintro e w2 ⟨rfl, hb2⟩; have HB2 : Hid (Below wb.heap.size wb w2) := two_below HB1.out hb2; have a0 := (HX.out.va.later HB2.out).c0; have a1 := (HX.out.va.later HB2.out).c1; have b0 := (HX.out.vb.later HB2.out).c0; have b1 := (HX.out.vb.later HB2.out).c1; have HV2 : Hid (Vr w2 (w.heap.size + 1 + 1) (.int .i64 0) (.int .i64 0) (.slice none 0 0)) := HX.out.vr.later HB2.out; have HBw : Hid (Below w.heap.size w w2) := two_below HX.out.below HB2.out; clear hb2)
      | (go_at_call 14; rw [← HW.out]; refine (right_yes _ _ _ _ _ _ HRA.out.p).mono ?_; rintro e w1 ⟨rfl, hb1⟩; have HB1 : Hid (Below wb.heap.size wb w1) := hb1; have b0 := (HX.out.vb.later hb1).c0; have b1 := (HX.out.vb.later hb1).c1; have b2 := (HX.out.vb.later hb1).c2; clear hb1)
      | (refine wpList_store_var rfl _ _ rfl (w.heap.size + 1 + 1) _ _ _ (.int .i64 0) (.int .i64 0) (.slice none 0 0) rfl rfl HV2.out rfl rfl rfl ?_; intro w4 HV4 HG4))
    have c0 := HV4.out.c0
    have c1 := HV4.out.c1
    have c2 := HV4.out.c2
    refine bodyPost_ret (v := .tuple #[mv 0 0 none 0 0, .int .i64 4]) (by simp [results, Try.results32, go_sem, c0, c1, c2, mv]) rfl ?_
    exact ⟨rfl, below_row HBw.out HG4.out (by omega)⟩
end Go.Proofs.Ytaoehildaenbnaa
