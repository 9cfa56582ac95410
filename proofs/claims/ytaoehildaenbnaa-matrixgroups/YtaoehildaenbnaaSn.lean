/-
  Contracts of the matrices' reference: what fails in Pick.
-/
import Derived.Test.YtaoehildaenbnaaSm
namespace Go.Proofs.Ytaoehildaenbnaa
open Go.RowKit
/-- Two boxes: an argument and a result. -/
structure Box2 (w wb : World) (r c : Int) (n k : Nat) (a : Option Addr) : Prop where
  va : Vr wb w.heap.size (.int .i64 r) (.int .i64 c) (.slice a n k)
  vr : Vr wb (w.heap.size + 1) (.int .i64 0) (.int .i64 0) (.slice none 0 0)
  below : Below w.heap.size w wb
theorem box2 (w : World) (r c : Int) (n k : Nat) (a : Option Addr) : Box2 w ((w.alloc (.cells #[.int .i64 r, .int .i64 c, .slice a n k] 24)).alloc (.cells #[.int .i64 0, .int .i64 0, .slice none 0 0] 24)) r c n k a := by
  refine ⟨(Vr.new w _ _ _).later (alloc_low _ _), ?_, two_below (alloc_low _ _) (alloc_low _ _)⟩
  have := Vr.new (w.alloc (.cells #[.int .i64 r, .int .i64 c, .slice a n k] 24)) (.int .i64 0) (.int .i64 0) (.slice none 0 0)
  simpa using this
set_option maxRecDepth 20000 in
set_option maxHeartbeats 1000000 in
theorem rpick_shape (w : World) (r c : Int) (n k m d : Nat) (a b : Option Addr) (h : ¬ RightP r c n) :
    Calls Try.prog 34 #[mv r c a n k, .slice b m d] w fun e w' => e = .returned (.tuple #[mv 0 0 none 0 0, .int .i64 3]) ∧ Below w.heap.size w w' := by
  obtain ⟨wb, HW, HX⟩ : ∃ wb, Hid (wb = (w.alloc (.cells #[.int .i64 r, .int .i64 c, .slice a n k] 24)).alloc (.cells #[.int .i64 0, .int .i64 0, .slice none 0 0] 24)) ∧ Hid (Box2 w wb r c n k a) := ⟨_, rfl, box2 w r c n k a⟩
  have H1 : Hid (¬ RightP r c n) := h
  clear h
  go_enter Try.func34, Try.ntmps34
  go_wp2_with (first
    | (go_at_call 14; rw [← HW.out]; refine (right_no _ _ _ _ _ _ H1.out).mono ?_; rintro e w1 ⟨rfl, hb1⟩; have HV2 : Hid (Vr w1 (w.heap.size + 1) (.int .i64 0) (.int .i64 0) (.slice none 0 0)) := HX.out.vr.later hb1; have HBw : Hid (Below w.heap.size w w1) := two_below HX.out.below hb1; clear hb1)
    | (refine wpList_store_var rfl _ _ rfl (w.heap.size + 1) _ _ _ (.int .i64 0) (.int .i64 0) (.slice none 0 0) rfl rfl HV2.out rfl rfl rfl ?_; intro w4 HV4 HG4))
  have c0 := HV4.out.c0
  have c1 := HV4.out.c1
  have c2 := HV4.out.c2
  refine bodyPost_ret (v := .tuple #[mv 0 0 none 0 0, .int .i64 3]) (by simp [results, Try.results34, go_sem, c0, c1, c2, mv]) rfl ?_
  exact ⟨rfl, below_row HBw.out HG4.out (by omega)⟩
set_option maxRecDepth 20000 in
set_option maxHeartbeats 2000000 in
theorem rpick_arg (w : World) (r c n k m d t : Nat) (a b : Option Addr) (q : Nat → Int) (R : Rt r c n) (hm : m ≤ 140737488351232) (hb : Il w b m q) (ht : t < m) (hin : ∀ i, i < t → 0 ≤ q i ∧ q i < r) (hbad : ¬ (0 ≤ q t ∧ q t < r)) :
    Calls Try.prog 34 #[mv r c a n k, .slice b m d] w fun e w' => e = .returned (.tuple #[mv 0 0 none 0 0, .int .i64 2]) ∧ Below w.heap.size w w' := by
  obtain ⟨wb, HW, HX⟩ : ∃ wb, Hid (wb = (w.alloc (.cells #[.int .i64 (r : Int), .int .i64 (c : Int), .slice a n k] 24)).alloc (.cells #[.int .i64 0, .int .i64 0, .slice none 0 0] 24)) ∧ Hid (Box2 w wb r c n k a) := ⟨_, rfl, box2 w r c n k a⟩
  have HRt : Hid (Rt r c n) := R
  have HSb : Hid (Il w b m q) := hb
  have HZ : Hid (∀ i, i < t → 0 ≤ q i ∧ q i < r) := hin
  have HY : Hid (¬ (0 ≤ q t ∧ q t < r)) := hbad
  clear R hb hin hbad
  go_enter Try.func34, Try.ntmps34
  go_wp2_with (go_at_call 14; rw [← HW.out]; refine (right_yes _ _ _ _ _ _ HRt.out.p).mono ?_; rintro e w0 ⟨rfl, hb1⟩; have HB1 : Hid (Below wb.heap.size wb w0) := hb1; clear hb1)
  have HBw0 : Hid (Below w.heap.size w w0) := two_below HX.out.below HB1.out
  have HV0 : Hid (Vr w0 w.heap.size (.int .i64 (r : Int)) (.int .i64 (c : Int)) (.slice a n k)) := HX.out.va.later HB1.out
  have HR0 : Hid (Vr w0 (w.heap.size + 1) (.int .i64 0) (.int .i64 0) (.slice none 0 0)) := HX.out.vr.later HB1.out
  clear HW HX HB1
  go_loopw [6] (fun j wr => ∃ i : Nat, i ≤ t ∧ j = .int .i64 (i : Int) ∧ Below w0.heap.size w0 wr) (fun j _ => t - (intOf j).toNat)
  case atStart => exact ⟨0, by omega, rfl, Below.refl _ _⟩
  case round =>
    obtain ⟨i, hi, rfl, hbr⟩ := hrel
    have HB : Hid (Below w0.heap.size w0 wr) := hbr
    clear hbr
    have him : i < m := by omega
    obtain ⟨x, o, eb, hcell⟩ := HSb.out.later (two_below HBw0.out HB.out) i him
    have b0 := (HV0.out.later HB.out).c0
    by_cases hlt : i < t
    · obtain ⟨z1, z2⟩ := HZ.out i hlt
      obtain ⟨y, hy⟩ := Int.eq_ofNat_of_zero_le z1
      rw [hy] at hcell z2
      have g1 : decide ((y : Int) < 0) = false := by simp
      have g2 : decide (r ≤ y) = false := by simp; omega
      subst eb
      clear z1 hy
      go_wp2
      go_region
      go_wp2
      exact ⟨⟨i + 1, by omega, by go_num, by first | exact HB.out | exact HB.out.drew⟩, by simp [intOf]; omega⟩
    · obtain rfl : i = t := by omega
      obtain ⟨y, Hy⟩ : ∃ y, Hid (q i = y) := ⟨_, rfl⟩
      rw [Hy.out] at hcell
      have hbad := HY.out
      rw [Hy.out] at hbad
      have HVr : Hid (Vr wr (w.heap.size + 1) (.int .i64 0) (.int .i64 0) (.slice none 0 0)) := HR0.out.later HB.out
      have HBw : Hid (Below w.heap.size w wr) := two_below HBw0.out HB.out
      have HVd : Hid (Vr wr.drew (w.heap.size + 1) (.int .i64 0) (.int .i64 0) (.slice none 0 0)) := HVr.out
      have HBd : Hid (Below w.heap.size w wr.drew) := HBw.out.drew
      subst eb
      by_cases g0 : y < 0
      · have g1 : decide (y < 0) = true := by simpa using g0
        clear g0 hbad
        go_wp2
        go_region
        go_wp2_with (refine wpList_store_var rfl _ _ rfl (w.heap.size + 1) _ _ _ (.int .i64 0) (.int .i64 0) (.slice none 0 0) rfl rfl (by first | exact HVr.out | exact HVd.out) rfl rfl rfl ?_; intro w4 HV4 HG4)
        have c0 := HV4.out.c0
        have c1 := HV4.out.c1
        have c2 := HV4.out.c2
        refine bodyPost_ret (v := .tuple #[mv 0 0 none 0 0, .int .i64 2]) (by simp [results, Try.results34, go_sem, c0, c1, c2, mv]) rfl ?_
        exact ⟨rfl, below_row (by first | exact HBw.out | exact HBd.out) HG4.out (by omega)⟩
      · have g1 : decide (y < 0) = false := by simpa using g0
        have g2 : decide ((r : Int) ≤ y) = true := by simp; omega
        clear g0 hbad
        go_wp2
        go_region
        go_wp2_with (refine wpList_store_var rfl _ _ rfl (w.heap.size + 1) _ _ _ (.int .i64 0) (.int .i64 0) (.slice none 0 0) rfl rfl (by first | exact HVr.out | exact HVd.out) rfl rfl rfl ?_; intro w4 HV4 HG4)
        have c0 := HV4.out.c0
        have c1 := HV4.out.c1
        have c2 := HV4.out.c2
        refine bodyPost_ret (v := .tuple #[mv 0 0 none 0 0, .int .i64 2]) (by simp [results, Try.results34, go_sem, c0, c1, c2, mv]) rfl ?_
        exact ⟨rfl, below_row (by first | exact HBw.out | exact HBd.out) HG4.out (by omega)⟩
set_option maxRecDepth 20000 in
set_option maxHeartbeats 2000000 in
theorem rpick_limit (w : World) (r c n k m d : Nat) (a b : Option Addr) (q : Nat → Int) (R : Rt r c n) (hm : m ≤ 140737488351232) (hb : Il w b m q) (hin : ∀ i, i < m → 0 ≤ q i ∧ q i < r) (hl : 64 < m) :
    Calls Try.prog 34 #[mv r c a n k, .slice b m d] w fun e w' => e = .returned (.tuple #[mv 0 0 none 0 0, .int .i64 4]) ∧ Below w.heap.size w w' := by
  obtain ⟨wb, HW, HX⟩ : ∃ wb, Hid (wb = (w.alloc (.cells #[.int .i64 (r : Int), .int .i64 (c : Int), .slice a n k] 24)).alloc (.cells #[.int .i64 0, .int .i64 0, .slice none 0 0] 24)) ∧ Hid (Box2 w wb r c n k a) := ⟨_, rfl, box2 w r c n k a⟩
  have HRt : Hid (Rt r c n) := R
  have HSb : Hid (Il w b m q) := hb
  have HZ : Hid (∀ i, i < m → 0 ≤ q i ∧ q i < r) := hin
  clear R hb hin
  go_enter Try.func34, Try.ntmps34
  go_wp2_with (go_at_call 14; rw [← HW.out]; refine (right_yes _ _ _ _ _ _ HRt.out.p).mono ?_; rintro e w0 ⟨rfl, hb1⟩; have HB1 : Hid (Below wb.heap.size wb w0) := hb1; clear hb1)
  have HBw0 : Hid (Below w.heap.size w w0) := two_below HX.out.below HB1.out
  have HV0 : Hid (Vr w0 w.heap.size (.int .i64 (r : Int)) (.int .i64 (c : Int)) (.slice a n k)) := HX.out.va.later HB1.out
  have HR0 : Hid (Vr w0 (w.heap.size + 1) (.int .i64 0) (.int .i64 0) (.slice none 0 0)) := HX.out.vr.later HB1.out
  clear HW HX HB1
  go_loopw [6] (fun j wr => ∃ i : Nat, i ≤ m ∧ j = .int .i64 (i : Int) ∧ Below w0.heap.size w0 wr) (fun j _ => m - (intOf j).toNat)
  case atStart => exact ⟨0, by omega, rfl, Below.refl _ _⟩
  case round =>
    obtain ⟨i, hi, rfl, hbr⟩ := hrel
    have HB : Hid (Below w0.heap.size w0 wr) := hbr
    clear hbr
    by_cases hlt : i < m
    · obtain ⟨x, o, eb, hcell⟩ := HSb.out.later (two_below HBw0.out HB.out) i hlt
      have b0 := (HV0.out.later HB.out).c0
      obtain ⟨z1, z2⟩ := HZ.out i hlt
      obtain ⟨y, hy⟩ := Int.eq_ofNat_of_zero_le z1
      rw [hy] at hcell z2
      have g1 : decide ((y : Int) < 0) = false := by simp
      have g2 : decide (r ≤ y) = false := by simp; omega
      subst eb
      clear z1 hy
      go_wp2
      go_region
      go_wp2
      exact ⟨⟨i + 1, by omega, by go_num, by first | exact HB.out | exact HB.out.drew⟩, by simp [intOf]; omega⟩
    · obtain rfl : i = m := by omega
      have HVr : Hid (Vr wr (w.heap.size + 1) (.int .i64 0) (.int .i64 0) (.slice none 0 0)) := HR0.out.later HB.out
      have HBw : Hid (Below w.heap.size w wr) := two_below HBw0.out HB.out
      have g3 : decide (64 < i) = true := by simpa using hl
      go_wp2_with (refine wpList_store_var rfl _ _ rfl (w.heap.size + 1) _ _ _ (.int .i64 0) (.int .i64 0) (.slice none 0 0) rfl rfl HVr.out rfl rfl rfl ?_; intro w4 HV4 HG4)
      have c0 := HV4.out.c0
      have c1 := HV4.out.c1
      have c2 := HV4.out.c2
      refine bodyPost_ret (v := .tuple #[mv 0 0 none 0 0, .int .i64 4]) (by simp [results, Try.results34, go_sem, c0, c1, c2, mv]) rfl ?_
      exact ⟨rfl, below_row HBw.out HG4.out (by omega)⟩
end Go.Proofs.Ytaoehildaenbnaa
