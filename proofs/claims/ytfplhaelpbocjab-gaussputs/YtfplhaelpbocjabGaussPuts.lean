/-
  Proved: for every matrix m and every list of factors what Combine answers, put together, is what was put together, and it answers for each combination of the rows (P4.6); no condition.
-/
import Derived.Test.YtfplhaelpbocjabGp
import Derived.WalkKit
import Derived.SizedLaws
import Derived.ProofKit
import Derived.OpenShut
import Derived.ShutString
import Derived.ChangeOld
import Derived.Below
import Derived.Lib.SmallJoins
import Derived.Deep.Matrix
namespace Go.Proofs.Ytfplhaelpbocjab.gaussPuts
open Go.ChangeShapes Go.WideShapes Go.ChangeAt Go.RowKit Go.Joins
set_option linter.unusedVariables false
theorem own : ownKnob Try.prog.godebug = none := by kernel_rfl
theorem laidOut : laidOutB Try.prog = true := by kernel_rfl
/-- A slice of integers that came in. -/
def IsRow (k : IntKind) (w : World) (a : Option Addr) (len cap : Nat) (zs : List Int) : Prop :=
  (a = none ∧ len = 0 ∧ cap = 0 ∧ zs = []) ∨
  ∃ x, a = some x ∧ len ≤ cap ∧ cap ≤ 140737488351232 ∧ zs.length = cap ∧ (∀ i, i < zs.length → w.cell? (x.add i) = some (.int k (zs.getD i 0))) ∧ ∀ n ∈ zs, (Lit.int k n).wf = true
/-- A slice of slices of bytes that came in. -/
def IsRows (w : World) (a : Option Addr) (len cap : Nat) : Prop :=
  (a = none ∧ len = 0 ∧ cap = 0) ∨
  ∃ x, a = some x ∧ len ≤ cap ∧ cap ≤ 140737488351232 ∧ ∀ r, r < cap → ∃ b l c zs, w.cell? (x.add r) = some (.slice b l c) ∧ IsRow .u8 w b l c zs
theorem sized_in {H : Type} {P : Program} {ts : List TypeId} {ds : List (DataW H)} (h : (DataW.weightsEach P ts ds).all (· ≤ reachBytes) = true) {j : Nat} {t : TypeId} {d : DataW H} (ht : ts[j]? = some t) (hd : ds[j]? = some d) : (d.weights P t).all (· ≤ reachBytes) = true :=
  List.all_eq_true.2 fun n hn => List.all_eq_true.1 h n (DataW.weights_mem_each ht hd n hn)
theorem sized_all {H : Type} {P : Program} {e : TypeId} : ∀ {ds : List (DataW H)}, (DataW.weightsAll P e ds).all (· ≤ reachBytes) = true → ∀ d ∈ ds, (d.weights P e).all (· ≤ reachBytes) = true
  | [], _, d, hd => by simp at hd
  | d0 :: r, h, d, hd => by
    simp only [DataW.weightsAll, List.all_append, Bool.and_eq_true] at h
    rcases List.mem_cons.1 hd with rfl | hd
    · exact h.1
    · exact sized_all h.2 d hd
theorem cellsM : Try.prog.cellsOf 24 = 3 := by kernel_rfl

set_option maxRecDepth 20000 in
set_option maxHeartbeats 8000000 in
theorem walk (r0 c0 : Int) (a0 : Option Addr) (len0 cap0 : Nat) (z0 : List Int) (a1 : Option Addr) (len1 cap1 : Nat) (z1 : List Int) (w : World) (u0 : (Lit.int .i64 r0).wf = true) (v0 : (Lit.int .i64 c0).wf = true) (w0 : IsRow .u8 w a0 len0 cap0 z0) (w1 : IsRow .u8 w a1 len1 cap1 z1) :
    Calls Try.prog 4 #[.agg #[.int .i64 r0, .int .i64 c0, .slice a0 len0 cap0], .slice a1 len1 cap1] w fun e w' => e = .returned (.bool true) ∧ Below w.heap.size w w' := by
  obtain ⟨F, hM, hn⟩ := mt_of_row w a0 len0 cap0 z0 w0
  have HM : Hid (Mt w a0 len0 cap0 F) := hM
  clear w0 u0 v0 hn
  obtain ⟨X, hX, hn1⟩ := mt_of_row w a1 len1 cap1 z1 w1
  have HX : Hid (Mt w a1 len1 cap1 X) := hX
  clear w1 hn1
  obtain ⟨wb, HW⟩ : ∃ wb, Hid (wb = w.alloc (.cells #[.int .i64 r0, .int .i64 c0, .slice a0 len0 cap0] 24)) := ⟨_, rfl⟩
  have HVa : Hid (Vr wb w.heap.size (.int .i64 r0) (.int .i64 c0) (.slice a0 len0 cap0)) := by show Vr _ _ _ _ _; rw [HW.out]; exact Vr.new _ _ _ _
  have HB_0 : Hid (Below w.heap.size w wb) := by rw [HW.out]; exact alloc_low _ _
  have HF_m_0 : Hid (Mt wb a0 len0 cap0 F) := HM.out.later HB_0.out
  have HF_b_0 : Hid (Mt wb a1 len1 cap1 X) := HX.out.later HB_0.out
  by_cases h : RightP r0 c0 len0
  · obtain ⟨r, c, rfl, rfl, R⟩ := right_rt h
    have HR : Hid (Rt r c len0) := R
    have HEl : Hid (El2 (m2 F r c)) := m2_el hM.sl.1 R
    have HFl : Hid (∀ i, i < len0 → F i < 256) := hM.sl.1
    have hr := R.r64
    have hc := R.c64
    by_cases hl : len1 = r
    · have hl2 : r = len1 := hl.symm
      subst hl2
      have HXl : Hid (∀ i, i < r → X i < 256) := hX.sl.1
      have HSp : Hid (Spn (m2 F r c) r (ext0 (apf (trf F r c) X r) c)) := puts_spn HFl.out HR.out HXl.out
      obtain ⟨Y, HY⟩ : ∃ y, Hid (apf (trf F r c) X r = y) := ⟨_, rfl⟩
      rw [HY.out] at HSp
      clear hl h R hM hX
      have HV_m_0 : Hid (Vr wb w.heap.size (.int .i64 (r : Int)) (.int .i64 (c : Int)) (.slice a0 len0 cap0)) := HVa.out
      have l_m_0_0 := HV_m_0.out.c0
      have l_m_1_0 := HV_m_0.out.c1
      have l_m_2_0 := HV_m_0.out.c2
      go_enter Try.func4, Try.ntmps4
      go_wp2_with (first
        | (go_at_call 18; have _x := HB_6; refine (same_low _ _ _ c _ _ Y Y HF_z_6.out HF_y_6.out (fun _ _ => rfl)).mono ?_; rintro e w7 ⟨rfl, hb⟩; have HB_7 : Hid (Below w.heap.size w w7) := two_below HB_6.out hb; have HV_m_7 : Hid (Vr w7 w.heap.size (.int .i64 (r : Int)) (.int .i64 (c : Int)) (.slice a0 len0 cap0)) := HV_m_6.out.later hb; have HV_t_7 : Hid (Vr w7 w2.heap.size (.int .i64 (c : Int)) (.int .i64 (r : Int)) (.slice s1 len0 d1)) := HV_t_6.out.later hb; have HF_m_7 : Hid (Mt w7 a0 len0 cap0 F) := HF_m_6.out.later hb; have HF_b_7 : Hid (Mt w7 a1 r cap1 X) := HF_b_6.out.later hb; have HF_t_7 : Hid (Mt w7 s1 len0 d1 (trf F r c)) := HF_t_6.out.later hb; have HF_y_7 : Hid (Mt w7 (some ⟨g2, 0, none⟩) c c Y) := HF_y_6.out.later hb; have HF_x_7 : Hid (Mt w7 s3 r d3 x) := HF_x_6.out.later hb; have HF_z_7 : Hid (Mt w7 (some ⟨g4, 0, none⟩) c c Y) := HF_z_6.out.later hb; clear hb HV_m_6 HV_t_6 HF_m_6 HF_b_6 HF_t_6 HF_y_6 HF_x_6 HF_z_6)
        | (go_at_call 10; have _x := HB_5; refine (anch4_any _).mono ?_; rintro e w6 ⟨rfl, hb⟩; have HB_6 : Hid (Below w.heap.size w w6) := two_below HB_5.out hb; have HV_m_6 : Hid (Vr w6 w.heap.size (.int .i64 (r : Int)) (.int .i64 (c : Int)) (.slice a0 len0 cap0)) := HV_m_5.out.later hb; have HV_t_6 : Hid (Vr w6 w2.heap.size (.int .i64 (c : Int)) (.int .i64 (r : Int)) (.slice s1 len0 d1)) := HV_t_5.out.later hb; have HF_m_6 : Hid (Mt w6 a0 len0 cap0 F) := HF_m_5.out.later hb; have HF_b_6 : Hid (Mt w6 a1 r cap1 X) := HF_b_5.out.later hb; have HF_t_6 : Hid (Mt w6 s1 len0 d1 (trf F r c)) := HF_t_5.out.later hb; have HF_y_6 : Hid (Mt w6 (some ⟨g2, 0, none⟩) c c Y) := HF_y_5.out.later hb; have HF_x_6 : Hid (Mt w6 s3 r d3 x) := HF_x_5.out.later hb; have HF_z_6 : Hid (Mt w6 (some ⟨g4, 0, none⟩) c c Y) := HF_z_5.out.later hb; clear hb HV_m_5 HV_t_5 HF_m_5 HF_b_5 HF_t_5 HF_y_5 HF_x_5 HF_z_5)
        | (go_at_call 17; have _x := HB_4; refine (rapply_ok _ c r len0 d1 d3 s1 s3 (trf F r c) x HF_t_4.out.sl HF_x_4.out.sl HR.out.turn).mono ?_; rintro e w5 ⟨g4, rfl, hr4, _, hb⟩; have HZ : Hid (RowAt w5 g4 5 c Y) := hr4.congr HXa.out; have HB_5 : Hid (Below w.heap.size w w5) := two_below HB_4.out hb; have HV_m_5 : Hid (Vr w5 w.heap.size (.int .i64 (r : Int)) (.int .i64 (c : Int)) (.slice a0 len0 cap0)) := HV_m_4.out.later hb; have HV_t_5 : Hid (Vr w5 w2.heap.size (.int .i64 (c : Int)) (.int .i64 (r : Int)) (.slice s1 len0 d1)) := HV_t_4.out.later hb; have HF_m_5 : Hid (Mt w5 a0 len0 cap0 F) := HF_m_4.out.later hb; have HF_b_5 : Hid (Mt w5 a1 r cap1 X) := HF_b_4.out.later hb; have HF_t_5 : Hid (Mt w5 s1 len0 d1 (trf F r c)) := HF_t_4.out.later hb; have HF_y_5 : Hid (Mt w5 (some ⟨g2, 0, none⟩) c c Y) := HF_y_4.out.later hb; have HF_x_5 : Hid (Mt w5 s3 r d3 x) := HF_x_4.out.later hb; have HF_z_5 : Hid (Mt w5 (some ⟨g4, 0, none⟩) c c Y) := HZ.out.mt HYl.out; clear hr4 HZ; have l_m_0_5 := HV_m_5.out.c0; have l_m_1_5 := HV_m_5.out.c1; have l_m_2_5 := HV_m_5.out.c2; have l_t_0_5 := HV_t_5.out.c0; have l_t_1_5 := HV_t_5.out.c1; have l_t_2_5 := HV_t_5.out.c2; clear hb HV_m_4 HV_t_4 HF_m_4 HF_b_4 HF_t_4 HF_y_4 HF_x_4)
        | (go_at_call 15; have _x := HB_3; refine (gcomb_yes _ r c len0 cap0 c a0 (some ⟨g2, 0, none⟩) F Y HF_m_3.out HR.out HF_y_3.out.sl HSp.out).mono ?_; rintro e w4 ⟨s3, d3, x, rfl, hm, hs, hb⟩; have HB_4 : Hid (Below w.heap.size w w4) := two_below HB_3.out hb; have HV_m_4 : Hid (Vr w4 w.heap.size (.int .i64 (r : Int)) (.int .i64 (c : Int)) (.slice a0 len0 cap0)) := HV_m_3.out.later hb; have HV_t_4 : Hid (Vr w4 w2.heap.size (.int .i64 (c : Int)) (.int .i64 (r : Int)) (.slice s1 len0 d1)) := HV_t_3.out.later hb; have HF_m_4 : Hid (Mt w4 a0 len0 cap0 F) := HF_m_3.out.later hb; have HF_b_4 : Hid (Mt w4 a1 r cap1 X) := HF_b_3.out.later hb; have HF_t_4 : Hid (Mt w4 s1 len0 d1 (trf F r c)) := HF_t_3.out.later hb; have HF_y_4 : Hid (Mt w4 (some ⟨g2, 0, none⟩) c c Y) := HF_y_3.out.later hb; have HF_x_4 : Hid (Mt w4 s3 r d3 x) := hm; have HXa : Hid (∀ j, j < c → apf (trf F r c) x r j = Y j) := puts_back HFl.out HR.out hs; clear hm hs; have l_m_0_4 := HV_m_4.out.c0; have l_m_1_4 := HV_m_4.out.c1; have l_m_2_4 := HV_m_4.out.c2; have l_t_0_4 := HV_t_4.out.c0; have l_t_1_4 := HV_t_4.out.c1; have l_t_2_4 := HV_t_4.out.c2; clear hb HV_m_3 HV_t_3 HF_m_3 HF_b_3 HF_t_3 HF_y_3)
        | (go_at_call 17; have _x := HB_2; refine (rapply_ok _ c r len0 d1 cap1 s1 a1 (trf F r c) X HF_t_2.out.sl HF_b_2.out.sl HR.out.turn).mono ?_; rintro e w3 ⟨g2, rfl, hr2, _, hb⟩; rw [HY.out] at hr2; have HYl : Hid (∀ i, i < c → Y i < 256) := (by rw [← HY.out]; exact apf_lt X (trf_lt HFl.out HR.out) HR.out.turn); have HB_3 : Hid (Below w.heap.size w w3) := two_below HB_2.out hb; have HV_m_3 : Hid (Vr w3 w.heap.size (.int .i64 (r : Int)) (.int .i64 (c : Int)) (.slice a0 len0 cap0)) := HV_m_2.out.later hb; have HV_t_3 : Hid (Vr w3 w2.heap.size (.int .i64 (c : Int)) (.int .i64 (r : Int)) (.slice s1 len0 d1)) := HV_t_2.out.later hb; have HF_m_3 : Hid (Mt w3 a0 len0 cap0 F) := HF_m_2.out.later hb; have HF_b_3 : Hid (Mt w3 a1 r cap1 X) := HF_b_2.out.later hb; have HF_t_3 : Hid (Mt w3 s1 len0 d1 (trf F r c)) := HF_t_2.out.later hb; have HF_y_3 : Hid (Mt w3 (some ⟨g2, 0, none⟩) c c Y) := hr2.mt HYl.out; clear hr2; have l_m_0_3 := HV_m_3.out.c0; have l_m_1_3 := HV_m_3.out.c1; have l_m_2_3 := HV_m_3.out.c2; have l_t_0_3 := HV_t_3.out.c0; have l_t_1_3 := HV_t_3.out.c1; have l_t_2_3 := HV_t_3.out.c2; clear hb HV_m_2 HV_t_2 HF_m_2 HF_b_2 HF_t_2)
        | (go_at_call 16; have _x := HB_1; refine (rtrans_ok _ r c len0 cap0 a0 F HF_m_1.out.sl HR.out).mono ?_; rintro e w2 ⟨s1, d1, rfl, ho, hb⟩; have HB_2 : Hid (Below w.heap.size w (w2.alloc (.cells #[.int .i64 (c : Int), .int .i64 (r : Int), .slice s1 len0 d1] 24))) := two_below (two_below HB_1.out hb) (alloc_low _ _); have HV_m_2 : Hid (Vr (w2.alloc (.cells #[.int .i64 (c : Int), .int .i64 (r : Int), .slice s1 len0 d1] 24)) w.heap.size (.int .i64 (r : Int)) (.int .i64 (c : Int)) (.slice a0 len0 cap0)) := (HV_m_1.out.later hb).later (alloc_low _ _); have HF_m_2 : Hid (Mt (w2.alloc (.cells #[.int .i64 (c : Int), .int .i64 (r : Int), .slice s1 len0 d1] 24)) a0 len0 cap0 F) := (HF_m_1.out.later hb).later (alloc_low _ _); have HF_b_2 : Hid (Mt (w2.alloc (.cells #[.int .i64 (c : Int), .int .i64 (r : Int), .slice s1 len0 d1] 24)) a1 r cap1 X) := (HF_b_1.out.later hb).later (alloc_low _ _); have HV_t_2 : Hid (Vr (w2.alloc (.cells #[.int .i64 (c : Int), .int .i64 (r : Int), .slice s1 len0 d1] 24)) w2.heap.size (.int .i64 (c : Int)) (.int .i64 (r : Int)) (.slice s1 len0 d1)) := Vr.new w2 _ _ _; have HF_t_2 : Hid (Mt (w2.alloc (.cells #[.int .i64 (c : Int), .int .i64 (r : Int), .slice s1 len0 d1] 24)) s1 len0 d1 (trf F r c)) := (own_mt4 ho (trf_lt HFl.out HR.out)).later (alloc_low _ _); clear ho; have l_m_0_2 := HV_m_2.out.c0; have l_m_1_2 := HV_m_2.out.c1; have l_m_2_2 := HV_m_2.out.c2; have l_t_0_2 := HV_t_2.out.c0; have l_t_1_2 := HV_t_2.out.c1; have l_t_2_2 := HV_t_2.out.c2; clear hb HV_m_1 HF_m_1 HF_b_1)
        | (go_at_call 9; rw [← HW.out]; refine (right_yes _ _ _ _ _ _ HR.out.p).mono ?_; rintro e w1 ⟨rfl, hb⟩; have HB_1 : Hid (Below w.heap.size w w1) := two_below HB_0.out hb; have HV_m_1 : Hid (Vr w1 w.heap.size (.int .i64 (r : Int)) (.int .i64 (c : Int)) (.slice a0 len0 cap0)) := HV_m_0.out.later hb; have HF_m_1 : Hid (Mt w1 a0 len0 cap0 F) := HF_m_0.out.later hb; have HF_b_1 : Hid (Mt w1 a1 r cap1 X) := HF_b_0.out.later hb; have l_m_0_1 := HV_m_1.out.c0; have l_m_1_1 := HV_m_1.out.c1; have l_m_2_1 := HV_m_1.out.c2; clear hb HV_m_0 HF_m_0 HF_b_0))
      go_ret
      exact ⟨rfl, HB_7.out⟩
    · have hne : ((len1 : Int) != (r : Int)) = true := by simp; omega
      clear h R hM hX hl
      have HV_m_0 : Hid (Vr wb w.heap.size (.int .i64 (r : Int)) (.int .i64 (c : Int)) (.slice a0 len0 cap0)) := HVa.out
      have l_m_0_0 := HV_m_0.out.c0
      have l_m_1_0 := HV_m_0.out.c1
      have l_m_2_0 := HV_m_0.out.c2
      go_enter Try.func4, Try.ntmps4
      go_wp2_with (first
        | (go_at_call 10; have _x := HB_2; refine (anch4_any _).mono ?_; rintro e w3 ⟨rfl, hb⟩; have HB_3 : Hid (Below w.heap.size w w3) := two_below HB_2.out hb; have HV_m_3 : Hid (Vr w3 w.heap.size (.int .i64 (r : Int)) (.int .i64 (c : Int)) (.slice a0 len0 cap0)) := HV_m_2.out.later hb; have HF_m_3 : Hid (Mt w3 a0 len0 cap0 F) := HF_m_2.out.later hb; have HF_b_3 : Hid (Mt w3 a1 len1 cap1 X) := HF_b_2.out.later hb; clear hb HV_m_2 HF_m_2 HF_b_2)
        | (go_at_call 15; have _x := HB_1; refine (gcomb_bad _ 1 0 0 0 1 1 none _ (fun _ => 0) (Mt.none _ _) (fun e => absurd e.2 (by decide))).mono ?_; rintro e w2 ⟨rfl, hb⟩; have hb := two_below (alloc_low _ _) hb; have HB_2 : Hid (Below w.heap.size w w2) := two_below HB_1.out hb; have HV_m_2 : Hid (Vr w2 w.heap.size (.int .i64 (r : Int)) (.int .i64 (c : Int)) (.slice a0 len0 cap0)) := HV_m_1.out.later hb; have HF_m_2 : Hid (Mt w2 a0 len0 cap0 F) := HF_m_1.out.later hb; have HF_b_2 : Hid (Mt w2 a1 len1 cap1 X) := HF_b_1.out.later hb; have l_m_0_2 := HV_m_2.out.c0; have l_m_1_2 := HV_m_2.out.c1; have l_m_2_2 := HV_m_2.out.c2; clear hb HV_m_1 HF_m_1 HF_b_1)
        | (go_at_call 9; rw [← HW.out]; refine (right_yes _ _ _ _ _ _ HR.out.p).mono ?_; rintro e w1 ⟨rfl, hb⟩; have HB_1 : Hid (Below w.heap.size w w1) := two_below HB_0.out hb; have HV_m_1 : Hid (Vr w1 w.heap.size (.int .i64 (r : Int)) (.int .i64 (c : Int)) (.slice a0 len0 cap0)) := HV_m_0.out.later hb; have HF_m_1 : Hid (Mt w1 a0 len0 cap0 F) := HF_m_0.out.later hb; have HF_b_1 : Hid (Mt w1 a1 len1 cap1 X) := HF_b_0.out.later hb; have l_m_0_1 := HV_m_1.out.c0; have l_m_1_1 := HV_m_1.out.c1; have l_m_2_1 := HV_m_1.out.c2; clear hb HV_m_0 HF_m_0 HF_b_0))
      go_ret
      exact ⟨rfl, HB_3.out⟩
  · have H1 : Hid (¬ RightP r0 c0 len0) := h
    clear h hM hX
    have HV_m_0 : Hid (Vr wb w.heap.size (.int .i64 r0) (.int .i64 c0) (.slice a0 len0 cap0)) := HVa.out
    have l_m_0_0 := HV_m_0.out.c0
    have l_m_1_0 := HV_m_0.out.c1
    have l_m_2_0 := HV_m_0.out.c2
    go_enter Try.func4, Try.ntmps4
    go_wp2_with (first
      | (go_at_call 10; have _x := HB_2; refine (anch4_any _).mono ?_; rintro e w3 ⟨rfl, hb⟩; have HB_3 : Hid (Below w.heap.size w w3) := two_below HB_2.out hb; have HV_m_3 : Hid (Vr w3 w.heap.size (.int .i64 r0) (.int .i64 c0) (.slice a0 len0 cap0)) := HV_m_2.out.later hb; have HF_m_3 : Hid (Mt w3 a0 len0 cap0 F) := HF_m_2.out.later hb; have HF_b_3 : Hid (Mt w3 a1 len1 cap1 X) := HF_b_2.out.later hb; clear hb HV_m_2 HF_m_2 HF_b_2)
      | (go_at_call 15; have _x := HB_1; refine (gcomb_bad _ 1 0 0 0 1 1 none _ (fun _ => 0) (Mt.none _ _) (fun e => absurd e.2 (by decide))).mono ?_; rintro e w2 ⟨rfl, hb⟩; have hb := two_below (alloc_low _ _) hb; have HB_2 : Hid (Below w.heap.size w w2) := two_below HB_1.out hb; have HV_m_2 : Hid (Vr w2 w.heap.size (.int .i64 r0) (.int .i64 c0) (.slice a0 len0 cap0)) := HV_m_1.out.later hb; have HF_m_2 : Hid (Mt w2 a0 len0 cap0 F) := HF_m_1.out.later hb; have HF_b_2 : Hid (Mt w2 a1 len1 cap1 X) := HF_b_1.out.later hb; have l_m_0_2 := HV_m_2.out.c0; have l_m_1_2 := HV_m_2.out.c1; have l_m_2_2 := HV_m_2.out.c2; clear hb HV_m_1 HF_m_1 HF_b_1)
      | (go_at_call 9; rw [← HW.out]; refine (right_no _ _ _ _ _ _ H1.out).mono ?_; rintro e w1 ⟨rfl, hb⟩; have HB_1 : Hid (Below w.heap.size w w1) := two_below HB_0.out hb; have HV_m_1 : Hid (Vr w1 w.heap.size (.int .i64 r0) (.int .i64 c0) (.slice a0 len0 cap0)) := HV_m_0.out.later hb; have HF_m_1 : Hid (Mt w1 a0 len0 cap0 F) := HF_m_0.out.later hb; have HF_b_1 : Hid (Mt w1 a1 len1 cap1 X) := HF_b_0.out.later hb; have l_m_0_1 := HV_m_1.out.c0; have l_m_1_1 := HV_m_1.out.c1; have l_m_2_1 := HV_m_1.out.c2; clear hb HV_m_0 HF_m_0 HF_b_0))
    go_ret
    exact ⟨rfl, HB_3.out⟩
set_option maxRecDepth 100000 in
set_option maxHeartbeats 2000000 in
theorem lifted (os : Os) (started : os.Started) (H : Type) (enc : TypeId × Value → H) :
    ReturnsInHanded {} Try.checked os 4 .any (Rows.gaussPutsSpec.pre6 enc Try.prog Try.f4 Rows.gaussPutsRow.domain false) (Rows.gaussPutsSpec.post enc Try.prog Try.f4 false true false false) := by
  refine returnsInHanded_of_change_sized (C := Try.checked) own started (by kernel_rfl) Try.func4
    (ChangeSpec.witness6 (enc := enc) (C := Try.checked) false ⟨#[], #[.agg #[.int .i64 0, .int .i64 0, .slice none 0 0], .slice none 0 0], []⟩ 8 (by kernel_rfl) (by kernel_rfl) (by kernel_rfl) (by kernel_rfl)) ?_
  intro W base args ds gs before hval0 hW hcnd hsz0 _
  have hsz : (DataW.weightsEach Try.prog (Try.f4.params.toList ++ Rows.gaussPutsSpec.plain.varTypes Try.prog) (ds ++ gs)).all (· ≤ reachBytes) = true := hsz0
  clear hsz0
  have hval : ∀ (j : Nat) t v, Try.f4.params[j]? = some t → args[j]? = some v → Value.okWide Try.prog W .any base t v := hval0
  have hW' := hW
  obtain ⟨p, q, hA0, hV, rfl, hfz, hnd⟩ := hW
  have hA : DataW.TrodAll enc Try.prog W 0 (fun _ => true) true Try.f4.params.toList args.toList ds p := hA0
  rw [Try.params4] at hA hval hsz
  obtain ⟨va0, vs0, d0, ds0, p0, q0, hargs, rfl, rfl, h0, tr0⟩ := trodAll_cons hA
  obtain ⟨va1, vs1, d1, ds1, p1, q1, rfl, rfl, rfl, h1, tr1⟩ := trodAll_cons tr0
  obtain ⟨rfl, rfl, rfl⟩ := trodAll_nil tr1
  obtain rfl : args = #[va0, va1] := by cases args; simp_all
  obtain ⟨rfl, rfl⟩ := trodVars_none hV
  have k0 := h0
  have lt0 : ∀ x ∈ p0, x.block < W.heap.size := by obtain ⟨m, hm⟩ := k0; exact DataW.trod_lt m _ _ _ hm
  obtain ⟨f0, g0, s0, y0, x0, e0, m0, rfl, rfl, rfl, hf0, hg0, hs0⟩ := open_agg3 Try.underlying24 (by kernel_rfl) cellsM (hval 0 24 va0 rfl rfl) h0
  obtain ⟨r0, er0, rfl, u0⟩ := DataW.trod_int Try.underlying3 hf0
  obtain ⟨c0, ec0, rfl, v0⟩ := DataW.trod_int Try.underlying3 hg0
  simp only [List.cons.injEq, and_true] at er0 ec0
  subst er0 ec0
  obtain ⟨a0, len0, cap0, rfl⟩ : ∃ a l c, s0 = .slice a l c := by
    rcases open_ints Try.underlying22 Try.underlying5 (by kernel_rfl) hs0 with ⟨hcs, _⟩ | ⟨x, l, c, zs, hcs, _⟩
    · simp only [List.cons.injEq, and_true] at hcs; exact ⟨_, _, _, hcs⟩
    · simp only [List.cons.injEq, and_true] at hcs; exact ⟨_, _, _, hcs⟩
  obtain ⟨z0, w0⟩ : ∃ zs, IsRow .u8 W a0 len0 cap0 zs := by
    obtain ⟨fuel, hf⟩ := (⟨m0, hs0⟩ : ∃ fuel, DataW.trod enc Try.prog W 0 (fun _ => true) true fuel 22 [.slice a0 len0 cap0] = some e0)
    rcases open_ints Try.underlying22 Try.underlying5 (by kernel_rfl) hf with ⟨hcs, _⟩ | ⟨x, l, c, zs, hcs, _, hl, hm, hz, hxx, hcell, hwz⟩
    · simp at hcs
      obtain ⟨rfl, rfl, rfl⟩ := hcs
      exact ⟨[], .inl ⟨rfl, rfl, rfl, rfl⟩⟩
    · simp at hcs
      obtain ⟨rfl, rfl, rfl⟩ := hcs
      have hd := congrArg Prod.fst hxx
      have hs := sized_slice (sized_in hsz (j := 0) (t := 24) rfl rfl) (j := 2) (t := 22) (e := 5) rfl (congrArg some hd) Try.underlying22
      rw [show Try.prog.bytesOf 5 = 1 from by kernel_rfl] at hs
      have hzl : zs.length = cap0 := by simpa using hz
      simp only [lits, List.length_map, List.length_take, List.length_drop, reachBytes] at hs
      exact ⟨zs, .inr ⟨_, rfl, hl, by omega, by simpa using hz, hcell, hwz⟩⟩
  have k1 := h1
  have lt1 : ∀ x ∈ p1, x.block < W.heap.size := by obtain ⟨m, hm⟩ := k1; exact DataW.trod_lt m _ _ _ hm
  obtain ⟨a1, len1, cap1, rfl⟩ := okWide_slice Try.underlying22 (hval 1 22 va1 rfl rfl)
  obtain ⟨z1, w1⟩ : ∃ zs, IsRow .u8 W a1 len1 cap1 zs := by
    obtain ⟨fuel, hf⟩ := h1
    rcases open_ints Try.underlying22 Try.underlying5 (by kernel_rfl) hf with ⟨hcs, _⟩ | ⟨x, l, c, zs, hcs, _, hl, hm, hz, hxx, hcell, hwz⟩
    · simp [Value.cells] at hcs
      obtain ⟨rfl, rfl, rfl⟩ := hcs
      exact ⟨[], .inl ⟨rfl, rfl, rfl, rfl⟩⟩
    · simp [Value.cells] at hcs
      obtain ⟨rfl, rfl, rfl⟩ := hcs
      have hd := congrArg Prod.fst hxx
      have hs := sized_slice hsz (j := 1) (t := 22) (e := 5) rfl (congrArg some hd) Try.underlying22
      rw [show Try.prog.bytesOf 5 = 1 from by kernel_rfl] at hs
      have hzl : zs.length = cap1 := by simpa using hz
      simp only [lits, List.length_map, List.length_take, List.length_drop, reachBytes] at hs
      exact ⟨zs, .inr ⟨_, rfl, hl, by omega, by simpa using hz, hcell, hwz⟩⟩
  clear hA0 hval0
  refine (walk r0 c0 a0 len0 cap0 z0 a1 len1 cap1 z1 W u0 v0 w0 w1).mono fun e W' ⟨he, bel⟩ => ?_
  subst he
  exact ⟨_, rfl, _, _, _, [], _, [], hW', trodAll_mk1 (shut_bool Try.underlying4 _), (trodAll_cons_mk (Below.trod laidOut (by kernel_rfl) (of_decide_eq_true (by kernel_rfl)) k0 bel lt0) (trodAll_cons_mk (Below.trod laidOut (by kernel_rfl) (of_decide_eq_true (by kernel_rfl)) k1 bel lt1) trodAll_mk0)), rfl, bel.frame _, fun h => by cases h⟩
theorem over : Rows.gaussPutsRow.holds Try.pinned (OpenSpec.ofChange Rows.gaussPutsSpec) :=
  OpenClaim.holds_of_wide 4 Try.f4 rfl rfl rfl rfl rfl rfl rfl ⟨rfl, rfl, rfl, rfl, rfl⟩ rfl rfl rfl rfl rfl (by kernel_rfl) Try.func4 (by kernel_rfl)
    (of_decide_eq_true (by kernel_rfl)) (by unfold Func.isWrapper; first | (rw [if_pos (by decide +kernel)]; kernel_rfl) | (rw [if_neg (by decide +kernel)]; exact ⟨rfl, rfl⟩))
    (fun os started H enc _ => lifted os started H enc)
theorem proved : Rows.GaussPutsSaid := over
#print axioms proved
end Go.Proofs.Ytfplhaelpbocjab.gaussPuts
