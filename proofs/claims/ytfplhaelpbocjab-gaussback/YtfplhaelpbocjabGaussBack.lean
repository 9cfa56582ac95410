/-
  Proved: for every matrix m the product with the inverse, either way, is the identity; where none is told Kernel has a row (P4.2); no condition.
-/
import Derived.Test.YtfplhaelpbocjabGp
import Derived.WalkKit
import Derived.SizedLaws
import Derived.ProofKit
import Derived.OpenShut
import Derived.ShutString
import Derived.ChangeOld
import Derived.Below
import Derived.Lib.SmallJoins
import Derived.Deep.Matrix
namespace Go.Proofs.Ytfplhaelpbocjab.gaussBack
open Go.ChangeShapes Go.WideShapes Go.ChangeAt Go.RowKit Go.Joins
set_option linter.unusedVariables false
theorem own : ownKnob Try.prog.godebug = none := by kernel_rfl
theorem laidOut : laidOutB Try.prog = true := by kernel_rfl
/-- A slice of integers that came in. -/
def IsRow (k : IntKind) (w : World) (a : Option Addr) (len cap : Nat) (zs : List Int) : Prop :=
  (a = none ∧ len = 0 ∧ cap = 0 ∧ zs = []) ∨
  ∃ x, a = some x ∧ len ≤ cap ∧ cap ≤ 140737488351232 ∧ zs.length = cap ∧ (∀ i, i < zs.length → w.cell? (x.add i) = some (.int k (zs.getD i 0))) ∧ ∀ n ∈ zs, (Lit.int k n).wf = true
/-- A slice of slices of bytes that came in. -/
def IsRows (w : World) (a : Option Addr) (len cap : Nat) : Prop :=
  (a = none ∧ len = 0 ∧ cap = 0) ∨
  ∃ x, a = some x ∧ len ≤ cap ∧ cap ≤ 140737488351232 ∧ ∀ r, r < cap → ∃ b l c zs, w.cell? (x.add r) = some (.slice b l c) ∧ IsRow .u8 w b l c zs
theorem sized_in {H : Type} {P : Program} {ts : List TypeId} {ds : List (DataW H)} (h : (DataW.weightsEach P ts ds).all (· ≤ reachBytes) = true) {j : Nat} {t : TypeId} {d : DataW H} (ht : ts[j]? = some t) (hd : ds[j]? = some d) : (d.weights P t).all (· ≤ reachBytes) = true :=
  List.all_eq_true.2 fun n hn => List.all_eq_true.1 h n (DataW.weights_mem_each ht hd n hn)
theorem sized_all {H : Type} {P : Program} {e : TypeId} : ∀ {ds : List (DataW H)}, (DataW.weightsAll P e ds).all (· ≤ reachBytes) = true → ∀ d ∈ ds, (d.weights P e).all (· ≤ reachBytes) = true
  | [], _, d, hd => by simp at hd
  | d0 :: r, h, d, hd => by
    simp only [DataW.weightsAll, List.all_append, Bool.and_eq_true] at h
    rcases List.mem_cons.1 hd with rfl | hd
    · exact h.1
    · exact sized_all h.2 d hd
theorem cellsM : Try.prog.cellsOf 24 = 3 := by kernel_rfl

set_option maxRecDepth 20000 in
set_option maxHeartbeats 8000000 in
theorem walk (r0 c0 : Int) (a0 : Option Addr) (len0 cap0 : Nat) (z0 : List Int) (w : World) (u0 : (Lit.int .i64 r0).wf = true) (v0 : (Lit.int .i64 c0).wf = true) (w0 : IsRow .u8 w a0 len0 cap0 z0) :
    Calls Try.prog 3 #[.agg #[.int .i64 r0, .int .i64 c0, .slice a0 len0 cap0]] w fun e w' => e = .returned (.bool true) ∧ Below w.heap.size w w' := by
  obtain ⟨F, hM, hn⟩ := mt_of_row w a0 len0 cap0 z0 w0
  have HM : Hid (Mt w a0 len0 cap0 F) := hM
  clear w0 u0 v0 hn
  obtain ⟨wb, HW⟩ : ∃ wb, Hid (wb = w.alloc (.cells #[.int .i64 r0, .int .i64 c0, .slice a0 len0 cap0] 24)) := ⟨_, rfl⟩
  have HVa : Hid (Vr wb w.heap.size (.int .i64 r0) (.int .i64 c0) (.slice a0 len0 cap0)) := by show Vr _ _ _ _ _; rw [HW.out]; exact Vr.new _ _ _ _
  have HB_0 : Hid (Below w.heap.size w wb) := by rw [HW.out]; exact alloc_low _ _
  have HF_m_0 : Hid (Mt wb a0 len0 cap0 F) := HM.out.later HB_0.out
  by_cases h : RightP r0 c0 len0 ∧ r0 = c0
  · obtain ⟨h, h2⟩ := h
    obtain ⟨r, c, rfl, rfl, R⟩ := right_rt h
    have h3 : r = c := by omega
    subst h3
    clear h2
    have HR : Hid (Rt r r len0) := R
    have HEl : Hid (El2 (m2 F r r)) := m2_el hM.sl.1 R
    have HFl : Hid (∀ i, i < len0 → F i < 256) := hM.sl.1
    have hr := R.r64
    have hc := R.c64
    have HLN : Hid (r * r = len0) := R.len
    obtain ⟨t, hk⟩ := rk_ex HEl.out r
    by_cases ht : t = r
    · have HK : Hid (Rk (m2 F r r) r r) := by rw [ht] at hk; exact hk
      clear h R hM hk ht
      have HV_m_0 : Hid (Vr wb w.heap.size (.int .i64 (r : Int)) (.int .i64 (r : Int)) (.slice a0 len0 cap0)) := HVa.out
      have l_m_0_0 := HV_m_0.out.c0
      have l_m_1_0 := HV_m_0.out.c1
      have l_m_2_0 := HV_m_0.out.c2
      go_enter Try.func3, Try.ntmps3
      go_wp2_with (first
        | (go_at_call 14; have _x := HB_7; refine (like_ans _ _ _ _ _ len0 _ _ (prk O F r r r) (idf r) HF_q_7.out HF_i_7.out HBT.out.2).mono ?_; rintro e w8 ⟨rfl, hb⟩; have HB_8 : Hid (Below w.heap.size w w8) := two_below HB_7.out hb; have HV_m_8 : Hid (Vr w8 w.heap.size (.int .i64 (r : Int)) (.int .i64 (r : Int)) (.slice a0 len0 cap0)) := HV_m_7.out.later hb; have HV_r_8 : Hid (Vr w8 w1.heap.size (.int .i64 (r : Int)) (.int .i64 (r : Int)) (.slice s1 len0 d1)) := HV_r_7.out.later hb; have HV_p_8 : Hid (Vr w8 w3.heap.size (.int .i64 (r : Int)) (.int .i64 (r : Int)) (.slice (some ⟨g2, 0, none⟩) len0 len0)) := HV_p_7.out.later hb; have HV_q_8 : Hid (Vr w8 w4.heap.size (.int .i64 (r : Int)) (.int .i64 (r : Int)) (.slice (some ⟨g3, 0, none⟩) len0 len0)) := HV_q_7.out.later hb; have HV_i_8 : Hid (Vr w8 w5.heap.size (.int .i64 (r : Int)) (.int .i64 (r : Int)) (.slice (some ⟨g4, 0, none⟩) len0 len0)) := HV_i_7.out.later hb; have HF_m_8 : Hid (Mt w8 a0 len0 cap0 F) := HF_m_7.out.later hb; have HF_r_8 : Hid (Mt w8 s1 len0 d1 O) := HF_r_7.out.later hb; have HF_p_8 : Hid (Mt w8 (some ⟨g2, 0, none⟩) len0 len0 (prk F O r r r)) := HF_p_7.out.later hb; have HF_q_8 : Hid (Mt w8 (some ⟨g3, 0, none⟩) len0 len0 (prk O F r r r)) := HF_q_7.out.later hb; have HF_i_8 : Hid (Mt w8 (some ⟨g4, 0, none⟩) len0 len0 (idf r)) := HF_i_7.out.later hb; clear hb HV_m_7 HV_r_7 HV_p_7 HV_q_7 HV_i_7 HF_m_7 HF_r_7 HF_p_7 HF_q_7 HF_i_7)
        | (go_at_call 14; have _x := HB_6; refine (like_ans _ _ _ _ _ len0 _ _ (prk F O r r r) (idf r) HF_p_6.out HF_i_6.out HBT.out.1).mono ?_; rintro e w7 ⟨rfl, hb⟩; have HB_7 : Hid (Below w.heap.size w w7) := two_below HB_6.out hb; have HV_m_7 : Hid (Vr w7 w.heap.size (.int .i64 (r : Int)) (.int .i64 (r : Int)) (.slice a0 len0 cap0)) := HV_m_6.out.later hb; have HV_r_7 : Hid (Vr w7 w1.heap.size (.int .i64 (r : Int)) (.int .i64 (r : Int)) (.slice s1 len0 d1)) := HV_r_6.out.later hb; have HV_p_7 : Hid (Vr w7 w3.heap.size (.int .i64 (r : Int)) (.int .i64 (r : Int)) (.slice (some ⟨g2, 0, none⟩) len0 len0)) := HV_p_6.out.later hb; have HV_q_7 : Hid (Vr w7 w4.heap.size (.int .i64 (r : Int)) (.int .i64 (r : Int)) (.slice (some ⟨g3, 0, none⟩) len0 len0)) := HV_q_6.out.later hb; have HV_i_7 : Hid (Vr w7 w5.heap.size (.int .i64 (r : Int)) (.int .i64 (r : Int)) (.slice (some ⟨g4, 0, none⟩) len0 len0)) := HV_i_6.out.later hb; have HF_m_7 : Hid (Mt w7 a0 len0 cap0 F) := HF_m_6.out.later hb; have HF_r_7 : Hid (Mt w7 s1 len0 d1 O) := HF_r_6.out.later hb; have HF_p_7 : Hid (Mt w7 (some ⟨g2, 0, none⟩) len0 len0 (prk F O r r r)) := HF_p_6.out.later hb; have HF_q_7 : Hid (Mt w7 (some ⟨g3, 0, none⟩) len0 len0 (prk O F r r r)) := HF_q_6.out.later hb; have HF_i_7 : Hid (Mt w7 (some ⟨g4, 0, none⟩) len0 len0 (idf r)) := HF_i_6.out.later hb; have l_p_0_7 := HV_p_7.out.c0; have l_p_1_7 := HV_p_7.out.c1; have l_p_2_7 := HV_p_7.out.c2; have l_q_0_7 := HV_q_7.out.c0; have l_q_1_7 := HV_q_7.out.c1; have l_q_2_7 := HV_q_7.out.c2; have l_i_0_7 := HV_i_7.out.c0; have l_i_1_7 := HV_i_7.out.c1; have l_i_2_7 := HV_i_7.out.c2; clear hb HV_m_6 HV_r_6 HV_p_6 HV_q_6 HV_i_6 HF_m_6 HF_r_6 HF_p_6 HF_q_6 HF_i_6)
        | (go_at_call 10; have _x := HB_5; refine (anch4_any _).mono ?_; rintro e w6 ⟨rfl, hb⟩; have HB_6 : Hid (Below w.heap.size w w6) := two_below HB_5.out hb; have HV_m_6 : Hid (Vr w6 w.heap.size (.int .i64 (r : Int)) (.int .i64 (r : Int)) (.slice a0 len0 cap0)) := HV_m_5.out.later hb; have HV_r_6 : Hid (Vr w6 w1.heap.size (.int .i64 (r : Int)) (.int .i64 (r : Int)) (.slice s1 len0 d1)) := HV_r_5.out.later hb; have HV_p_6 : Hid (Vr w6 w3.heap.size (.int .i64 (r : Int)) (.int .i64 (r : Int)) (.slice (some ⟨g2, 0, none⟩) len0 len0)) := HV_p_5.out.later hb; have HV_q_6 : Hid (Vr w6 w4.heap.size (.int .i64 (r : Int)) (.int .i64 (r : Int)) (.slice (some ⟨g3, 0, none⟩) len0 len0)) := HV_q_5.out.later hb; have HV_i_6 : Hid (Vr w6 w5.heap.size (.int .i64 (r : Int)) (.int .i64 (r : Int)) (.slice (some ⟨g4, 0, none⟩) len0 len0)) := HV_i_5.out.later hb; have HF_m_6 : Hid (Mt w6 a0 len0 cap0 F) := HF_m_5.out.later hb; have HF_r_6 : Hid (Mt w6 s1 len0 d1 O) := HF_r_5.out.later hb; have HF_p_6 : Hid (Mt w6 (some ⟨g2, 0, none⟩) len0 len0 (prk F O r r r)) := HF_p_5.out.later hb; have HF_q_6 : Hid (Mt w6 (some ⟨g3, 0, none⟩) len0 len0 (prk O F r r r)) := HF_q_5.out.later hb; have HF_i_6 : Hid (Mt w6 (some ⟨g4, 0, none⟩) len0 len0 (idf r)) := HF_i_5.out.later hb; have l_p_0_6 := HV_p_6.out.c0; have l_p_1_6 := HV_p_6.out.c1; have l_p_2_6 := HV_p_6.out.c2; have l_q_0_6 := HV_q_6.out.c0; have l_q_1_6 := HV_q_6.out.c1; have l_q_2_6 := HV_q_6.out.c2; have l_i_0_6 := HV_i_6.out.c0; have l_i_1_6 := HV_i_6.out.c1; have l_i_2_6 := HV_i_6.out.c2; clear hb HV_m_5 HV_r_5 HV_p_5 HV_q_5 HV_i_5 HF_m_5 HF_r_5 HF_p_5 HF_q_5 HF_i_5)
        | (go_at_call 13; have _x := HB_4; refine (rident_ok _ r len0 hr HLN).mono ?_; rintro e w5 ⟨g4, rfl, hr4, _, hb⟩; have HB_5 : Hid (Below w.heap.size w (w5.alloc (.cells #[.int .i64 (r : Int), .int .i64 (r : Int), .slice (some ⟨g4, 0, none⟩) len0 len0] 24))) := two_below (two_below HB_4.out hb) (alloc_low _ _); have HV_m_5 : Hid (Vr (w5.alloc (.cells #[.int .i64 (r : Int), .int .i64 (r : Int), .slice (some ⟨g4, 0, none⟩) len0 len0] 24)) w.heap.size (.int .i64 (r : Int)) (.int .i64 (r : Int)) (.slice a0 len0 cap0)) := (HV_m_4.out.later hb).later (alloc_low _ _); have HV_r_5 : Hid (Vr (w5.alloc (.cells #[.int .i64 (r : Int), .int .i64 (r : Int), .slice (some ⟨g4, 0, none⟩) len0 len0] 24)) w1.heap.size (.int .i64 (r : Int)) (.int .i64 (r : Int)) (.slice s1 len0 d1)) := (HV_r_4.out.later hb).later (alloc_low _ _); have HV_p_5 : Hid (Vr (w5.alloc (.cells #[.int .i64 (r : Int), .int .i64 (r : Int), .slice (some ⟨g4, 0, none⟩) len0 len0] 24)) w3.heap.size (.int .i64 (r : Int)) (.int .i64 (r : Int)) (.slice (some ⟨g2, 0, none⟩) len0 len0)) := (HV_p_4.out.later hb).later (alloc_low _ _); have HV_q_5 : Hid (Vr (w5.alloc (.cells #[.int .i64 (r : Int), .int .i64 (r : Int), .slice (some ⟨g4, 0, none⟩) len0 len0] 24)) w4.heap.size (.int .i64 (r : Int)) (.int .i64 (r : Int)) (.slice (some ⟨g3, 0, none⟩) len0 len0)) := (HV_q_4.out.later hb).later (alloc_low _ _); have HF_m_5 : Hid (Mt (w5.alloc (.cells #[.int .i64 (r : Int), .int .i64 (r : Int), .slice (some ⟨g4, 0, none⟩) len0 len0] 24)) a0 len0 cap0 F) := (HF_m_4.out.later hb).later (alloc_low _ _); have HF_r_5 : Hid (Mt (w5.alloc (.cells #[.int .i64 (r : Int), .int .i64 (r : Int), .slice (some ⟨g4, 0, none⟩) len0 len0] 24)) s1 len0 d1 O) := (HF_r_4.out.later hb).later (alloc_low _ _); have HF_p_5 : Hid (Mt (w5.alloc (.cells #[.int .i64 (r : Int), .int .i64 (r : Int), .slice (some ⟨g4, 0, none⟩) len0 len0] 24)) (some ⟨g2, 0, none⟩) len0 len0 (prk F O r r r)) := (HF_p_4.out.later hb).later (alloc_low _ _); have HF_q_5 : Hid (Mt (w5.alloc (.cells #[.int .i64 (r : Int), .int .i64 (r : Int), .slice (some ⟨g4, 0, none⟩) len0 len0] 24)) (some ⟨g3, 0, none⟩) len0 len0 (prk O F r r r)) := (HF_q_4.out.later hb).later (alloc_low _ _); have HV_i_5 : Hid (Vr (w5.alloc (.cells #[.int .i64 (r : Int), .int .i64 (r : Int), .slice (some ⟨g4, 0, none⟩) len0 len0] 24)) w5.heap.size (.int .i64 (r : Int)) (.int .i64 (r : Int)) (.slice (some ⟨g4, 0, none⟩) len0 len0)) := Vr.new w5 _ _ _; have HF_i_5 : Hid (Mt (w5.alloc (.cells #[.int .i64 (r : Int), .int .i64 (r : Int), .slice (some ⟨g4, 0, none⟩) len0 len0] 24)) (some ⟨g4, 0, none⟩) len0 len0 (idf r)) := (hr4.mt (fun i _ => idf_lt r i)).later (alloc_low _ _); clear hr4; have l_m_0_5 := HV_m_5.out.c0; have l_m_1_5 := HV_m_5.out.c1; have l_m_2_5 := HV_m_5.out.c2; have l_p_0_5 := HV_p_5.out.c0; have l_p_1_5 := HV_p_5.out.c1; have l_p_2_5 := HV_p_5.out.c2; have l_q_0_5 := HV_q_5.out.c0; have l_q_1_5 := HV_q_5.out.c1; have l_q_2_5 := HV_q_5.out.c2; have l_i_0_5 := HV_i_5.out.c0; have l_i_1_5 := HV_i_5.out.c1; have l_i_2_5 := HV_i_5.out.c2; clear hb HV_m_4 HV_r_4 HV_p_4 HV_q_4 HF_m_4 HF_r_4 HF_p_4 HF_q_4)
        | (go_at_call 12; have _x := HB_3; refine (rmmul_ok _ r r r len0 len0 len0 d1 cap0 s1 a0 O F HF_r_3.out.sl HF_m_3.out.sl HR.out HR.out HR.out).mono ?_; rintro e w4 ⟨g3, rfl, hr, _, hb⟩; have HB_4 : Hid (Below w.heap.size w (w4.alloc (.cells #[.int .i64 (r : Int), .int .i64 (r : Int), .slice (some ⟨g3, 0, none⟩) len0 len0] 24))) := two_below (two_below HB_3.out hb) (alloc_low _ _); have HV_m_4 : Hid (Vr (w4.alloc (.cells #[.int .i64 (r : Int), .int .i64 (r : Int), .slice (some ⟨g3, 0, none⟩) len0 len0] 24)) w.heap.size (.int .i64 (r : Int)) (.int .i64 (r : Int)) (.slice a0 len0 cap0)) := (HV_m_3.out.later hb).later (alloc_low _ _); have HV_r_4 : Hid (Vr (w4.alloc (.cells #[.int .i64 (r : Int), .int .i64 (r : Int), .slice (some ⟨g3, 0, none⟩) len0 len0] 24)) w1.heap.size (.int .i64 (r : Int)) (.int .i64 (r : Int)) (.slice s1 len0 d1)) := (HV_r_3.out.later hb).later (alloc_low _ _); have HV_p_4 : Hid (Vr (w4.alloc (.cells #[.int .i64 (r : Int), .int .i64 (r : Int), .slice (some ⟨g3, 0, none⟩) len0 len0] 24)) w3.heap.size (.int .i64 (r : Int)) (.int .i64 (r : Int)) (.slice (some ⟨g2, 0, none⟩) len0 len0)) := (HV_p_3.out.later hb).later (alloc_low _ _); have HF_m_4 : Hid (Mt (w4.alloc (.cells #[.int .i64 (r : Int), .int .i64 (r : Int), .slice (some ⟨g3, 0, none⟩) len0 len0] 24)) a0 len0 cap0 F) := (HF_m_3.out.later hb).later (alloc_low _ _); have HF_r_4 : Hid (Mt (w4.alloc (.cells #[.int .i64 (r : Int), .int .i64 (r : Int), .slice (some ⟨g3, 0, none⟩) len0 len0] 24)) s1 len0 d1 O) := (HF_r_3.out.later hb).later (alloc_low _ _); have HF_p_4 : Hid (Mt (w4.alloc (.cells #[.int .i64 (r : Int), .int .i64 (r : Int), .slice (some ⟨g3, 0, none⟩) len0 len0] 24)) (some ⟨g2, 0, none⟩) len0 len0 (prk F O r r r)) := (HF_p_3.out.later hb).later (alloc_low _ _); have HV_q_4 : Hid (Vr (w4.alloc (.cells #[.int .i64 (r : Int), .int .i64 (r : Int), .slice (some ⟨g3, 0, none⟩) len0 len0] 24)) w4.heap.size (.int .i64 (r : Int)) (.int .i64 (r : Int)) (.slice (some ⟨g3, 0, none⟩) len0 len0)) := Vr.new w4 _ _ _; have HF_q_4 : Hid (Mt (w4.alloc (.cells #[.int .i64 (r : Int), .int .i64 (r : Int), .slice (some ⟨g3, 0, none⟩) len0 len0] 24)) (some ⟨g3, 0, none⟩) len0 len0 (prk O F r r r)) := (hr.mt (prk_all F HO1.out HR.out HR.out)).later (alloc_low _ _); clear hr; have l_m_0_4 := HV_m_4.out.c0; have l_m_1_4 := HV_m_4.out.c1; have l_m_2_4 := HV_m_4.out.c2; have l_r_0_4 := HV_r_4.out.c0; have l_r_1_4 := HV_r_4.out.c1; have l_r_2_4 := HV_r_4.out.c2; have l_p_0_4 := HV_p_4.out.c0; have l_p_1_4 := HV_p_4.out.c1; have l_p_2_4 := HV_p_4.out.c2; have l_q_0_4 := HV_q_4.out.c0; have l_q_1_4 := HV_q_4.out.c1; have l_q_2_4 := HV_q_4.out.c2; clear hb HV_m_3 HV_r_3 HV_p_3 HF_m_3 HF_r_3 HF_p_3)
        | (go_at_call 12; have _x := HB_2; refine (rmmul_ok _ r r r len0 len0 len0 cap0 d1 a0 s1 F O HF_m_2.out.sl HF_r_2.out.sl HR.out HR.out HR.out).mono ?_; rintro e w3 ⟨g2, rfl, hr, _, hb⟩; have HB_3 : Hid (Below w.heap.size w (w3.alloc (.cells #[.int .i64 (r : Int), .int .i64 (r : Int), .slice (some ⟨g2, 0, none⟩) len0 len0] 24))) := two_below (two_below HB_2.out hb) (alloc_low _ _); have HV_m_3 : Hid (Vr (w3.alloc (.cells #[.int .i64 (r : Int), .int .i64 (r : Int), .slice (some ⟨g2, 0, none⟩) len0 len0] 24)) w.heap.size (.int .i64 (r : Int)) (.int .i64 (r : Int)) (.slice a0 len0 cap0)) := (HV_m_2.out.later hb).later (alloc_low _ _); have HV_r_3 : Hid (Vr (w3.alloc (.cells #[.int .i64 (r : Int), .int .i64 (r : Int), .slice (some ⟨g2, 0, none⟩) len0 len0] 24)) w1.heap.size (.int .i64 (r : Int)) (.int .i64 (r : Int)) (.slice s1 len0 d1)) := (HV_r_2.out.later hb).later (alloc_low _ _); have HF_m_3 : Hid (Mt (w3.alloc (.cells #[.int .i64 (r : Int), .int .i64 (r : Int), .slice (some ⟨g2, 0, none⟩) len0 len0] 24)) a0 len0 cap0 F) := (HF_m_2.out.later hb).later (alloc_low _ _); have HF_r_3 : Hid (Mt (w3.alloc (.cells #[.int .i64 (r : Int), .int .i64 (r : Int), .slice (some ⟨g2, 0, none⟩) len0 len0] 24)) s1 len0 d1 O) := (HF_r_2.out.later hb).later (alloc_low _ _); have HV_p_3 : Hid (Vr (w3.alloc (.cells #[.int .i64 (r : Int), .int .i64 (r : Int), .slice (some ⟨g2, 0, none⟩) len0 len0] 24)) w3.heap.size (.int .i64 (r : Int)) (.int .i64 (r : Int)) (.slice (some ⟨g2, 0, none⟩) len0 len0)) := Vr.new w3 _ _ _; have HF_p_3 : Hid (Mt (w3.alloc (.cells #[.int .i64 (r : Int), .int .i64 (r : Int), .slice (some ⟨g2, 0, none⟩) len0 len0] 24)) (some ⟨g2, 0, none⟩) len0 len0 (prk F O r r r)) := (hr.mt (prk_all O HFl.out HR.out HR.out)).later (alloc_low _ _); clear hr; have l_m_0_3 := HV_m_3.out.c0; have l_m_1_3 := HV_m_3.out.c1; have l_m_2_3 := HV_m_3.out.c2; have l_r_0_3 := HV_r_3.out.c0; have l_r_1_3 := HV_r_3.out.c1; have l_r_2_3 := HV_r_3.out.c2; have l_p_0_3 := HV_p_3.out.c0; have l_p_1_3 := HV_p_3.out.c1; have l_p_2_3 := HV_p_3.out.c2; clear hb HV_m_2 HV_r_2 HF_m_2 HF_r_2)
        | (go_at_call 9; have _x := HB_1; refine (right_yes _ _ _ _ _ _ HR.out.p).mono ?_; rintro e w2 ⟨rfl, hb⟩; have HB_2 : Hid (Below w.heap.size w w2) := two_below HB_1.out hb; have HV_m_2 : Hid (Vr w2 w.heap.size (.int .i64 (r : Int)) (.int .i64 (r : Int)) (.slice a0 len0 cap0)) := HV_m_1.out.later hb; have HV_r_2 : Hid (Vr w2 w1.heap.size (.int .i64 (r : Int)) (.int .i64 (r : Int)) (.slice s1 len0 d1)) := HV_r_1.out.later hb; have HF_m_2 : Hid (Mt w2 a0 len0 cap0 F) := HF_m_1.out.later hb; have HF_r_2 : Hid (Mt w2 s1 len0 d1 O) := HF_r_1.out.later hb; have l_m_0_2 := HV_m_2.out.c0; have l_m_1_2 := HV_m_2.out.c1; have l_m_2_2 := HV_m_2.out.c2; have l_r_0_2 := HV_r_2.out.c0; have l_r_1_2 := HV_r_2.out.c1; have l_r_2_2 := HV_r_2.out.c2; clear hb HV_m_1 HV_r_1 HF_m_1 HF_r_1)
        | (go_at_call 8; rw [← HW.out]; refine (ginv_ok _ r len0 cap0 a0 F HF_m_0.out HR.out HK.out).mono ?_; rintro e w1 ⟨s1, d1, O, rfl, hm, hp, hb⟩; have HO1 : Hid (∀ i, i < len0 → O i < 256) := hm.sl.1; have HBT : Hid ((∀ p, p < len0 → prk F O r r r p = idf r p) ∧ ∀ p, p < len0 → prk O F r r r p = idf r p) := inv_both HFl.out HO1.out HR.out HK.out hp; have HB_1 : Hid (Below w.heap.size w (w1.alloc (.cells #[.int .i64 (r : Int), .int .i64 (r : Int), .slice s1 len0 d1] 24))) := two_below (two_below HB_0.out hb) (alloc_low _ _); have HV_m_1 : Hid (Vr (w1.alloc (.cells #[.int .i64 (r : Int), .int .i64 (r : Int), .slice s1 len0 d1] 24)) w.heap.size (.int .i64 (r : Int)) (.int .i64 (r : Int)) (.slice a0 len0 cap0)) := (HV_m_0.out.later hb).later (alloc_low _ _); have HF_m_1 : Hid (Mt (w1.alloc (.cells #[.int .i64 (r : Int), .int .i64 (r : Int), .slice s1 len0 d1] 24)) a0 len0 cap0 F) := (HF_m_0.out.later hb).later (alloc_low _ _); have HV_r_1 : Hid (Vr (w1.alloc (.cells #[.int .i64 (r : Int), .int .i64 (r : Int), .slice s1 len0 d1] 24)) w1.heap.size (.int .i64 (r : Int)) (.int .i64 (r : Int)) (.slice s1 len0 d1)) := Vr.new w1 _ _ _; have HF_r_1 : Hid (Mt (w1.alloc (.cells #[.int .i64 (r : Int), .int .i64 (r : Int), .slice s1 len0 d1] 24)) s1 len0 d1 O) := (hm).later (alloc_low _ _); clear hm hp; have l_m_0_1 := HV_m_1.out.c0; have l_m_1_1 := HV_m_1.out.c1; have l_m_2_1 := HV_m_1.out.c2; have l_r_0_1 := HV_r_1.out.c0; have l_r_1_1 := HV_r_1.out.c1; have l_r_2_1 := HV_r_1.out.c2; clear hb HV_m_0 HF_m_0))
      go_ret
      exact ⟨rfl, HB_8.out⟩
    · have HK : Hid (Rk (m2 F r r) r t) := hk
      have ht2 : t < r := by have := hk.rows HEl.out; omega
      clear h R hM hk ht
      have HV_m_0 : Hid (Vr wb w.heap.size (.int .i64 (r : Int)) (.int .i64 (r : Int)) (.slice a0 len0 cap0)) := HVa.out
      have l_m_0_0 := HV_m_0.out.c0
      have l_m_1_0 := HV_m_0.out.c1
      have l_m_2_0 := HV_m_0.out.c2
      go_enter Try.func3, Try.ntmps3
      go_wp2_with (first
        | (go_at_call 10; have _x := HB_3; refine (anch4_any _).mono ?_; rintro e w4 ⟨rfl, hb⟩; have HB_4 : Hid (Below w.heap.size w w4) := two_below HB_3.out hb; have HV_m_4 : Hid (Vr w4 w.heap.size (.int .i64 (r : Int)) (.int .i64 (r : Int)) (.slice a0 len0 cap0)) := HV_m_3.out.later hb; have HV_r_4 : Hid (Vr w4 w1.heap.size (.int .i64 0) (.int .i64 0) (.slice none 0 0)) := HV_r_3.out.later hb; have HV_z_4 : Hid (Vr w4 w3.heap.size (.int .i64 (kr : Int)) (.int .i64 (r : Int)) (.slice s4 N d4)) := HV_z_3.out.later hb; have HF_m_4 : Hid (Mt w4 a0 len0 cap0 F) := HF_m_3.out.later hb; have l_z_0_4 := HV_z_4.out.c0; have l_z_1_4 := HV_z_4.out.c1; have l_z_2_4 := HV_z_4.out.c2; clear hb HV_m_3 HV_r_3 HV_z_3 HF_m_3)
        | (go_at_call 11; have _x := HB_2; refine (gker_ok _ r r len0 cap0 a0 F HF_m_2.out HR.out).mono ?_; rintro e w3 ⟨s4, d4, kr, t4, p4, G4, K4, rfl, _, hR, hS, hp, hk, _, hb⟩; obtain ⟨N, HN⟩ : ∃ x, Hid (kr * r = x) := ⟨_, rfl⟩; rw [HN.out]; have hk0 : 0 < kr := ker_pos HFl.out HR.out HK.out ht2 hR hS hp hk; have hkd : decide (0 < kr) = true := (by simpa using hk0); have HB_3 : Hid (Below w.heap.size w (w3.alloc (.cells #[.int .i64 (kr : Int), .int .i64 (r : Int), .slice s4 N d4] 24))) := two_below (two_below HB_2.out hb) (alloc_low _ _); have HV_m_3 : Hid (Vr (w3.alloc (.cells #[.int .i64 (kr : Int), .int .i64 (r : Int), .slice s4 N d4] 24)) w.heap.size (.int .i64 (r : Int)) (.int .i64 (r : Int)) (.slice a0 len0 cap0)) := (HV_m_2.out.later hb).later (alloc_low _ _); have HV_r_3 : Hid (Vr (w3.alloc (.cells #[.int .i64 (kr : Int), .int .i64 (r : Int), .slice s4 N d4] 24)) w1.heap.size (.int .i64 0) (.int .i64 0) (.slice none 0 0)) := (HV_r_2.out.later hb).later (alloc_low _ _); have HF_m_3 : Hid (Mt (w3.alloc (.cells #[.int .i64 (kr : Int), .int .i64 (r : Int), .slice s4 N d4] 24)) a0 len0 cap0 F) := (HF_m_2.out.later hb).later (alloc_low _ _); have HV_z_3 : Hid (Vr (w3.alloc (.cells #[.int .i64 (kr : Int), .int .i64 (r : Int), .slice s4 N d4] 24)) w3.heap.size (.int .i64 (kr : Int)) (.int .i64 (r : Int)) (.slice s4 N d4)) := Vr.new w3 _ _ _; clear hR hS hp hk; have l_z_0_3 := HV_z_3.out.c0; have l_z_1_3 := HV_z_3.out.c1; have l_z_2_3 := HV_z_3.out.c2; clear hb HV_m_2 HV_r_2 HF_m_2)
        | (go_at_call 9; have _x := HB_1; refine (right_yes _ _ _ _ _ _ HR.out.p).mono ?_; rintro e w2 ⟨rfl, hb⟩; have HB_2 : Hid (Below w.heap.size w w2) := two_below HB_1.out hb; have HV_m_2 : Hid (Vr w2 w.heap.size (.int .i64 (r : Int)) (.int .i64 (r : Int)) (.slice a0 len0 cap0)) := HV_m_1.out.later hb; have HV_r_2 : Hid (Vr w2 w1.heap.size (.int .i64 0) (.int .i64 0) (.slice none 0 0)) := HV_r_1.out.later hb; have HF_m_2 : Hid (Mt w2 a0 len0 cap0 F) := HF_m_1.out.later hb; have l_m_0_2 := HV_m_2.out.c0; have l_m_1_2 := HV_m_2.out.c1; have l_m_2_2 := HV_m_2.out.c2; clear hb HV_m_1 HV_r_1 HF_m_1)
        | (go_at_call 8; rw [← HW.out]; refine (ginv_sing _ r len0 cap0 t a0 F HF_m_0.out HR.out HK.out ht2).mono ?_; rintro e w1 ⟨rfl, hb⟩; have HB_1 : Hid (Below w.heap.size w (w1.alloc (.cells #[.int .i64 0, .int .i64 0, .slice none 0 0] 24))) := two_below (two_below HB_0.out hb) (alloc_low _ _); have HV_m_1 : Hid (Vr (w1.alloc (.cells #[.int .i64 0, .int .i64 0, .slice none 0 0] 24)) w.heap.size (.int .i64 (r : Int)) (.int .i64 (r : Int)) (.slice a0 len0 cap0)) := (HV_m_0.out.later hb).later (alloc_low _ _); have HF_m_1 : Hid (Mt (w1.alloc (.cells #[.int .i64 0, .int .i64 0, .slice none 0 0] 24)) a0 len0 cap0 F) := (HF_m_0.out.later hb).later (alloc_low _ _); have HV_r_1 : Hid (Vr (w1.alloc (.cells #[.int .i64 0, .int .i64 0, .slice none 0 0] 24)) w1.heap.size (.int .i64 0) (.int .i64 0) (.slice none 0 0)) := Vr.new w1 _ _ _; have l_m_0_1 := HV_m_1.out.c0; have l_m_1_1 := HV_m_1.out.c1; have l_m_2_1 := HV_m_1.out.c2; clear hb HV_m_0 HF_m_0))
      go_ret
      exact ⟨rfl, HB_4.out⟩
  · have H1 : Hid (¬ (RightP r0 c0 len0 ∧ r0 = c0)) := h
    by_cases hR : RightP r0 c0 len0
    · have HR2 : Hid (RightP r0 c0 len0) := hR
      have hne : (r0 != c0) = true := by simp; exact fun e => h ⟨hR, e⟩
      clear h hM hR
      have HV_m_0 : Hid (Vr wb w.heap.size (.int .i64 r0) (.int .i64 c0) (.slice a0 len0 cap0)) := HVa.out
      have l_m_0_0 := HV_m_0.out.c0
      have l_m_1_0 := HV_m_0.out.c1
      have l_m_2_0 := HV_m_0.out.c2
      go_enter Try.func3, Try.ntmps3
      go_wp2_with (first
        | (go_at_call 10; have _x := HB_2; refine (anch4_any _).mono ?_; rintro e w3 ⟨rfl, hb⟩; have HB_3 : Hid (Below w.heap.size w w3) := two_below HB_2.out hb; have HV_m_3 : Hid (Vr w3 w.heap.size (.int .i64 r0) (.int .i64 c0) (.slice a0 len0 cap0)) := HV_m_2.out.later hb; have HV_r_3 : Hid (Vr w3 w1.heap.size (.int .i64 0) (.int .i64 0) (.slice none 0 0)) := HV_r_2.out.later hb; have HF_m_3 : Hid (Mt w3 a0 len0 cap0 F) := HF_m_2.out.later hb; clear hb HV_m_2 HV_r_2 HF_m_2)
        | (go_at_call 9; have _x := HB_1; refine (right_yes _ _ _ _ _ _ HR2.out).mono ?_; rintro e w2 ⟨rfl, hb⟩; have HB_2 : Hid (Below w.heap.size w w2) := two_below HB_1.out hb; have HV_m_2 : Hid (Vr w2 w.heap.size (.int .i64 r0) (.int .i64 c0) (.slice a0 len0 cap0)) := HV_m_1.out.later hb; have HV_r_2 : Hid (Vr w2 w1.heap.size (.int .i64 0) (.int .i64 0) (.slice none 0 0)) := HV_r_1.out.later hb; have HF_m_2 : Hid (Mt w2 a0 len0 cap0 F) := HF_m_1.out.later hb; have l_m_0_2 := HV_m_2.out.c0; have l_m_1_2 := HV_m_2.out.c1; have l_m_2_2 := HV_m_2.out.c2; clear hb HV_m_1 HV_r_1 HF_m_1)
        | (go_at_call 8; rw [← HW.out]; refine (ginv_bad _ _ _ _ _ _ H1.out).mono ?_; rintro e w1 ⟨rfl, hb⟩; have HB_1 : Hid (Below w.heap.size w (w1.alloc (.cells #[.int .i64 0, .int .i64 0, .slice none 0 0] 24))) := two_below (two_below HB_0.out hb) (alloc_low _ _); have HV_m_1 : Hid (Vr (w1.alloc (.cells #[.int .i64 0, .int .i64 0, .slice none 0 0] 24)) w.heap.size (.int .i64 r0) (.int .i64 c0) (.slice a0 len0 cap0)) := (HV_m_0.out.later hb).later (alloc_low _ _); have HF_m_1 : Hid (Mt (w1.alloc (.cells #[.int .i64 0, .int .i64 0, .slice none 0 0] 24)) a0 len0 cap0 F) := (HF_m_0.out.later hb).later (alloc_low _ _); have HV_r_1 : Hid (Vr (w1.alloc (.cells #[.int .i64 0, .int .i64 0, .slice none 0 0] 24)) w1.heap.size (.int .i64 0) (.int .i64 0) (.slice none 0 0)) := Vr.new w1 _ _ _; have l_m_0_1 := HV_m_1.out.c0; have l_m_1_1 := HV_m_1.out.c1; have l_m_2_1 := HV_m_1.out.c2; clear hb HV_m_0 HF_m_0))
      go_ret
      exact ⟨rfl, HB_3.out⟩
    · have HR2 : Hid (¬ RightP r0 c0 len0) := hR
      clear h hM hR
      have HV_m_0 : Hid (Vr wb w.heap.size (.int .i64 r0) (.int .i64 c0) (.slice a0 len0 cap0)) := HVa.out
      have l_m_0_0 := HV_m_0.out.c0
      have l_m_1_0 := HV_m_0.out.c1
      have l_m_2_0 := HV_m_0.out.c2
      go_enter Try.func3, Try.ntmps3
      go_wp2_with (first
        | (go_at_call 10; have _x := HB_2; refine (anch4_any _).mono ?_; rintro e w3 ⟨rfl, hb⟩; have HB_3 : Hid (Below w.heap.size w w3) := two_below HB_2.out hb; have HV_m_3 : Hid (Vr w3 w.heap.size (.int .i64 r0) (.int .i64 c0) (.slice a0 len0 cap0)) := HV_m_2.out.later hb; have HV_r_3 : Hid (Vr w3 w1.heap.size (.int .i64 0) (.int .i64 0) (.slice none 0 0)) := HV_r_2.out.later hb; have HF_m_3 : Hid (Mt w3 a0 len0 cap0 F) := HF_m_2.out.later hb; clear hb HV_m_2 HV_r_2 HF_m_2)
        | (go_at_call 9; have _x := HB_1; refine (right_no _ _ _ _ _ _ HR2.out).mono ?_; rintro e w2 ⟨rfl, hb⟩; have HB_2 : Hid (Below w.heap.size w w2) := two_below HB_1.out hb; have HV_m_2 : Hid (Vr w2 w.heap.size (.int .i64 r0) (.int .i64 c0) (.slice a0 len0 cap0)) := HV_m_1.out.later hb; have HV_r_2 : Hid (Vr w2 w1.heap.size (.int .i64 0) (.int .i64 0) (.slice none 0 0)) := HV_r_1.out.later hb; have HF_m_2 : Hid (Mt w2 a0 len0 cap0 F) := HF_m_1.out.later hb; have l_m_0_2 := HV_m_2.out.c0; have l_m_1_2 := HV_m_2.out.c1; have l_m_2_2 := HV_m_2.out.c2; clear hb HV_m_1 HV_r_1 HF_m_1)
        | (go_at_call 8; rw [← HW.out]; refine (ginv_bad _ _ _ _ _ _ H1.out).mono ?_; rintro e w1 ⟨rfl, hb⟩; have HB_1 : Hid (Below w.heap.size w (w1.alloc (.cells #[.int .i64 0, .int .i64 0, .slice none 0 0] 24))) := two_below (two_below HB_0.out hb) (alloc_low _ _); have HV_m_1 : Hid (Vr (w1.alloc (.cells #[.int .i64 0, .int .i64 0, .slice none 0 0] 24)) w.heap.size (.int .i64 r0) (.int .i64 c0) (.slice a0 len0 cap0)) := (HV_m_0.out.later hb).later (alloc_low _ _); have HF_m_1 : Hid (Mt (w1.alloc (.cells #[.int .i64 0, .int .i64 0, .slice none 0 0] 24)) a0 len0 cap0 F) := (HF_m_0.out.later hb).later (alloc_low _ _); have HV_r_1 : Hid (Vr (w1.alloc (.cells #[.int .i64 0, .int .i64 0, .slice none 0 0] 24)) w1.heap.size (.int .i64 0) (.int .i64 0) (.slice none 0 0)) := Vr.new w1 _ _ _; have l_m_0_1 := HV_m_1.out.c0; have l_m_1_1 := HV_m_1.out.c1; have l_m_2_1 := HV_m_1.out.c2; clear hb HV_m_0 HF_m_0))
      go_ret
      exact ⟨rfl, HB_3.out⟩
set_option maxRecDepth 100000 in
set_option maxHeartbeats 2000000 in
theorem lifted (os : Os) (started : os.Started) (H : Type) (enc : TypeId × Value → H) :
    ReturnsInHanded {} Try.checked os 3 .any (Rows.gaussBackSpec.pre6 enc Try.prog Try.f3 Rows.gaussBackRow.domain false) (Rows.gaussBackSpec.post enc Try.prog Try.f3 false true false false) := by
  refine returnsInHanded_of_change_sized (C := Try.checked) own started (by kernel_rfl) Try.func3
    (ChangeSpec.witness6 (enc := enc) (C := Try.checked) false ⟨#[], #[.agg #[.int .i64 0, .int .i64 0, .slice none 0 0]], []⟩ 8 (by kernel_rfl) (by kernel_rfl) (by kernel_rfl) (by kernel_rfl)) ?_
  intro W base args ds gs before hval0 hW hcnd hsz0 _
  have hsz : (DataW.weightsEach Try.prog (Try.f3.params.toList ++ Rows.gaussBackSpec.plain.varTypes Try.prog) (ds ++ gs)).all (· ≤ reachBytes) = true := hsz0
  clear hsz0
  have hval : ∀ (j : Nat) t v, Try.f3.params[j]? = some t → args[j]? = some v → Value.okWide Try.prog W .any base t v := hval0
  have hW' := hW
  obtain ⟨p, q, hA0, hV, rfl, hfz, hnd⟩ := hW
  have hA : DataW.TrodAll enc Try.prog W 0 (fun _ => true) true Try.f3.params.toList args.toList ds p := hA0
  rw [Try.params3] at hA hval hsz
  obtain ⟨va0, vs0, d0, ds0, p0, q0, hargs, rfl, rfl, h0, tr0⟩ := trodAll_cons hA
  obtain ⟨rfl, rfl, rfl⟩ := trodAll_nil tr0
  obtain rfl : args = #[va0] := by cases args; simp_all
  obtain ⟨rfl, rfl⟩ := trodVars_none hV
  have k0 := h0
  have lt0 : ∀ x ∈ p0, x.block < W.heap.size := by obtain ⟨m, hm⟩ := k0; exact DataW.trod_lt m _ _ _ hm
  obtain ⟨f0, g0, s0, y0, x0, e0, m0, rfl, rfl, rfl, hf0, hg0, hs0⟩ := open_agg3 Try.underlying24 (by kernel_rfl) cellsM (hval 0 24 va0 rfl rfl) h0
  obtain ⟨r0, er0, rfl, u0⟩ := DataW.trod_int Try.underlying3 hf0
  obtain ⟨c0, ec0, rfl, v0⟩ := DataW.trod_int Try.underlying3 hg0
  simp only [List.cons.injEq, and_true] at er0 ec0
  subst er0 ec0
  obtain ⟨a0, len0, cap0, rfl⟩ : ∃ a l c, s0 = .slice a l c := by
    rcases open_ints Try.underlying22 Try.underlying5 (by kernel_rfl) hs0 with ⟨hcs, _⟩ | ⟨x, l, c, zs, hcs, _⟩
    · simp only [List.cons.injEq, and_true] at hcs; exact ⟨_, _, _, hcs⟩
    · simp only [List.cons.injEq, and_true] at hcs; exact ⟨_, _, _, hcs⟩
  obtain ⟨z0, w0⟩ : ∃ zs, IsRow .u8 W a0 len0 cap0 zs := by
    obtain ⟨fuel, hf⟩ := (⟨m0, hs0⟩ : ∃ fuel, DataW.trod enc Try.prog W 0 (fun _ => true) true fuel 22 [.slice a0 len0 cap0] = some e0)
    rcases open_ints Try.underlying22 Try.underlying5 (by kernel_rfl) hf with ⟨hcs, _⟩ | ⟨x, l, c, zs, hcs, _, hl, hm, hz, hxx, hcell, hwz⟩
    · simp at hcs
      obtain ⟨rfl, rfl, rfl⟩ := hcs
      exact ⟨[], .inl ⟨rfl, rfl, rfl, rfl⟩⟩
    · simp at hcs
      obtain ⟨rfl, rfl, rfl⟩ := hcs
      have hd := congrArg Prod.fst hxx
      have hs := sized_slice (sized_in hsz (j := 0) (t := 24) rfl rfl) (j := 2) (t := 22) (e := 5) rfl (congrArg some hd) Try.underlying22
      rw [show Try.prog.bytesOf 5 = 1 from by kernel_rfl] at hs
      have hzl : zs.length = cap0 := by simpa using hz
      simp only [lits, List.length_map, List.length_take, List.length_drop, reachBytes] at hs
      exact ⟨zs, .inr ⟨_, rfl, hl, by omega, by simpa using hz, hcell, hwz⟩⟩
  clear hA0 hval0
  refine (walk r0 c0 a0 len0 cap0 z0 W u0 v0 w0).mono fun e W' ⟨he, bel⟩ => ?_
  subst he
  exact ⟨_, rfl, _, _, _, [], _, [], hW', trodAll_mk1 (shut_bool Try.underlying4 _), (trodAll_cons_mk (Below.trod laidOut (by kernel_rfl) (of_decide_eq_true (by kernel_rfl)) k0 bel lt0) trodAll_mk0), rfl, bel.frame _, fun h => by cases h⟩
theorem over : Rows.gaussBackRow.holds Try.pinned (OpenSpec.ofChange Rows.gaussBackSpec) :=
  OpenClaim.holds_of_wide 3 Try.f3 rfl rfl rfl rfl rfl rfl rfl ⟨rfl, rfl, rfl, rfl, rfl⟩ rfl rfl rfl rfl rfl (by kernel_rfl) Try.func3 (by kernel_rfl)
    (of_decide_eq_true (by kernel_rfl)) (by unfold Func.isWrapper; first | (rw [if_pos (by decide +kernel)]; kernel_rfl) | (rw [if_neg (by decide +kernel)]; exact ⟨rfl, rfl⟩))
    (fun os started H enc _ => lifted os started H enc)
theorem proved : Rows.GaussBackSaid := over
#print axioms proved
end Go.Proofs.Ytfplhaelpbocjab.gaussBack
