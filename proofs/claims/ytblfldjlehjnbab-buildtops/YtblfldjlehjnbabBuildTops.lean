/-
  Proved: for every matrix whose first rows are independent the program's Systematic has the identity on top, makes the same lists, and is itself once more; else there is an error (P5.5); no condition.
-/
import Derived.Test.YtblfldjlehjnbabGw
import Derived.WalkKit
import Derived.SizedLaws
import Derived.ProofKit
import Derived.OpenShut
import Derived.ShutString
import Derived.ChangeOld
import Derived.Below
import Derived.Lib.SmallJoins
import Derived.Deep.Matrix
namespace Go.Proofs.Ytblfldjlehjnbab.buildTops
open Go.ChangeShapes Go.WideShapes Go.ChangeAt Go.RowKit Go.Joins
set_option linter.unusedVariables false
theorem own : ownKnob Try.prog.godebug = none := by kernel_rfl
theorem laidOut : laidOutB Try.prog = true := by kernel_rfl
/-- A slice of integers that came in. -/
def IsRow (k : IntKind) (w : World) (a : Option Addr) (len cap : Nat) (zs : List Int) : Prop :=
  (a = none ∧ len = 0 ∧ cap = 0 ∧ zs = []) ∨
  ∃ x, a = some x ∧ len ≤ cap ∧ cap ≤ 140737488351232 ∧ zs.length = cap ∧ (∀ i, i < zs.length → w.cell? (x.add i) = some (.int k (zs.getD i 0))) ∧ ∀ n ∈ zs, (Lit.int k n).wf = true
/-- A slice of slices of bytes that came in. -/
def IsRows (w : World) (a : Option Addr) (len cap : Nat) : Prop :=
  (a = none ∧ len = 0 ∧ cap = 0) ∨
  ∃ x, a = some x ∧ len ≤ cap ∧ cap ≤ 140737488351232 ∧ ∀ r, r < cap → ∃ b l c zs, w.cell? (x.add r) = some (.slice b l c) ∧ IsRow .u8 w b l c zs
theorem sized_in {H : Type} {P : Program} {ts : List TypeId} {ds : List (DataW H)} (h : (DataW.weightsEach P ts ds).all (· ≤ reachBytes) = true) {j : Nat} {t : TypeId} {d : DataW H} (ht : ts[j]? = some t) (hd : ds[j]? = some d) : (d.weights P t).all (· ≤ reachBytes) = true :=
  List.all_eq_true.2 fun n hn => List.all_eq_true.1 h n (DataW.weights_mem_each ht hd n hn)
theorem sized_all {H : Type} {P : Program} {e : TypeId} : ∀ {ds : List (DataW H)}, (DataW.weightsAll P e ds).all (· ≤ reachBytes) = true → ∀ d ∈ ds, (d.weights P e).all (· ≤ reachBytes) = true
  | [], _, d, hd => by simp at hd
  | d0 :: r, h, d, hd => by
    simp only [DataW.weightsAll, List.all_append, Bool.and_eq_true] at h
    rcases List.mem_cons.1 hd with rfl | hd
    · exact h.1
    · exact sized_all h.2 d hd
theorem cellsM : Try.prog.cellsOf 24 = 3 := by kernel_rfl

set_option maxRecDepth 20000 in
set_option maxHeartbeats 8000000 in
theorem walk (r0 c0 : Int) (a0 : Option Addr) (len0 cap0 : Nat) (z0 : List Int) (w : World) (u0 : (Lit.int .i64 r0).wf = true) (v0 : (Lit.int .i64 c0).wf = true) (w0 : IsRow .u8 w a0 len0 cap0 z0) :
    Calls Try.prog 3 #[.agg #[.int .i64 r0, .int .i64 c0, .slice a0 len0 cap0]] w fun e w' => e = .returned (.bool true) ∧ Below w.heap.size w w' := by
  obtain ⟨F, hM, hn0⟩ := mt_of_row w a0 len0 cap0 z0 w0
  have HM : Hid (Mt w a0 len0 cap0 F) := hM
  clear w0 u0 v0 hn0
  obtain ⟨wb, HW⟩ : ∃ wb, Hid (wb = w.alloc (.cells #[.int .i64 r0, .int .i64 c0, .slice a0 len0 cap0] 24)) := ⟨_, rfl⟩
  have HVa : Hid (Vr wb w.heap.size (.int .i64 r0) (.int .i64 c0) (.slice a0 len0 cap0)) := by show Vr _ _ _ _ _; rw [HW.out]; exact Vr.new _ _ _ _
  have HB_0 : Hid (Below w.heap.size w wb) := by rw [HW.out]; exact alloc_low _ _
  have HF_m_0 : Hid (Mt wb a0 len0 cap0 F) := HM.out.later HB_0.out
  clear HM
  by_cases h : RightP r0 c0 len0 ∧ c0 ≤ r0
  · obtain ⟨h1, h2⟩ := h
    obtain ⟨r, c, rfl, rfl, R⟩ := right_rt h1
    have hcr : c ≤ r := by omega
    have HR : Hid (Rt r c len0) := R
    have HEl : Hid (El2 (m2 F c c)) := top_el hM R hcr
    have HFl : Hid (∀ i, i < len0 → F i < 256) := hM.sl.1
    have hr64 := R.r64
    have hc64 := R.c64
    obtain ⟨t, hk⟩ := rk_ex HEl.out c
    have htc : t ≤ c := hk.le (Le.refl HEl.out c)
    by_cases ht : t = c
    · have HK : Hid (Rk (m2 F c c) c c) := by rw [ht] at hk; exact hk
      obtain ⟨N, HN⟩ : ∃ n, Hid (c * c = n) := ⟨_, rfl⟩
      have HK0 : Hid (Hid (c + 0 = c)) := hid_of (hid_of rfl)
      have HRt : Hid (Rt c r len0) := rt_turn6 R
      have gg1 : ((r : Int) == (r : Int)) = true := by simp
      have gg2 : ((c : Int) == (c : Int)) = true := by simp
      clear h1 h2 R hM hk ht htc
      have HV_m_0 : Hid (Vr wb w.heap.size (.int .i64 (r : Int)) (.int .i64 (c : Int)) (.slice a0 len0 cap0)) := HVa.out
      have l_m_0_0 := HV_m_0.out.c0
      have l_m_1_0 := HV_m_0.out.c1
      have l_m_2_0 := HV_m_0.out.c2
      go_enter Try.func3, Try.ntmps3
      go_wp2_with (first
        | (go_at_call 12; have _x := HB_9; refine (rident_ok _ c N hc64 HN).mono ?_; rintro e w10 ⟨g10, rfl, hr, hg, hb⟩; have HB_10 : Hid (Below w.heap.size w (w10.alloc (.cells #[.int .i64 (c : Int), .int .i64 (c : Int), .slice (some ⟨g10, 0, none⟩) N N] 24))) := two_below (two_below HB_9.out hb) (alloc_low _ _); have HV_m_10 : Hid (Vr (w10.alloc (.cells #[.int .i64 (c : Int), .int .i64 (c : Int), .slice (some ⟨g10, 0, none⟩) N N] 24)) w.heap.size (.int .i64 (r : Int)) (.int .i64 (c : Int)) (.slice a0 len0 cap0)) := (HV_m_9.out.later hb).later (alloc_low _ _); have HV_s_10 : Hid (Vr (w10.alloc (.cells #[.int .i64 (c : Int), .int .i64 (c : Int), .slice (some ⟨g10, 0, none⟩) N N] 24)) w1.heap.size (.int .i64 (r : Int)) (.int .i64 (c : Int)) (.slice (some ⟨g1, 0, none⟩) len0 len0)) := (HV_s_9.out.later hb).later (alloc_low _ _); have HV_b_10 : Hid (Vr (w10.alloc (.cells #[.int .i64 (c : Int), .int .i64 (c : Int), .slice (some ⟨g10, 0, none⟩) N N] 24)) w2.heap.size (.int .i64 (r : Int)) (.int .i64 (c : Int)) (.slice (some ⟨g2, 0, none⟩) len0 len0)) := (HV_b_9.out.later hb).later (alloc_low _ _); have HV_t_10 : Hid (Vr (w10.alloc (.cells #[.int .i64 (c : Int), .int .i64 (c : Int), .slice (some ⟨g10, 0, none⟩) N N] 24)) w3.heap.size (.int .i64 (r : Int)) (.int .i64 (c : Int)) (.slice s3 len0 d3)) := (HV_t_9.out.later hb).later (alloc_low _ _); have HV_u_10 : Hid (Vr (w10.alloc (.cells #[.int .i64 (c : Int), .int .i64 (c : Int), .slice (some ⟨g10, 0, none⟩) N N] 24)) w6.heap.size (.int .i64 (c : Int)) (.int .i64 (r : Int)) (.slice s6 len0 d6)) := (HV_u_9.out.later hb).later (alloc_low _ _); have HV_v_10 : Hid (Vr (w10.alloc (.cells #[.int .i64 (c : Int), .int .i64 (c : Int), .slice (some ⟨g10, 0, none⟩) N N] 24)) w7.heap.size (.int .i64 (c : Int)) (.int .i64 (r : Int)) (.slice s7 len0 d7)) := (HV_v_9.out.later hb).later (alloc_low _ _); have HV_a_10 : Hid (Vr (w10.alloc (.cells #[.int .i64 (c : Int), .int .i64 (c : Int), .slice (some ⟨g10, 0, none⟩) N N] 24)) w8.heap.size (.int .i64 (c : Int)) (.int .i64 (r : Int)) (.slice s8 len0 d8)) := (HV_a_9.out.later hb).later (alloc_low _ _); have HV_d_10 : Hid (Vr (w10.alloc (.cells #[.int .i64 (c : Int), .int .i64 (c : Int), .slice (some ⟨g10, 0, none⟩) N N] 24)) w9.heap.size (.int .i64 (c : Int)) (.int .i64 (r : Int)) (.slice s9 len0 d9)) := (HV_d_9.out.later hb).later (alloc_low _ _); have HF_m_10 : Hid (Mt (w10.alloc (.cells #[.int .i64 (c : Int), .int .i64 (c : Int), .slice (some ⟨g10, 0, none⟩) N N] 24)) a0 len0 cap0 F) := (HF_m_9.out.later hb).later (alloc_low _ _); have HF_s_10 : Hid (Mt (w10.alloc (.cells #[.int .i64 (c : Int), .int .i64 (c : Int), .slice (some ⟨g10, 0, none⟩) N N] 24)) (some ⟨g1, 0, none⟩) len0 len0 Q) := (HF_s_9.out.later hb).later (alloc_low _ _); have HF_t_10 : Hid (Mt (w10.alloc (.cells #[.int .i64 (c : Int), .int .i64 (c : Int), .slice (some ⟨g10, 0, none⟩) N N] 24)) s3 len0 d3 Q) := (HF_t_9.out.later hb).later (alloc_low _ _); have HF_u_10 : Hid (Mt (w10.alloc (.cells #[.int .i64 (c : Int), .int .i64 (c : Int), .slice (some ⟨g10, 0, none⟩) N N] 24)) s6 len0 d6 (trf F r c)) := (HF_u_9.out.later hb).later (alloc_low _ _); have HF_v_10 : Hid (Mt (w10.alloc (.cells #[.int .i64 (c : Int), .int .i64 (c : Int), .slice (some ⟨g10, 0, none⟩) N N] 24)) s7 len0 d7 (trf Q r c)) := (HF_v_9.out.later hb).later (alloc_low _ _); have HF_a_10 : Hid (Mt (w10.alloc (.cells #[.int .i64 (c : Int), .int .i64 (c : Int), .slice (some ⟨g10, 0, none⟩) N N] 24)) s8 len0 d8 G8) := (HF_a_9.out.later hb).later (alloc_low _ _); have HF_d_10 : Hid (Mt (w10.alloc (.cells #[.int .i64 (c : Int), .int .i64 (c : Int), .slice (some ⟨g10, 0, none⟩) N N] 24)) s9 len0 d9 G9) := (HF_d_9.out.later hb).later (alloc_low _ _); have HV_i_10 : Hid (Vr (w10.alloc (.cells #[.int .i64 (c : Int), .int .i64 (c : Int), .slice (some ⟨g10, 0, none⟩) N N] 24)) w10.heap.size (.int .i64 (c : Int)) (.int .i64 (c : Int)) (.slice (some ⟨g10, 0, none⟩) N N)) := Vr.new w10 _ _ _; have HF_i_10 : Hid (Mt (w10.alloc (.cells #[.int .i64 (c : Int), .int .i64 (c : Int), .slice (some ⟨g10, 0, none⟩) N N] 24)) (some ⟨g10, 0, none⟩) N N (idf c)) := (hr.mt (fun p _ => idf_lt c p)).later (alloc_low _ _); clear hr hg; have l_s_0_10 := HV_s_10.out.c0; have l_s_1_10 := HV_s_10.out.c1; have l_s_2_10 := HV_s_10.out.c2; have l_m_0_10 := HV_m_10.out.c0; have l_m_1_10 := HV_m_10.out.c1; have l_m_2_10 := HV_m_10.out.c2; clear hb HV_m_9 HV_s_9 HV_b_9 HV_t_9 HV_u_9 HV_v_9 HV_a_9 HV_d_9 HF_m_9 HF_s_9 HF_t_9 HF_u_9 HF_v_9 HF_a_9 HF_d_9)
        | (go_at_call 11; have _x := HB_8; refine ((rred_a _ c r len0 d7 s7 _ HF_v_8.out.sl HF_v_8.out.nil HRt.out).mono (fun _ _ h => RedA.p h)).mono ?_; rintro e w9 ⟨s9, d9, ps9, pd9, top9, p9, G9, rfl, hm, hi9, hR9, hS9, hp9, hb⟩; have HB_9 : Hid (Below w.heap.size w (w9.alloc (.cells #[.int .i64 (c : Int), .int .i64 (r : Int), .slice s9 len0 d9] 24))) := two_below (two_below HB_8.out hb) (alloc_low _ _); have HV_m_9 : Hid (Vr (w9.alloc (.cells #[.int .i64 (c : Int), .int .i64 (r : Int), .slice s9 len0 d9] 24)) w.heap.size (.int .i64 (r : Int)) (.int .i64 (c : Int)) (.slice a0 len0 cap0)) := (HV_m_8.out.later hb).later (alloc_low _ _); have HV_s_9 : Hid (Vr (w9.alloc (.cells #[.int .i64 (c : Int), .int .i64 (r : Int), .slice s9 len0 d9] 24)) w1.heap.size (.int .i64 (r : Int)) (.int .i64 (c : Int)) (.slice (some ⟨g1, 0, none⟩) len0 len0)) := (HV_s_8.out.later hb).later (alloc_low _ _); have HV_b_9 : Hid (Vr (w9.alloc (.cells #[.int .i64 (c : Int), .int .i64 (r : Int), .slice s9 len0 d9] 24)) w2.heap.size (.int .i64 (r : Int)) (.int .i64 (c : Int)) (.slice (some ⟨g2, 0, none⟩) len0 len0)) := (HV_b_8.out.later hb).later (alloc_low _ _); have HV_t_9 : Hid (Vr (w9.alloc (.cells #[.int .i64 (c : Int), .int .i64 (r : Int), .slice s9 len0 d9] 24)) w3.heap.size (.int .i64 (r : Int)) (.int .i64 (c : Int)) (.slice s3 len0 d3)) := (HV_t_8.out.later hb).later (alloc_low _ _); have HV_u_9 : Hid (Vr (w9.alloc (.cells #[.int .i64 (c : Int), .int .i64 (r : Int), .slice s9 len0 d9] 24)) w6.heap.size (.int .i64 (c : Int)) (.int .i64 (r : Int)) (.slice s6 len0 d6)) := (HV_u_8.out.later hb).later (alloc_low _ _); have HV_v_9 : Hid (Vr (w9.alloc (.cells #[.int .i64 (c : Int), .int .i64 (r : Int), .slice s9 len0 d9] 24)) w7.heap.size (.int .i64 (c : Int)) (.int .i64 (r : Int)) (.slice s7 len0 d7)) := (HV_v_8.out.later hb).later (alloc_low _ _); have HV_a_9 : Hid (Vr (w9.alloc (.cells #[.int .i64 (c : Int), .int .i64 (r : Int), .slice s9 len0 d9] 24)) w8.heap.size (.int .i64 (c : Int)) (.int .i64 (r : Int)) (.slice s8 len0 d8)) := (HV_a_8.out.later hb).later (alloc_low _ _); have HF_m_9 : Hid (Mt (w9.alloc (.cells #[.int .i64 (c : Int), .int .i64 (r : Int), .slice s9 len0 d9] 24)) a0 len0 cap0 F) := (HF_m_8.out.later hb).later (alloc_low _ _); have HF_s_9 : Hid (Mt (w9.alloc (.cells #[.int .i64 (c : Int), .int .i64 (r : Int), .slice s9 len0 d9] 24)) (some ⟨g1, 0, none⟩) len0 len0 Q) := (HF_s_8.out.later hb).later (alloc_low _ _); have HF_t_9 : Hid (Mt (w9.alloc (.cells #[.int .i64 (c : Int), .int .i64 (r : Int), .slice s9 len0 d9] 24)) s3 len0 d3 Q) := (HF_t_8.out.later hb).later (alloc_low _ _); have HF_u_9 : Hid (Mt (w9.alloc (.cells #[.int .i64 (c : Int), .int .i64 (r : Int), .slice s9 len0 d9] 24)) s6 len0 d6 (trf F r c)) := (HF_u_8.out.later hb).later (alloc_low _ _); have HF_v_9 : Hid (Mt (w9.alloc (.cells #[.int .i64 (c : Int), .int .i64 (r : Int), .slice s9 len0 d9] 24)) s7 len0 d7 (trf Q r c)) := (HF_v_8.out.later hb).later (alloc_low _ _); have HF_a_9 : Hid (Mt (w9.alloc (.cells #[.int .i64 (c : Int), .int .i64 (r : Int), .slice s9 len0 d9] 24)) s8 len0 d8 G8) := (HF_a_8.out.later hb).later (alloc_low _ _); have HV_d_9 : Hid (Vr (w9.alloc (.cells #[.int .i64 (c : Int), .int .i64 (r : Int), .slice s9 len0 d9] 24)) w9.heap.size (.int .i64 (c : Int)) (.int .i64 (r : Int)) (.slice s9 len0 d9)) := Vr.new w9 _ _ _; have HF_d_9 : Hid (Mt (w9.alloc (.cells #[.int .i64 (c : Int), .int .i64 (r : Int), .slice s9 len0 d9] 24)) s9 len0 d9 G9) := (hm).later (alloc_low _ _); have HGG : Hid (∀ x, x < len0 → G8 x = G9 x) := (red_same HRt.out HR8.out HS8.out hR9 (hS9.trans HS1.out)).2.2; clear hm hi9 hR9 hS9 hp9; have l_m_0_9 := HV_m_9.out.c0; have l_m_1_9 := HV_m_9.out.c1; have l_m_2_9 := HV_m_9.out.c2; clear hb HV_m_8 HV_s_8 HV_b_8 HV_t_8 HV_u_8 HV_v_8 HV_a_8 HF_m_8 HF_s_8 HF_t_8 HF_u_8 HF_v_8 HF_a_8)
        | (go_at_call 11; have _x := HB_7; refine ((rred_a _ c r len0 d6 s6 _ HF_u_7.out.sl HF_u_7.out.nil HRt.out).mono (fun _ _ h => RedA.p h)).mono ?_; rintro e w8 ⟨s8, d8, ps8, pd8, top8, p8, G8, rfl, hm, hi8, hR8, hS8, hp8, hb⟩; have HB_8 : Hid (Below w.heap.size w (w8.alloc (.cells #[.int .i64 (c : Int), .int .i64 (r : Int), .slice s8 len0 d8] 24))) := two_below (two_below HB_7.out hb) (alloc_low _ _); have HV_m_8 : Hid (Vr (w8.alloc (.cells #[.int .i64 (c : Int), .int .i64 (r : Int), .slice s8 len0 d8] 24)) w.heap.size (.int .i64 (r : Int)) (.int .i64 (c : Int)) (.slice a0 len0 cap0)) := (HV_m_7.out.later hb).later (alloc_low _ _); have HV_s_8 : Hid (Vr (w8.alloc (.cells #[.int .i64 (c : Int), .int .i64 (r : Int), .slice s8 len0 d8] 24)) w1.heap.size (.int .i64 (r : Int)) (.int .i64 (c : Int)) (.slice (some ⟨g1, 0, none⟩) len0 len0)) := (HV_s_7.out.later hb).later (alloc_low _ _); have HV_b_8 : Hid (Vr (w8.alloc (.cells #[.int .i64 (c : Int), .int .i64 (r : Int), .slice s8 len0 d8] 24)) w2.heap.size (.int .i64 (r : Int)) (.int .i64 (c : Int)) (.slice (some ⟨g2, 0, none⟩) len0 len0)) := (HV_b_7.out.later hb).later (alloc_low _ _); have HV_t_8 : Hid (Vr (w8.alloc (.cells #[.int .i64 (c : Int), .int .i64 (r : Int), .slice s8 len0 d8] 24)) w3.heap.size (.int .i64 (r : Int)) (.int .i64 (c : Int)) (.slice s3 len0 d3)) := (HV_t_7.out.later hb).later (alloc_low _ _); have HV_u_8 : Hid (Vr (w8.alloc (.cells #[.int .i64 (c : Int), .int .i64 (r : Int), .slice s8 len0 d8] 24)) w6.heap.size (.int .i64 (c : Int)) (.int .i64 (r : Int)) (.slice s6 len0 d6)) := (HV_u_7.out.later hb).later (alloc_low _ _); have HV_v_8 : Hid (Vr (w8.alloc (.cells #[.int .i64 (c : Int), .int .i64 (r : Int), .slice s8 len0 d8] 24)) w7.heap.size (.int .i64 (c : Int)) (.int .i64 (r : Int)) (.slice s7 len0 d7)) := (HV_v_7.out.later hb).later (alloc_low _ _); have HF_m_8 : Hid (Mt (w8.alloc (.cells #[.int .i64 (c : Int), .int .i64 (r : Int), .slice s8 len0 d8] 24)) a0 len0 cap0 F) := (HF_m_7.out.later hb).later (alloc_low _ _); have HF_s_8 : Hid (Mt (w8.alloc (.cells #[.int .i64 (c : Int), .int .i64 (r : Int), .slice s8 len0 d8] 24)) (some ⟨g1, 0, none⟩) len0 len0 Q) := (HF_s_7.out.later hb).later (alloc_low _ _); have HF_t_8 : Hid (Mt (w8.alloc (.cells #[.int .i64 (c : Int), .int .i64 (r : Int), .slice s8 len0 d8] 24)) s3 len0 d3 Q) := (HF_t_7.out.later hb).later (alloc_low _ _); have HF_u_8 : Hid (Mt (w8.alloc (.cells #[.int .i64 (c : Int), .int .i64 (r : Int), .slice s8 len0 d8] 24)) s6 len0 d6 (trf F r c)) := (HF_u_7.out.later hb).later (alloc_low _ _); have HF_v_8 : Hid (Mt (w8.alloc (.cells #[.int .i64 (c : Int), .int .i64 (r : Int), .slice s8 len0 d8] 24)) s7 len0 d7 (trf Q r c)) := (HF_v_7.out.later hb).later (alloc_low _ _); have HV_a_8 : Hid (Vr (w8.alloc (.cells #[.int .i64 (c : Int), .int .i64 (r : Int), .slice s8 len0 d8] 24)) w8.heap.size (.int .i64 (c : Int)) (.int .i64 (r : Int)) (.slice s8 len0 d8)) := Vr.new w8 _ _ _; have HF_a_8 : Hid (Mt (w8.alloc (.cells #[.int .i64 (c : Int), .int .i64 (r : Int), .slice s8 len0 d8] 24)) s8 len0 d8 G8) := (hm).later (alloc_low _ _); have HR8 : Hid (Rdf (m2 G8 c r) c top8 p8) := hR8; have HS8 : Hid (SpEq (m2 G8 c r) c (m2 (trf F r c) c r) c) := hS8; clear hm hi8 hR8 hS8 hp8; have l_v_0_8 := HV_v_8.out.c0; have l_v_1_8 := HV_v_8.out.c1; have l_v_2_8 := HV_v_8.out.c2; clear hb HV_m_7 HV_s_7 HV_b_7 HV_t_7 HV_u_7 HV_v_7 HF_m_7 HF_s_7 HF_t_7 HF_u_7 HF_v_7)
        | (go_at_call 10; have _x := HB_6; refine (rtrans_ok _ r c len0 len0 _ Q HF_s_6.out.sl HR.out).mono ?_; rintro e w7 ⟨s7, d7, rfl, ho, hb⟩; have HB_7 : Hid (Below w.heap.size w (w7.alloc (.cells #[.int .i64 (c : Int), .int .i64 (r : Int), .slice s7 len0 d7] 24))) := two_below (two_below HB_6.out hb) (alloc_low _ _); have HV_m_7 : Hid (Vr (w7.alloc (.cells #[.int .i64 (c : Int), .int .i64 (r : Int), .slice s7 len0 d7] 24)) w.heap.size (.int .i64 (r : Int)) (.int .i64 (c : Int)) (.slice a0 len0 cap0)) := (HV_m_6.out.later hb).later (alloc_low _ _); have HV_s_7 : Hid (Vr (w7.alloc (.cells #[.int .i64 (c : Int), .int .i64 (r : Int), .slice s7 len0 d7] 24)) w1.heap.size (.int .i64 (r : Int)) (.int .i64 (c : Int)) (.slice (some ⟨g1, 0, none⟩) len0 len0)) := (HV_s_6.out.later hb).later (alloc_low _ _); have HV_b_7 : Hid (Vr (w7.alloc (.cells #[.int .i64 (c : Int), .int .i64 (r : Int), .slice s7 len0 d7] 24)) w2.heap.size (.int .i64 (r : Int)) (.int .i64 (c : Int)) (.slice (some ⟨g2, 0, none⟩) len0 len0)) := (HV_b_6.out.later hb).later (alloc_low _ _); have HV_t_7 : Hid (Vr (w7.alloc (.cells #[.int .i64 (c : Int), .int .i64 (r : Int), .slice s7 len0 d7] 24)) w3.heap.size (.int .i64 (r : Int)) (.int .i64 (c : Int)) (.slice s3 len0 d3)) := (HV_t_6.out.later hb).later (alloc_low _ _); have HV_u_7 : Hid (Vr (w7.alloc (.cells #[.int .i64 (c : Int), .int .i64 (r : Int), .slice s7 len0 d7] 24)) w6.heap.size (.int .i64 (c : Int)) (.int .i64 (r : Int)) (.slice s6 len0 d6)) := (HV_u_6.out.later hb).later (alloc_low _ _); have HF_m_7 : Hid (Mt (w7.alloc (.cells #[.int .i64 (c : Int), .int .i64 (r : Int), .slice s7 len0 d7] 24)) a0 len0 cap0 F) := (HF_m_6.out.later hb).later (alloc_low _ _); have HF_s_7 : Hid (Mt (w7.alloc (.cells #[.int .i64 (c : Int), .int .i64 (r : Int), .slice s7 len0 d7] 24)) (some ⟨g1, 0, none⟩) len0 len0 Q) := (HF_s_6.out.later hb).later (alloc_low _ _); have HF_t_7 : Hid (Mt (w7.alloc (.cells #[.int .i64 (c : Int), .int .i64 (r : Int), .slice s7 len0 d7] 24)) s3 len0 d3 Q) := (HF_t_6.out.later hb).later (alloc_low _ _); have HF_u_7 : Hid (Mt (w7.alloc (.cells #[.int .i64 (c : Int), .int .i64 (r : Int), .slice s7 len0 d7] 24)) s6 len0 d6 (trf F r c)) := (HF_u_6.out.later hb).later (alloc_low _ _); have HV_v_7 : Hid (Vr (w7.alloc (.cells #[.int .i64 (c : Int), .int .i64 (r : Int), .slice s7 len0 d7] 24)) w7.heap.size (.int .i64 (c : Int)) (.int .i64 (r : Int)) (.slice s7 len0 d7)) := Vr.new w7 _ _ _; have HF_v_7 : Hid (Mt (w7.alloc (.cells #[.int .i64 (c : Int), .int .i64 (r : Int), .slice s7 len0 d7] 24)) s7 len0 d7 (trf Q r c)) := (own_mt4 ho (trf_el4 HP1.out HR.out)).later (alloc_low _ _); clear ho; have l_u_0_7 := HV_u_7.out.c0; have l_u_1_7 := HV_u_7.out.c1; have l_u_2_7 := HV_u_7.out.c2; clear hb HV_m_6 HV_s_6 HV_b_6 HV_t_6 HV_u_6 HF_m_6 HF_s_6 HF_t_6 HF_u_6)
        | (go_at_call 10; have _x := HB_5; refine (rtrans_ok _ r c len0 cap0 a0 F HF_m_5.out.sl HR.out).mono ?_; rintro e w6 ⟨s6, d6, rfl, ho, hb⟩; have HB_6 : Hid (Below w.heap.size w (w6.alloc (.cells #[.int .i64 (c : Int), .int .i64 (r : Int), .slice s6 len0 d6] 24))) := two_below (two_below HB_5.out hb) (alloc_low _ _); have HV_m_6 : Hid (Vr (w6.alloc (.cells #[.int .i64 (c : Int), .int .i64 (r : Int), .slice s6 len0 d6] 24)) w.heap.size (.int .i64 (r : Int)) (.int .i64 (c : Int)) (.slice a0 len0 cap0)) := (HV_m_5.out.later hb).later (alloc_low _ _); have HV_s_6 : Hid (Vr (w6.alloc (.cells #[.int .i64 (c : Int), .int .i64 (r : Int), .slice s6 len0 d6] 24)) w1.heap.size (.int .i64 (r : Int)) (.int .i64 (c : Int)) (.slice (some ⟨g1, 0, none⟩) len0 len0)) := (HV_s_5.out.later hb).later (alloc_low _ _); have HV_b_6 : Hid (Vr (w6.alloc (.cells #[.int .i64 (c : Int), .int .i64 (r : Int), .slice s6 len0 d6] 24)) w2.heap.size (.int .i64 (r : Int)) (.int .i64 (c : Int)) (.slice (some ⟨g2, 0, none⟩) len0 len0)) := (HV_b_5.out.later hb).later (alloc_low _ _); have HV_t_6 : Hid (Vr (w6.alloc (.cells #[.int .i64 (c : Int), .int .i64 (r : Int), .slice s6 len0 d6] 24)) w3.heap.size (.int .i64 (r : Int)) (.int .i64 (c : Int)) (.slice s3 len0 d3)) := (HV_t_5.out.later hb).later (alloc_low _ _); have HF_m_6 : Hid (Mt (w6.alloc (.cells #[.int .i64 (c : Int), .int .i64 (r : Int), .slice s6 len0 d6] 24)) a0 len0 cap0 F) := (HF_m_5.out.later hb).later (alloc_low _ _); have HF_s_6 : Hid (Mt (w6.alloc (.cells #[.int .i64 (c : Int), .int .i64 (r : Int), .slice s6 len0 d6] 24)) (some ⟨g1, 0, none⟩) len0 len0 Q) := (HF_s_5.out.later hb).later (alloc_low _ _); have HF_t_6 : Hid (Mt (w6.alloc (.cells #[.int .i64 (c : Int), .int .i64 (r : Int), .slice s6 len0 d6] 24)) s3 len0 d3 Q) := (HF_t_5.out.later hb).later (alloc_low _ _); have HV_u_6 : Hid (Vr (w6.alloc (.cells #[.int .i64 (c : Int), .int .i64 (r : Int), .slice s6 len0 d6] 24)) w6.heap.size (.int .i64 (c : Int)) (.int .i64 (r : Int)) (.slice s6 len0 d6)) := Vr.new w6 _ _ _; have HF_u_6 : Hid (Mt (w6.alloc (.cells #[.int .i64 (c : Int), .int .i64 (r : Int), .slice s6 len0 d6] 24)) s6 len0 d6 (trf F r c)) := (own_mt4 ho (trf_el4 HFl.out HR.out)).later (alloc_low _ _); clear ho; have l_s_0_6 := HV_s_6.out.c0; have l_s_1_6 := HV_s_6.out.c1; have l_s_2_6 := HV_s_6.out.c2; clear hb HV_m_5 HV_s_5 HV_b_5 HV_t_5 HF_m_5 HF_s_5 HF_t_5)
        | (go_at_call 9; have _x := HB_4; refine (like_ans _ _ _ _ _ len0 _ _ Q Q HF_s_4.out HF_t_4.out (fun _ _ => rfl)).mono ?_; rintro e w5 ⟨rfl, hb⟩; have HB_5 : Hid (Below w.heap.size w w5) := two_below HB_4.out hb; have HV_m_5 : Hid (Vr w5 w.heap.size (.int .i64 (r : Int)) (.int .i64 (c : Int)) (.slice a0 len0 cap0)) := HV_m_4.out.later hb; have HV_s_5 : Hid (Vr w5 w1.heap.size (.int .i64 (r : Int)) (.int .i64 (c : Int)) (.slice (some ⟨g1, 0, none⟩) len0 len0)) := HV_s_4.out.later hb; have HV_b_5 : Hid (Vr w5 w2.heap.size (.int .i64 (r : Int)) (.int .i64 (c : Int)) (.slice (some ⟨g2, 0, none⟩) len0 len0)) := HV_b_4.out.later hb; have HV_t_5 : Hid (Vr w5 w3.heap.size (.int .i64 (r : Int)) (.int .i64 (c : Int)) (.slice s3 len0 d3)) := HV_t_4.out.later hb; have HF_m_5 : Hid (Mt w5 a0 len0 cap0 F) := HF_m_4.out.later hb; have HF_s_5 : Hid (Mt w5 (some ⟨g1, 0, none⟩) len0 len0 Q) := HF_s_4.out.later hb; have HF_t_5 : Hid (Mt w5 s3 len0 d3 Q) := HF_t_4.out.later hb; have l_s_0_5 := HV_s_5.out.c0; have l_s_1_5 := HV_s_5.out.c1; have l_s_2_5 := HV_s_5.out.c2; have l_m_0_5 := HV_m_5.out.c0; have l_m_1_5 := HV_m_5.out.c1; have l_m_2_5 := HV_m_5.out.c2; clear hb HV_m_4 HV_s_4 HV_b_4 HV_t_4 HF_m_4 HF_s_4 HF_t_4)
        | (go_at_call 8; have _x := HB_3; refine (right_yes _ _ _ _ _ _ HR.out.p).mono ?_; rintro e w4 ⟨rfl, hb⟩; have HB_4 : Hid (Below w.heap.size w w4) := two_below HB_3.out hb; have HV_m_4 : Hid (Vr w4 w.heap.size (.int .i64 (r : Int)) (.int .i64 (c : Int)) (.slice a0 len0 cap0)) := HV_m_3.out.later hb; have HV_s_4 : Hid (Vr w4 w1.heap.size (.int .i64 (r : Int)) (.int .i64 (c : Int)) (.slice (some ⟨g1, 0, none⟩) len0 len0)) := HV_s_3.out.later hb; have HV_b_4 : Hid (Vr w4 w2.heap.size (.int .i64 (r : Int)) (.int .i64 (c : Int)) (.slice (some ⟨g2, 0, none⟩) len0 len0)) := HV_b_3.out.later hb; have HV_t_4 : Hid (Vr w4 w3.heap.size (.int .i64 (r : Int)) (.int .i64 (c : Int)) (.slice s3 len0 d3)) := HV_t_3.out.later hb; have HF_m_4 : Hid (Mt w4 a0 len0 cap0 F) := HF_m_3.out.later hb; have HF_s_4 : Hid (Mt w4 (some ⟨g1, 0, none⟩) len0 len0 Q) := HF_s_3.out.later hb; have HF_t_4 : Hid (Mt w4 s3 len0 d3 Q) := HF_t_3.out.later hb; have l_s_0_4 := HV_s_4.out.c0; have l_s_1_4 := HV_s_4.out.c1; have l_s_2_4 := HV_s_4.out.c2; have l_t_0_4 := HV_t_4.out.c0; have l_t_1_4 := HV_t_4.out.c1; have l_t_2_4 := HV_t_4.out.c2; clear hb HV_m_3 HV_s_3 HV_b_3 HV_t_3 HF_m_3 HF_s_3 HF_t_3)
        | (go_at_call 5; have _x := HB_2; refine (HT1.out _ len0 (some ⟨g1, 0, none⟩) HF_s_2.out).mono ?_; rintro e w3 ⟨s3, d3, rfl, hm, hb⟩; have HB_3 : Hid (Below w.heap.size w (w3.alloc (.cells #[.int .i64 (r : Int), .int .i64 (c : Int), .slice s3 len0 d3] 24))) := two_below (two_below HB_2.out hb) (alloc_low _ _); have HV_m_3 : Hid (Vr (w3.alloc (.cells #[.int .i64 (r : Int), .int .i64 (c : Int), .slice s3 len0 d3] 24)) w.heap.size (.int .i64 (r : Int)) (.int .i64 (c : Int)) (.slice a0 len0 cap0)) := (HV_m_2.out.later hb).later (alloc_low _ _); have HV_s_3 : Hid (Vr (w3.alloc (.cells #[.int .i64 (r : Int), .int .i64 (c : Int), .slice s3 len0 d3] 24)) w1.heap.size (.int .i64 (r : Int)) (.int .i64 (c : Int)) (.slice (some ⟨g1, 0, none⟩) len0 len0)) := (HV_s_2.out.later hb).later (alloc_low _ _); have HV_b_3 : Hid (Vr (w3.alloc (.cells #[.int .i64 (r : Int), .int .i64 (c : Int), .slice s3 len0 d3] 24)) w2.heap.size (.int .i64 (r : Int)) (.int .i64 (c : Int)) (.slice (some ⟨g2, 0, none⟩) len0 len0)) := (HV_b_2.out.later hb).later (alloc_low _ _); have HF_m_3 : Hid (Mt (w3.alloc (.cells #[.int .i64 (r : Int), .int .i64 (c : Int), .slice s3 len0 d3] 24)) a0 len0 cap0 F) := (HF_m_2.out.later hb).later (alloc_low _ _); have HF_s_3 : Hid (Mt (w3.alloc (.cells #[.int .i64 (r : Int), .int .i64 (c : Int), .slice s3 len0 d3] 24)) (some ⟨g1, 0, none⟩) len0 len0 Q) := (HF_s_2.out.later hb).later (alloc_low _ _); have HV_t_3 : Hid (Vr (w3.alloc (.cells #[.int .i64 (r : Int), .int .i64 (c : Int), .slice s3 len0 d3] 24)) w3.heap.size (.int .i64 (r : Int)) (.int .i64 (c : Int)) (.slice s3 len0 d3)) := Vr.new w3 _ _ _; have HF_t_3 : Hid (Mt (w3.alloc (.cells #[.int .i64 (r : Int), .int .i64 (c : Int), .slice s3 len0 d3] 24)) s3 len0 d3 Q) := (hm).later (alloc_low _ _); clear hm; have l_s_0_3 := HV_s_3.out.c0; have l_s_1_3 := HV_s_3.out.c1; have l_s_2_3 := HV_s_3.out.c2; clear hb HV_m_2 HV_s_2 HV_b_2 HF_m_2 HF_s_2)
        | (go_at_call 6; have _x := HB_1; refine (rsys_p _ r c len0 cap0 a0 F HF_m_1.out HR.out hcr HK.out).mono ?_; rintro e w2 ⟨g2, X2, rfl, hr, hX, hp, hg, hb⟩; have HB_2 : Hid (Below w.heap.size w (w2.alloc (.cells #[.int .i64 (r : Int), .int .i64 (c : Int), .slice (some ⟨g2, 0, none⟩) len0 len0] 24))) := two_below (two_below HB_1.out hb) (alloc_low _ _); have HV_m_2 : Hid (Vr (w2.alloc (.cells #[.int .i64 (r : Int), .int .i64 (c : Int), .slice (some ⟨g2, 0, none⟩) len0 len0] 24)) w.heap.size (.int .i64 (r : Int)) (.int .i64 (c : Int)) (.slice a0 len0 cap0)) := (HV_m_1.out.later hb).later (alloc_low _ _); have HV_s_2 : Hid (Vr (w2.alloc (.cells #[.int .i64 (r : Int), .int .i64 (c : Int), .slice (some ⟨g2, 0, none⟩) len0 len0] 24)) w1.heap.size (.int .i64 (r : Int)) (.int .i64 (c : Int)) (.slice (some ⟨g1, 0, none⟩) len0 len0)) := (HV_s_1.out.later hb).later (alloc_low _ _); have HF_m_2 : Hid (Mt (w2.alloc (.cells #[.int .i64 (r : Int), .int .i64 (c : Int), .slice (some ⟨g2, 0, none⟩) len0 len0] 24)) a0 len0 cap0 F) := (HF_m_1.out.later hb).later (alloc_low _ _); have HF_s_2 : Hid (Mt (w2.alloc (.cells #[.int .i64 (r : Int), .int .i64 (c : Int), .slice (some ⟨g2, 0, none⟩) len0 len0] 24)) (some ⟨g1, 0, none⟩) len0 len0 Q) := (HF_s_1.out.later hb).later (alloc_low _ _); have HV_b_2 : Hid (Vr (w2.alloc (.cells #[.int .i64 (r : Int), .int .i64 (c : Int), .slice (some ⟨g2, 0, none⟩) len0 len0] 24)) w2.heap.size (.int .i64 (r : Int)) (.int .i64 (c : Int)) (.slice (some ⟨g2, 0, none⟩) len0 len0)) := Vr.new w2 _ _ _; clear hr hX hp hg; have l_s_0_2 := HV_s_2.out.c0; have l_s_1_2 := HV_s_2.out.c1; have l_s_2_2 := HV_s_2.out.c2; clear hb HV_m_1 HV_s_1 HF_m_1 HF_s_1)
        | (go_at_call 5; rw [← HW.out]; refine (bsys_ok _ r c len0 cap0 a0 F HF_m_0.out HR.out hcr HK.out).mono ?_; rintro e w1 ⟨g1, X, rfl, hr, hX, hp, hg, hb⟩; have hS1 := sys_span HFl.out HR.out hcr HK.out hX hp; have hT1 : ∀ (w : World) (k : Nat) (a : Option Addr), Mt w a len0 k (prk F X c c c) → Calls Try.prog 5 #[mv r c a len0 k] w fun e w' => MAns w w' e r c len0 (prk F X c c c) 0 := fun w k a ha => sys_twice HFl.out HR.out hcr hp w k a ha; have hP1 := prk_all X HFl.out HR.out HR.out; have hJ1 : ∀ q : Nat → Nat, (∀ i, i < c → q i = i) → ∀ p, p < c * c → pkf (prk F X c c c) q c p = idf c p := fun q hq => first_sys hc64 hp hq; obtain ⟨Q, HQ⟩ : ∃ x, Hid (prk F X c c c = x) := ⟨_, rfl⟩; rw [HQ.out] at hr hS1 hT1 hP1 hJ1; have HS1 := hid_of hS1; have HT1 := hid_of hT1; have HP1 := hid_of hP1; have HJ1 := hid_of hJ1; clear hS1 hT1 hJ1; have HB_1 : Hid (Below w.heap.size w (w1.alloc (.cells #[.int .i64 (r : Int), .int .i64 (c : Int), .slice (some ⟨g1, 0, none⟩) len0 len0] 24))) := two_below (two_below HB_0.out hb) (alloc_low _ _); have HV_m_1 : Hid (Vr (w1.alloc (.cells #[.int .i64 (r : Int), .int .i64 (c : Int), .slice (some ⟨g1, 0, none⟩) len0 len0] 24)) w.heap.size (.int .i64 (r : Int)) (.int .i64 (c : Int)) (.slice a0 len0 cap0)) := (HV_m_0.out.later hb).later (alloc_low _ _); have HF_m_1 : Hid (Mt (w1.alloc (.cells #[.int .i64 (r : Int), .int .i64 (c : Int), .slice (some ⟨g1, 0, none⟩) len0 len0] 24)) a0 len0 cap0 F) := (HF_m_0.out.later hb).later (alloc_low _ _); have HV_s_1 : Hid (Vr (w1.alloc (.cells #[.int .i64 (r : Int), .int .i64 (c : Int), .slice (some ⟨g1, 0, none⟩) len0 len0] 24)) w1.heap.size (.int .i64 (r : Int)) (.int .i64 (c : Int)) (.slice (some ⟨g1, 0, none⟩) len0 len0)) := Vr.new w1 _ _ _; have HF_s_1 : Hid (Mt (w1.alloc (.cells #[.int .i64 (r : Int), .int .i64 (c : Int), .slice (some ⟨g1, 0, none⟩) len0 len0] 24)) (some ⟨g1, 0, none⟩) len0 len0 Q) := (hr.mt hP1).later (alloc_low _ _); clear hr hX hp hg hP1; have l_m_0_1 := HV_m_1.out.c0; have l_m_1_1 := HV_m_1.out.c1; have l_m_2_1 := HV_m_1.out.c2; clear hb HV_m_0 HF_m_0))
      obtain ⟨wq, HWq⟩ : ∃ x, Hid (x = (w10.alloc (.cells #[.int .i64 (c : Int), .int .i64 (c : Int), .slice (some ⟨g10, 0, none⟩) N N] 24))) := ⟨_, rfl⟩
      rw [← HWq.out]
      have HVs : Hid (Vr wq w1.heap.size (.int .i64 (r : Int)) (.int .i64 (c : Int)) (.slice (some ⟨g1, 0, none⟩) len0 len0)) := by rw [HWq.out]; exact HV_s_10.out
      have HVm : Hid (Vr wq w.heap.size (.int .i64 (r : Int)) (.int .i64 (c : Int)) (.slice a0 len0 cap0)) := by rw [HWq.out]; exact HV_m_10.out
      have HVA : Hid (Vr wq w8.heap.size (.int .i64 (c : Int)) (.int .i64 (r : Int)) (.slice s8 len0 d8)) := by rw [HWq.out]; exact HV_a_10.out
      have HVD : Hid (Vr wq w9.heap.size (.int .i64 (c : Int)) (.int .i64 (r : Int)) (.slice s9 len0 d9)) := by rw [HWq.out]; exact HV_d_10.out
      have HVI : Hid (Vr wq w10.heap.size (.int .i64 (c : Int)) (.int .i64 (c : Int)) (.slice (some ⟨g10, 0, none⟩) N N)) := by rw [HWq.out]; exact HV_i_10.out
      have HFs : Hid (Mt wq (some ⟨g1, 0, none⟩) len0 len0 Q) := by rw [HWq.out]; exact HF_s_10.out
      have HFA : Hid (Mt wq s8 len0 d8 G8) := by rw [HWq.out]; exact HF_a_10.out
      have HFD : Hid (Mt wq s9 len0 d9 G9) := by rw [HWq.out]; exact HF_d_10.out
      have HFI : Hid (Mt wq (some ⟨g10, 0, none⟩) N N (idf c)) := by rw [HWq.out]; exact HF_i_10.out
      have HBq : Hid (Below w.heap.size w wq) := by rw [HWq.out]; exact HB_10.out
      clear HV_m_10 HV_s_10 HV_b_10 HV_t_10 HV_u_10 HV_v_10 HV_a_10 HV_d_10 HV_i_10 HF_m_10 HF_s_10 HF_t_10 HF_u_10 HF_v_10 HF_a_10 HF_d_10 HF_i_10 l_s_0_10 l_s_1_10 l_s_2_10 l_m_0_10 l_m_1_10 l_m_2_10
      refine wp_region_held (S := fun w' => w'.cell? ⟨w1.heap.size, 0, none⟩ = some (.int .i64 (r : Int)) ∧ w'.cell? ⟨w1.heap.size, 1, none⟩ = some (.int .i64 (c : Int)) ∧ w'.cell? ⟨w1.heap.size, 2, none⟩ = some (.slice (some ⟨g1, 0, none⟩) len0 len0) ∧ w'.cell? ⟨w.heap.size, 1, none⟩ = some (.int .i64 (c : Int))) (by kernel_rfl) ?_
      change wpAnyH _ _ _ _ _ _ _ _ (World.drew _)
      obtain ⟨x0, HX0⟩ : ∃ x, Hid (x = wq.drew) := ⟨_, rfl⟩
      rw [← HX0.out]
      have HB_x0 : Hid (Below wq.heap.size wq x0) := by rw [HX0.out]; exact (Below.refl _ _).drew
      have HD_x0 : Hid (x0.cell? ⟨w1.heap.size, 0, none⟩ = some (.int .i64 (r : Int)) ∧ x0.cell? ⟨w1.heap.size, 1, none⟩ = some (.int .i64 (c : Int)) ∧ x0.cell? ⟨w1.heap.size, 2, none⟩ = some (.slice (some ⟨g1, 0, none⟩) len0 len0) ∧ x0.cell? ⟨w.heap.size, 1, none⟩ = some (.int .i64 (c : Int))) := ⟨(HVs.out.later HB_x0.out).c0, (HVs.out.later HB_x0.out).c1, (HVs.out.later HB_x0.out).c2, (HVm.out.later HB_x0.out).c1⟩
      refine wpAnyH_take (i := 0) (v := ?va0) rfl (by kernel_rfl) (by kernel_rfl) (by kernel_rfl) (fun _ _ _ h => h) (Or.inl ⟨by rfl, ?ya0⟩) HD_x0.out ?za0
      case ya0 => (intro w hSw; (try dsimp only at hSw); go_simp; try with_reducible rfl)
      try simp only [List.getElem_toArray, List.getElem_cons_zero, Act.put, List.setIfInBounds_toArray, List.set_cons_zero, List.set_cons_succ]
      refine wpAnyH_take (i := 1) (v := ?va1) rfl (by kernel_rfl) (by kernel_rfl) (by kernel_rfl) (fun _ _ _ h => h) (Or.inl ⟨by rfl, ?ya1⟩) HD_x0.out ?za1
      case ya1 => (intro w hSw; (try dsimp only at hSw); go_simp; try with_reducible rfl)
      try simp only [List.getElem_toArray, List.getElem_cons_succ, List.getElem_cons_zero, Act.put, List.setIfInBounds_toArray, List.set_cons_zero, List.set_cons_succ]
      refine wpAnyH_take (i := 2) (v := ?va2) rfl (by kernel_rfl) (by kernel_rfl) (by kernel_rfl) (fun _ _ _ h => h) (Or.inl ⟨by rfl, ?ya2⟩) HD_x0.out ?za2
      case ya2 => (intro w hSw; (try dsimp only at hSw); go_simp; try with_reducible rfl)
      try simp only [List.getElem_toArray, List.getElem_cons_succ, List.getElem_cons_zero, Act.put, List.setIfInBounds_toArray, List.set_cons_zero, List.set_cons_succ]
      refine wpAnyH_ready (rs := [3, 8]) (by kernel_rfl) (by simp) ?_
      refine AllReadyH.cons rfl (fun K hK => ?_) (AllReadyH.cons rfl (fun K hK => ?_) AllReadyH.nil)
      · go_simp
        refine (chosen_any _ c 0 0 0 c none (fun _ => 0) (Sl.nil _ _ _) (by omega) HK0.out hc64 (.inr rfl)).mono ?_
        rintro e x1 ⟨g3, q3, rfl, hi3, hq3, hz3, hg3, hb3⟩
        have HO_x1 : Hid (IRowAt x1 g3 c q3) := hi3
        have HQ3 : Hid (∀ i, i < c → q3 i = i) := hz3 rfl
        have HB_x1 : Hid (Below wq.heap.size wq x1) := two_below HB_x0.out hb3
        have HD_x1 : Hid (x1.cell? ⟨w1.heap.size, 0, none⟩ = some (.int .i64 (r : Int)) ∧ x1.cell? ⟨w1.heap.size, 1, none⟩ = some (.int .i64 (c : Int)) ∧ x1.cell? ⟨w1.heap.size, 2, none⟩ = some (.slice (some ⟨g1, 0, none⟩) len0 len0) ∧ x1.cell? ⟨w.heap.size, 1, none⟩ = some (.int .i64 (c : Int))) := ⟨(HVs.out.later HB_x1.out).c0, (HVs.out.later HB_x1.out).c1, (HVs.out.later HB_x1.out).c2, (HVm.out.later HB_x1.out).c1⟩
        clear hi3 hq3 hz3 hg3 hb3
        refine hK.out _ _ HD_x1.out (fun _ => ?_)
        clear hK K
        try simp only [List.getElem_toArray, List.getElem_cons_succ, List.getElem_cons_zero, Act.put, List.setIfInBounds_toArray, List.set_cons_zero, List.set_cons_succ]
        refine wpAnyH_ready (rs := [4, 8]) (by kernel_rfl) (by simp) ?_
        refine AllReadyH.cons rfl (fun K hK => ?_) (AllReadyH.cons rfl (fun K hK => ?_) AllReadyH.nil)
        · go_simp
          refine (rpick_ok _ r c len0 len0 c c N (some ⟨g1, 0, none⟩) (some ⟨g3, 0, none⟩) Q q3 (HFs.out.later HB_x1.out).sl HR.out HO_x1.out.il (fun i hi => by rw [HQ3.out i hi]; omega) hc64 HN).mono ?_
          rintro e x2 ⟨s4, d4, rfl, ho4, hb4⟩
          have HM_x2 : Hid (Mt x2 s4 N d4 (idf c)) := (own_mt4 ho4 (by rw [← HN.out]; exact pkf_el HP1.out HR.out (fun i hi => by rw [HQ3.out i hi]; omega))).congr (by rw [← HN.out]; exact HJ1.out q3 HQ3.out)
          have HI4 : Hid (Iv6 x1.heap.size x2.heap.size s4) := own_iv6 ho4
          have HB_x2 : Hid (Below wq.heap.size wq x2) := two_below HB_x1.out hb4
          have HD_x2 : Hid (x2.cell? ⟨w1.heap.size, 0, none⟩ = some (.int .i64 (r : Int)) ∧ x2.cell? ⟨w1.heap.size, 1, none⟩ = some (.int .i64 (c : Int)) ∧ x2.cell? ⟨w1.heap.size, 2, none⟩ = some (.slice (some ⟨g1, 0, none⟩) len0 len0) ∧ x2.cell? ⟨w.heap.size, 1, none⟩ = some (.int .i64 (c : Int))) := ⟨(HVs.out.later HB_x2.out).c0, (HVs.out.later HB_x2.out).c1, (HVs.out.later HB_x2.out).c2, (HVm.out.later HB_x2.out).c1⟩
          clear ho4 hb4
          refine hK.out _ _ HD_x2.out (fun _ => ?_)
          clear hK K
          try simp only [List.getElem_toArray, List.getElem_cons_succ, List.getElem_cons_zero, Act.put, List.setIfInBounds_toArray, List.set_cons_zero, List.set_cons_succ]
          refine wpAnyH_take (i := 5) (v := ?ve5) rfl (by kernel_rfl) (by kernel_rfl) (by kernel_rfl) (fun _ _ _ h => h) (Or.inl ⟨by rfl, ?ye5⟩) HD_x2.out ?ze5
          case ye5 => (intro w hSw; (try dsimp only at hSw); go_simp; try with_reducible rfl)
          try simp only [List.getElem_toArray, List.getElem_cons_succ, List.getElem_cons_zero, Act.put, List.setIfInBounds_toArray, List.set_cons_zero, List.set_cons_succ]
          refine wpAnyH_take (i := 6) (v := ?ve6) rfl (by kernel_rfl) (by kernel_rfl) (by kernel_rfl) (fun _ _ _ h => h) (Or.inl ⟨by rfl, ?ye6⟩) HD_x2.out ?ze6
          case ye6 => (intro w hSw; (try dsimp only at hSw); go_simp; try with_reducible rfl)
          try simp only [List.getElem_toArray, List.getElem_cons_succ, List.getElem_cons_zero, Act.put, List.setIfInBounds_toArray, List.set_cons_zero, List.set_cons_succ]
          refine wpAnyH_take (i := 7) (v := ?ve7) rfl (by kernel_rfl) (by kernel_rfl) (by kernel_rfl) (fun _ _ _ h => h) (Or.inl ⟨by rfl, ?ye7⟩) HD_x2.out ?ze7
          case ye7 => (intro w hSw; (try dsimp only at hSw); go_simp; try with_reducible rfl)
          try simp only [List.getElem_toArray, List.getElem_cons_succ, List.getElem_cons_zero, Act.put, List.setIfInBounds_toArray, List.set_cons_zero, List.set_cons_succ]
          refine wpAnyH_ready (rs := [8]) (by kernel_rfl) (by simp) ?_
          refine AllReadyH.cons rfl (fun K hK => ?_) AllReadyH.nil
          go_simp
          obtain ⟨x3, HWx3⟩ : ∃ x, Hid (x = x2.alloc (.cells #[.int .i64 0, .int .i64 0, .slice none 0 0] 24)) := ⟨_, rfl⟩
          rw [← HWx3.out]
          have hbx3 : Below x2.heap.size x2 x3 := by rw [HWx3.out]; exact alloc_low _ _
          have HT_x3 : Hid (Vr x3 x2.heap.size (.int .i64 0) (.int .i64 0) (.slice none 0 0)) := by rw [HWx3.out]; exact Vr.new x2 _ _ _
          have HB_x3 : Hid (Below wq.heap.size wq x3) := two_below HB_x2.out hbx3
          have HD_x3 : Hid (x3.cell? ⟨w1.heap.size, 0, none⟩ = some (.int .i64 (r : Int)) ∧ x3.cell? ⟨w1.heap.size, 1, none⟩ = some (.int .i64 (c : Int)) ∧ x3.cell? ⟨w1.heap.size, 2, none⟩ = some (.slice (some ⟨g1, 0, none⟩) len0 len0) ∧ x3.cell? ⟨w.heap.size, 1, none⟩ = some (.int .i64 (c : Int))) := ⟨(HVs.out.later HB_x3.out).c0, (HVs.out.later HB_x3.out).c1, (HVs.out.later HB_x3.out).c2, (HVm.out.later HB_x3.out).c1⟩
          have HM_x3 : Hid (Mt x3 s4 N d4 (idf c)) := HM_x2.out.later hbx3
          have hne4 : ∀ x, s4 = some x → x.block ≠ x2.heap.size := fun x hx => Nat.ne_of_lt (HI4.out x hx).2
          clear hbx3
          refine hK.out _ _ HD_x3.out (fun _ => ?_)
          clear hK K
          try simp only [List.getElem_toArray, List.getElem_cons_succ, List.getElem_cons_zero, Act.put, List.setIfInBounds_toArray, List.set_cons_zero, List.set_cons_succ]
          refine wpAnyH_ready (rs := [9]) (by kernel_rfl) (by simp) ?_
          refine AllReadyH.cons rfl (fun K hK => ?_) AllReadyH.nil
          refine step_store_var rfl _ _ rfl x2.heap.size _ _ _ (.int .i64 (c : Int)) (.int .i64 (c : Int)) (.slice s4 N d4) rfl rfl HT_x3.out rfl rfl rfl ?_
          intro x4 HVt HGt
          have hbB : wq.heap.size ≤ x2.heap.size := HB_x2.out.size
          have HB_x4 : Hid (Below wq.heap.size wq x4) := below_row HB_x3.out HGt.out hbB
          have HD_x4 : Hid (x4.cell? ⟨w1.heap.size, 0, none⟩ = some (.int .i64 (r : Int)) ∧ x4.cell? ⟨w1.heap.size, 1, none⟩ = some (.int .i64 (c : Int)) ∧ x4.cell? ⟨w1.heap.size, 2, none⟩ = some (.slice (some ⟨g1, 0, none⟩) len0 len0) ∧ x4.cell? ⟨w.heap.size, 1, none⟩ = some (.int .i64 (c : Int))) := ⟨(HVs.out.later HB_x4.out).c0, (HVs.out.later HB_x4.out).c1, (HVs.out.later HB_x4.out).c2, (HVm.out.later HB_x4.out).c1⟩
          have HM_x4 : Hid (Mt x4 s4 N d4 (idf c)) := HM_x3.out.kept HGt.out (fun _ x hx e => hne4 x hx e)
          refine hK.out _ _ HD_x4.out (fun _ => ?_)
          clear hK K
          try simp only [List.getElem_toArray, List.getElem_cons_succ, List.getElem_cons_zero, Act.put]
          refine wpAnyH_take (i := 10) (v := ?vb10) rfl (by kernel_rfl) (by kernel_rfl) (by kernel_rfl) (fun _ _ _ h => h) (Or.inl ⟨by rfl, ?yb10⟩) HD_x4.out ?zb10
          case yb10 => (intro w hSw; (try dsimp only at hSw); go_simp; try with_reducible rfl)
          try simp only [List.getElem_toArray, List.getElem_cons_succ, List.getElem_cons_zero, Act.put, List.setIfInBounds_toArray, List.set_cons_zero, List.set_cons_succ]
          refine wpAnyH_done (by kernel_rfl) ?_ _
          go_wp2_with (first
            | (go_at_call 9; have _x := HBy; refine (like_ans _ _ _ _ _ N _ _ (idf c) (idf c) HMw2.out (HFI.out.later HBy.out) (fun _ _ => rfl)).mono ?_; rintro e w14 ⟨rfl, hb14⟩; have HBx : Hid (Below wq.heap.size wq w14) := two_below HBy.out hb14; clear hb14)
            | (go_at_call 9; have _x := HBz; refine (like_ans _ _ _ _ _ len0 _ _ G8 G9 (HFA.out.later HBz.out) (HFD.out.later HBz.out) HGG.out).mono ?_; rintro e w13 ⟨rfl, hb13⟩; have HBy : Hid (Below wq.heap.size wq w13) := two_below HBz.out hb13; have HMw2 : Hid (Mt w13 s4 N d4 (idf c)) := HMw.out.later hb13; have hvw := HVw.out.later hb13; have hvi := HVI.out.later HBy.out; have zw0 := hvw.c0; have zw1 := hvw.c1; have zw2 := hvw.c2; have zi0 := hvi.c0; have zi1 := hvi.c1; have zi2 := hvi.c2; clear hvw hvi hb13 HBz)
            | (go_at_call 7; refine (anch5_any _).mono ?_; rintro e w12 ⟨rfl, hb12⟩; have HBz : Hid (Below wq.heap.size wq w12) := two_below HB_x4.out hb12; have HMw : Hid (Mt w12 s4 N d4 (idf c)) := HM_x4.out.later hb12; have HVw : Hid (Vr w12 x2.heap.size (.int .i64 (c : Int)) (.int .i64 (c : Int)) (.slice s4 N d4)) := HVt.out.later hb12; have hva := HVA.out.later HBz.out; have hvd := HVD.out.later HBz.out; have za0 := hva.c0; have za1 := hva.c1; have za2 := hva.c2; have zd0 := hvd.c0; have zd1 := hvd.c1; have zd2 := hvd.c2; clear hva hvd hb12))
          go_ret
          exact ⟨rfl, two_below HBq.out HBx.out⟩
        · go_simp
          obtain ⟨x2, HWx2⟩ : ∃ x, Hid (x = x1.alloc (.cells #[.int .i64 0, .int .i64 0, .slice none 0 0] 24)) := ⟨_, rfl⟩
          rw [← HWx2.out]
          have hbx2 : Below x1.heap.size x1 x2 := by rw [HWx2.out]; exact alloc_low _ _
          have HT_x2 : Hid (Vr x2 x1.heap.size (.int .i64 0) (.int .i64 0) (.slice none 0 0)) := by rw [HWx2.out]; exact Vr.new x1 _ _ _
          have HB_x2 : Hid (Below wq.heap.size wq x2) := two_below HB_x1.out hbx2
          have HD_x2 : Hid (x2.cell? ⟨w1.heap.size, 0, none⟩ = some (.int .i64 (r : Int)) ∧ x2.cell? ⟨w1.heap.size, 1, none⟩ = some (.int .i64 (c : Int)) ∧ x2.cell? ⟨w1.heap.size, 2, none⟩ = some (.slice (some ⟨g1, 0, none⟩) len0 len0) ∧ x2.cell? ⟨w.heap.size, 1, none⟩ = some (.int .i64 (c : Int))) := ⟨(HVs.out.later HB_x2.out).c0, (HVs.out.later HB_x2.out).c1, (HVs.out.later HB_x2.out).c2, (HVm.out.later HB_x2.out).c1⟩
          have HO_x2 : Hid (IRowAt x2 g3 c q3) := HO_x1.out.later hbx2
          refine hK.out _ _ HD_x2.out (fun _ => ?_)
          clear hK K
          try simp only [List.getElem_toArray, List.getElem_cons_succ, List.getElem_cons_zero, Act.put, List.setIfInBounds_toArray, List.set_cons_zero, List.set_cons_succ]
          refine wpAnyH_ready (rs := [4]) (by kernel_rfl) (by simp) ?_
          refine AllReadyH.cons rfl (fun K hK => ?_) AllReadyH.nil
          go_simp
          refine (rpick_ok _ r c len0 len0 c c N (some ⟨g1, 0, none⟩) (some ⟨g3, 0, none⟩) Q q3 (HFs.out.later HB_x2.out).sl HR.out HO_x2.out.il (fun i hi => by rw [HQ3.out i hi]; omega) hc64 HN).mono ?_
          rintro e x3 ⟨s4, d4, rfl, ho4, hb4⟩
          have HM_x3 : Hid (Mt x3 s4 N d4 (idf c)) := (own_mt4 ho4 (by rw [← HN.out]; exact pkf_el HP1.out HR.out (fun i hi => by rw [HQ3.out i hi]; omega))).congr (by rw [← HN.out]; exact HJ1.out q3 HQ3.out)
          have HI4 : Hid (Iv6 x2.heap.size x3.heap.size s4) := own_iv6 ho4
          have HB_x3 : Hid (Below wq.heap.size wq x3) := two_below HB_x2.out hb4
          have HD_x3 : Hid (x3.cell? ⟨w1.heap.size, 0, none⟩ = some (.int .i64 (r : Int)) ∧ x3.cell? ⟨w1.heap.size, 1, none⟩ = some (.int .i64 (c : Int)) ∧ x3.cell? ⟨w1.heap.size, 2, none⟩ = some (.slice (some ⟨g1, 0, none⟩) len0 len0) ∧ x3.cell? ⟨w.heap.size, 1, none⟩ = some (.int .i64 (c : Int))) := ⟨(HVs.out.later HB_x3.out).c0, (HVs.out.later HB_x3.out).c1, (HVs.out.later HB_x3.out).c2, (HVm.out.later HB_x3.out).c1⟩
          have HT_x3 : Hid (Vr x3 x1.heap.size (.int .i64 0) (.int .i64 0) (.slice none 0 0)) := HT_x2.out.later hb4
          have hne4 : ∀ x, s4 = some x → x.block ≠ x1.heap.size := fun x hx e => by have := (HI4.out x hx).1; have := HT_x2.out.lt; omega
          clear ho4 hb4
          refine hK.out _ _ HD_x3.out (fun _ => ?_)
          clear hK K
          try simp only [List.getElem_toArray, List.getElem_cons_succ, List.getElem_cons_zero, Act.put, List.setIfInBounds_toArray, List.set_cons_zero, List.set_cons_succ]
          refine wpAnyH_take (i := 5) (v := ?vc5) rfl (by kernel_rfl) (by kernel_rfl) (by kernel_rfl) (fun _ _ _ h => h) (Or.inl ⟨by rfl, ?yc5⟩) HD_x3.out ?zc5
          case yc5 => (intro w hSw; (try dsimp only at hSw); go_simp; try with_reducible rfl)
          try simp only [List.getElem_toArray, List.getElem_cons_succ, List.getElem_cons_zero, Act.put, List.setIfInBounds_toArray, List.set_cons_zero, List.set_cons_succ]
          refine wpAnyH_take (i := 6) (v := ?vc6) rfl (by kernel_rfl) (by kernel_rfl) (by kernel_rfl) (fun _ _ _ h => h) (Or.inl ⟨by rfl, ?yc6⟩) HD_x3.out ?zc6
          case yc6 => (intro w hSw; (try dsimp only at hSw); go_simp; try with_reducible rfl)
          try simp only [List.getElem_toArray, List.getElem_cons_succ, List.getElem_cons_zero, Act.put, List.setIfInBounds_toArray, List.set_cons_zero, List.set_cons_succ]
          refine wpAnyH_take (i := 7) (v := ?vc7) rfl (by kernel_rfl) (by kernel_rfl) (by kernel_rfl) (fun _ _ _ h => h) (Or.inl ⟨by rfl, ?yc7⟩) HD_x3.out ?zc7
          case yc7 => (intro w hSw; (try dsimp only at hSw); go_simp; try with_reducible rfl)
          try simp only [List.getElem_toArray, List.getElem_cons_succ, List.getElem_cons_zero, Act.put, List.setIfInBounds_toArray, List.set_cons_zero, List.set_cons_succ]
          refine wpAnyH_ready (rs := [9]) (by kernel_rfl) (by simp) ?_
          refine AllReadyH.cons rfl (fun K hK => ?_) AllReadyH.nil
          refine step_store_var rfl _ _ rfl x1.heap.size _ _ _ (.int .i64 (c : Int)) (.int .i64 (c : Int)) (.slice s4 N d4) rfl rfl HT_x3.out rfl rfl rfl ?_
          intro x4 HVt HGt
          have hbB : wq.heap.size ≤ x1.heap.size := HB_x1.out.size
          have HB_x4 : Hid (Below wq.heap.size wq x4) := below_row HB_x3.out HGt.out hbB
          have HD_x4 : Hid (x4.cell? ⟨w1.heap.size, 0, none⟩ = some (.int .i64 (r : Int)) ∧ x4.cell? ⟨w1.heap.size, 1, none⟩ = some (.int .i64 (c : Int)) ∧ x4.cell? ⟨w1.heap.size, 2, none⟩ = some (.slice (some ⟨g1, 0, none⟩) len0 len0) ∧ x4.cell? ⟨w.heap.size, 1, none⟩ = some (.int .i64 (c : Int))) := ⟨(HVs.out.later HB_x4.out).c0, (HVs.out.later HB_x4.out).c1, (HVs.out.later HB_x4.out).c2, (HVm.out.later HB_x4.out).c1⟩
          have HM_x4 : Hid (Mt x4 s4 N d4 (idf c)) := HM_x3.out.kept HGt.out (fun _ x hx e => hne4 x hx e)
          refine hK.out _ _ HD_x4.out (fun _ => ?_)
          clear hK K
          try simp only [List.getElem_toArray, List.getElem_cons_succ, List.getElem_cons_zero, Act.put]
          refine wpAnyH_take (i := 10) (v := ?vc10) rfl (by kernel_rfl) (by kernel_rfl) (by kernel_rfl) (fun _ _ _ h => h) (Or.inl ⟨by rfl, ?yc10⟩) HD_x4.out ?zc10
          case yc10 => (intro w hSw; (try dsimp only at hSw); go_simp; try with_reducible rfl)
          try simp only [List.getElem_toArray, List.getElem_cons_succ, List.getElem_cons_zero, Act.put, List.setIfInBounds_toArray, List.set_cons_zero, List.set_cons_succ]
          refine wpAnyH_done (by kernel_rfl) ?_ _
          go_wp2_with (first
            | (go_at_call 9; have _x := HBy; refine (like_ans _ _ _ _ _ N _ _ (idf c) (idf c) HMw2.out (HFI.out.later HBy.out) (fun _ _ => rfl)).mono ?_; rintro e w14 ⟨rfl, hb14⟩; have HBx : Hid (Below wq.heap.size wq w14) := two_below HBy.out hb14; clear hb14)
            | (go_at_call 9; have _x := HBz; refine (like_ans _ _ _ _ _ len0 _ _ G8 G9 (HFA.out.later HBz.out) (HFD.out.later HBz.out) HGG.out).mono ?_; rintro e w13 ⟨rfl, hb13⟩; have HBy : Hid (Below wq.heap.size wq w13) := two_below HBz.out hb13; have HMw2 : Hid (Mt w13 s4 N d4 (idf c)) := HMw.out.later hb13; have hvw := HVw.out.later hb13; have hvi := HVI.out.later HBy.out; have zw0 := hvw.c0; have zw1 := hvw.c1; have zw2 := hvw.c2; have zi0 := hvi.c0; have zi1 := hvi.c1; have zi2 := hvi.c2; clear hvw hvi hb13 HBz)
            | (go_at_call 7; refine (anch5_any _).mono ?_; rintro e w12 ⟨rfl, hb12⟩; have HBz : Hid (Below wq.heap.size wq w12) := two_below HB_x4.out hb12; have HMw : Hid (Mt w12 s4 N d4 (idf c)) := HM_x4.out.later hb12; have HVw : Hid (Vr w12 x1.heap.size (.int .i64 (c : Int)) (.int .i64 (c : Int)) (.slice s4 N d4)) := HVt.out.later hb12; have hva := HVA.out.later HBz.out; have hvd := HVD.out.later HBz.out; have za0 := hva.c0; have za1 := hva.c1; have za2 := hva.c2; have zd0 := hvd.c0; have zd1 := hvd.c1; have zd2 := hvd.c2; clear hva hvd hb12))
          go_ret
          exact ⟨rfl, two_below HBq.out HBx.out⟩
      · go_simp
        obtain ⟨x1, HWx1⟩ : ∃ x, Hid (x = x0.alloc (.cells #[.int .i64 0, .int .i64 0, .slice none 0 0] 24)) := ⟨_, rfl⟩
        rw [← HWx1.out]
        have hbx1 : Below x0.heap.size x0 x1 := by rw [HWx1.out]; exact alloc_low _ _
        have HT_x1 : Hid (Vr x1 x0.heap.size (.int .i64 0) (.int .i64 0) (.slice none 0 0)) := by rw [HWx1.out]; exact Vr.new x0 _ _ _
        have HB_x1 : Hid (Below wq.heap.size wq x1) := two_below HB_x0.out hbx1
        have HD_x1 : Hid (x1.cell? ⟨w1.heap.size, 0, none⟩ = some (.int .i64 (r : Int)) ∧ x1.cell? ⟨w1.heap.size, 1, none⟩ = some (.int .i64 (c : Int)) ∧ x1.cell? ⟨w1.heap.size, 2, none⟩ = some (.slice (some ⟨g1, 0, none⟩) len0 len0) ∧ x1.cell? ⟨w.heap.size, 1, none⟩ = some (.int .i64 (c : Int))) := ⟨(HVs.out.later HB_x1.out).c0, (HVs.out.later HB_x1.out).c1, (HVs.out.later HB_x1.out).c2, (HVm.out.later HB_x1.out).c1⟩
        refine hK.out _ _ HD_x1.out (fun _ => ?_)
        clear hK K
        try simp only [List.getElem_toArray, List.getElem_cons_succ, List.getElem_cons_zero, Act.put, List.setIfInBounds_toArray, List.set_cons_zero, List.set_cons_succ]
        refine wpAnyH_ready (rs := [3]) (by kernel_rfl) (by simp) ?_
        refine AllReadyH.cons rfl (fun K hK => ?_) AllReadyH.nil
        go_simp
        refine (chosen_any _ c 0 0 0 c none (fun _ => 0) (Sl.nil _ _ _) (by omega) HK0.out hc64 (.inr rfl)).mono ?_
        rintro e x2 ⟨g3, q3, rfl, hi3, hq3, hz3, hg3, hb3⟩
        have HO_x2 : Hid (IRowAt x2 g3 c q3) := hi3
        have HQ3 : Hid (∀ i, i < c → q3 i = i) := hz3 rfl
        have HB_x2 : Hid (Below wq.heap.size wq x2) := two_below HB_x1.out hb3
        have HD_x2 : Hid (x2.cell? ⟨w1.heap.size, 0, none⟩ = some (.int .i64 (r : Int)) ∧ x2.cell? ⟨w1.heap.size, 1, none⟩ = some (.int .i64 (c : Int)) ∧ x2.cell? ⟨w1.heap.size, 2, none⟩ = some (.slice (some ⟨g1, 0, none⟩) len0 len0) ∧ x2.cell? ⟨w.heap.size, 1, none⟩ = some (.int .i64 (c : Int))) := ⟨(HVs.out.later HB_x2.out).c0, (HVs.out.later HB_x2.out).c1, (HVs.out.later HB_x2.out).c2, (HVm.out.later HB_x2.out).c1⟩
        have HT_x2 : Hid (Vr x2 x0.heap.size (.int .i64 0) (.int .i64 0) (.slice none 0 0)) := HT_x1.out.later hb3
        clear hi3 hq3 hz3 hg3 hb3
        refine hK.out _ _ HD_x2.out (fun _ => ?_)
        clear hK K
        try simp only [List.getElem_toArray, List.getElem_cons_succ, List.getElem_cons_zero, Act.put, List.setIfInBounds_toArray, List.set_cons_zero, List.set_cons_succ]
        refine wpAnyH_ready (rs := [4]) (by kernel_rfl) (by simp) ?_
        refine AllReadyH.cons rfl (fun K hK => ?_) AllReadyH.nil
        go_simp
        refine (rpick_ok _ r c len0 len0 c c N (some ⟨g1, 0, none⟩) (some ⟨g3, 0, none⟩) Q q3 (HFs.out.later HB_x2.out).sl HR.out HO_x2.out.il (fun i hi => by rw [HQ3.out i hi]; omega) hc64 HN).mono ?_
        rintro e x3 ⟨s4, d4, rfl, ho4, hb4⟩
        have HM_x3 : Hid (Mt x3 s4 N d4 (idf c)) := (own_mt4 ho4 (by rw [← HN.out]; exact pkf_el HP1.out HR.out (fun i hi => by rw [HQ3.out i hi]; omega))).congr (by rw [← HN.out]; exact HJ1.out q3 HQ3.out)
        have HI4 : Hid (Iv6 x2.heap.size x3.heap.size s4) := own_iv6 ho4
        have HB_x3 : Hid (Below wq.heap.size wq x3) := two_below HB_x2.out hb4
        have HD_x3 : Hid (x3.cell? ⟨w1.heap.size, 0, none⟩ = some (.int .i64 (r : Int)) ∧ x3.cell? ⟨w1.heap.size, 1, none⟩ = some (.int .i64 (c : Int)) ∧ x3.cell? ⟨w1.heap.size, 2, none⟩ = some (.slice (some ⟨g1, 0, none⟩) len0 len0) ∧ x3.cell? ⟨w.heap.size, 1, none⟩ = some (.int .i64 (c : Int))) := ⟨(HVs.out.later HB_x3.out).c0, (HVs.out.later HB_x3.out).c1, (HVs.out.later HB_x3.out).c2, (HVm.out.later HB_x3.out).c1⟩
        have HT_x3 : Hid (Vr x3 x0.heap.size (.int .i64 0) (.int .i64 0) (.slice none 0 0)) := HT_x2.out.later hb4
        have hne4 : ∀ x, s4 = some x → x.block ≠ x0.heap.size := fun x hx e => by have := (HI4.out x hx).1; have := HT_x2.out.lt; omega
        clear ho4 hb4
        refine hK.out _ _ HD_x3.out (fun _ => ?_)
        clear hK K
        try simp only [List.getElem_toArray, List.getElem_cons_succ, List.getElem_cons_zero, Act.put, List.setIfInBounds_toArray, List.set_cons_zero, List.set_cons_succ]
        refine wpAnyH_take (i := 5) (v := ?vd5) rfl (by kernel_rfl) (by kernel_rfl) (by kernel_rfl) (fun _ _ _ h => h) (Or.inl ⟨by rfl, ?yd5⟩) HD_x3.out ?zd5
        case yd5 => (intro w hSw; (try dsimp only at hSw); go_simp; try with_reducible rfl)
        try simp only [List.getElem_toArray, List.getElem_cons_succ, List.getElem_cons_zero, Act.put, List.setIfInBounds_toArray, List.set_cons_zero, List.set_cons_succ]
        refine wpAnyH_take (i := 6) (v := ?vd6) rfl (by kernel_rfl) (by kernel_rfl) (by kernel_rfl) (fun _ _ _ h => h) (Or.inl ⟨by rfl, ?yd6⟩) HD_x3.out ?zd6
        case yd6 => (intro w hSw; (try dsimp only at hSw); go_simp; try with_reducible rfl)
        try simp only [List.getElem_toArray, List.getElem_cons_succ, List.getElem_cons_zero, Act.put, List.setIfInBounds_toArray, List.set_cons_zero, List.set_cons_succ]
        refine wpAnyH_take (i := 7) (v := ?vd7) rfl (by kernel_rfl) (by kernel_rfl) (by kernel_rfl) (fun _ _ _ h => h) (Or.inl ⟨by rfl, ?yd7⟩) HD_x3.out ?zd7
        case yd7 => (intro w hSw; (try dsimp only at hSw); go_simp; try with_reducible rfl)
        try simp only [List.getElem_toArray, List.getElem_cons_succ, List.getElem_cons_zero, Act.put, List.setIfInBounds_toArray, List.set_cons_zero, List.set_cons_succ]
        refine wpAnyH_ready (rs := [9]) (by kernel_rfl) (by simp) ?_
        refine AllReadyH.cons rfl (fun K hK => ?_) AllReadyH.nil
        refine step_store_var rfl _ _ rfl x0.heap.size _ _ _ (.int .i64 (c : Int)) (.int .i64 (c : Int)) (.slice s4 N d4) rfl rfl HT_x3.out rfl rfl rfl ?_
        intro x4 HVt HGt
        have hbB : wq.heap.size ≤ x0.heap.size := HB_x0.out.size
        have HB_x4 : Hid (Below wq.heap.size wq x4) := below_row HB_x3.out HGt.out hbB
        have HD_x4 : Hid (x4.cell? ⟨w1.heap.size, 0, none⟩ = some (.int .i64 (r : Int)) ∧ x4.cell? ⟨w1.heap.size, 1, none⟩ = some (.int .i64 (c : Int)) ∧ x4.cell? ⟨w1.heap.size, 2, none⟩ = some (.slice (some ⟨g1, 0, none⟩) len0 len0) ∧ x4.cell? ⟨w.heap.size, 1, none⟩ = some (.int .i64 (c : Int))) := ⟨(HVs.out.later HB_x4.out).c0, (HVs.out.later HB_x4.out).c1, (HVs.out.later HB_x4.out).c2, (HVm.out.later HB_x4.out).c1⟩
        have HM_x4 : Hid (Mt x4 s4 N d4 (idf c)) := HM_x3.out.kept HGt.out (fun _ x hx e => hne4 x hx e)
        refine hK.out _ _ HD_x4.out (fun _ => ?_)
        clear hK K
        try simp only [List.getElem_toArray, List.getElem_cons_succ, List.getElem_cons_zero, Act.put]
        refine wpAnyH_take (i := 10) (v := ?vd10) rfl (by kernel_rfl) (by kernel_rfl) (by kernel_rfl) (fun _ _ _ h => h) (Or.inl ⟨by rfl, ?yd10⟩) HD_x4.out ?zd10
        case yd10 => (intro w hSw; (try dsimp only at hSw); go_simp; try with_reducible rfl)
        try simp only [List.getElem_toArray, List.getElem_cons_succ, List.getElem_cons_zero, Act.put, List.setIfInBounds_toArray, List.set_cons_zero, List.set_cons_succ]
        refine wpAnyH_done (by kernel_rfl) ?_ _
        go_wp2_with (first
          | (go_at_call 9; have _x := HBy; refine (like_ans _ _ _ _ _ N _ _ (idf c) (idf c) HMw2.out (HFI.out.later HBy.out) (fun _ _ => rfl)).mono ?_; rintro e w14 ⟨rfl, hb14⟩; have HBx : Hid (Below wq.heap.size wq w14) := two_below HBy.out hb14; clear hb14)
          | (go_at_call 9; have _x := HBz; refine (like_ans _ _ _ _ _ len0 _ _ G8 G9 (HFA.out.later HBz.out) (HFD.out.later HBz.out) HGG.out).mono ?_; rintro e w13 ⟨rfl, hb13⟩; have HBy : Hid (Below wq.heap.size wq w13) := two_below HBz.out hb13; have HMw2 : Hid (Mt w13 s4 N d4 (idf c)) := HMw.out.later hb13; have hvw := HVw.out.later hb13; have hvi := HVI.out.later HBy.out; have zw0 := hvw.c0; have zw1 := hvw.c1; have zw2 := hvw.c2; have zi0 := hvi.c0; have zi1 := hvi.c1; have zi2 := hvi.c2; clear hvw hvi hb13 HBz)
          | (go_at_call 7; refine (anch5_any _).mono ?_; rintro e w12 ⟨rfl, hb12⟩; have HBz : Hid (Below wq.heap.size wq w12) := two_below HB_x4.out hb12; have HMw : Hid (Mt w12 s4 N d4 (idf c)) := HM_x4.out.later hb12; have HVw : Hid (Vr w12 x0.heap.size (.int .i64 (c : Int)) (.int .i64 (c : Int)) (.slice s4 N d4)) := HVt.out.later hb12; have hva := HVA.out.later HBz.out; have hvd := HVD.out.later HBz.out; have za0 := hva.c0; have za1 := hva.c1; have za2 := hva.c2; have zd0 := hvd.c0; have zd1 := hvd.c1; have zd2 := hvd.c2; clear hva hvd hb12))
        go_ret
        exact ⟨rfl, two_below HBq.out HBx.out⟩
    · have HK : Hid (Rk (m2 F c c) c t) := hk
      have ht2 : t < c := by omega
      clear h1 h2 R hM hk ht htc
      have HV_m_0 : Hid (Vr wb w.heap.size (.int .i64 (r : Int)) (.int .i64 (c : Int)) (.slice a0 len0 cap0)) := HVa.out
      have l_m_0_0 := HV_m_0.out.c0
      have l_m_1_0 := HV_m_0.out.c1
      have l_m_2_0 := HV_m_0.out.c2
      go_enter Try.func3, Try.ntmps3
      go_wp2_with (first
        | (go_at_call 7; have _x := HB_2; refine (anch5_any _).mono ?_; rintro e w3 ⟨rfl, hb⟩; have HB_3 : Hid (Below w.heap.size w w3) := two_below HB_2.out hb; have HV_m_3 : Hid (Vr w3 w.heap.size (.int .i64 (r : Int)) (.int .i64 (c : Int)) (.slice a0 len0 cap0)) := HV_m_2.out.later hb; have HV_s_3 : Hid (Vr w3 w1.heap.size (.int .i64 0) (.int .i64 0) (.slice none 0 0)) := HV_s_2.out.later hb; have HV_b_3 : Hid (Vr w3 w2.heap.size (.int .i64 0) (.int .i64 0) (.slice none 0 0)) := HV_b_2.out.later hb; have HF_m_3 : Hid (Mt w3 a0 len0 cap0 F) := HF_m_2.out.later hb; clear hb HV_m_2 HV_s_2 HV_b_2 HF_m_2)
        | (go_at_call 6; have _x := HB_1; refine (rsys_sing _ r c len0 cap0 t a0 F HF_m_1.out HR.out hcr HK.out ht2).mono ?_; rintro e w2 ⟨rfl, hb⟩; have HB_2 : Hid (Below w.heap.size w (w2.alloc (.cells #[.int .i64 0, .int .i64 0, .slice none 0 0] 24))) := two_below (two_below HB_1.out hb) (alloc_low _ _); have HV_m_2 : Hid (Vr (w2.alloc (.cells #[.int .i64 0, .int .i64 0, .slice none 0 0] 24)) w.heap.size (.int .i64 (r : Int)) (.int .i64 (c : Int)) (.slice a0 len0 cap0)) := (HV_m_1.out.later hb).later (alloc_low _ _); have HV_s_2 : Hid (Vr (w2.alloc (.cells #[.int .i64 0, .int .i64 0, .slice none 0 0] 24)) w1.heap.size (.int .i64 0) (.int .i64 0) (.slice none 0 0)) := (HV_s_1.out.later hb).later (alloc_low _ _); have HF_m_2 : Hid (Mt (w2.alloc (.cells #[.int .i64 0, .int .i64 0, .slice none 0 0] 24)) a0 len0 cap0 F) := (HF_m_1.out.later hb).later (alloc_low _ _); have HV_b_2 : Hid (Vr (w2.alloc (.cells #[.int .i64 0, .int .i64 0, .slice none 0 0] 24)) w2.heap.size (.int .i64 0) (.int .i64 0) (.slice none 0 0)) := Vr.new w2 _ _ _; clear hb HV_m_1 HV_s_1 HF_m_1)
        | (go_at_call 5; rw [← HW.out]; refine (bsys_sing _ r c len0 cap0 t a0 F HF_m_0.out HR.out hcr HK.out ht2).mono ?_; rintro e w1 ⟨rfl, hb⟩; have HB_1 : Hid (Below w.heap.size w (w1.alloc (.cells #[.int .i64 0, .int .i64 0, .slice none 0 0] 24))) := two_below (two_below HB_0.out hb) (alloc_low _ _); have HV_m_1 : Hid (Vr (w1.alloc (.cells #[.int .i64 0, .int .i64 0, .slice none 0 0] 24)) w.heap.size (.int .i64 (r : Int)) (.int .i64 (c : Int)) (.slice a0 len0 cap0)) := (HV_m_0.out.later hb).later (alloc_low _ _); have HF_m_1 : Hid (Mt (w1.alloc (.cells #[.int .i64 0, .int .i64 0, .slice none 0 0] 24)) a0 len0 cap0 F) := (HF_m_0.out.later hb).later (alloc_low _ _); have HV_s_1 : Hid (Vr (w1.alloc (.cells #[.int .i64 0, .int .i64 0, .slice none 0 0] 24)) w1.heap.size (.int .i64 0) (.int .i64 0) (.slice none 0 0)) := Vr.new w1 _ _ _; have l_m_0_1 := HV_m_1.out.c0; have l_m_1_1 := HV_m_1.out.c1; have l_m_2_1 := HV_m_1.out.c2; clear hb HV_m_0 HF_m_0))
      go_ret
      exact ⟨rfl, HB_3.out⟩
  · have H1 : Hid (¬ (RightP r0 c0 len0 ∧ c0 ≤ r0)) := h
    clear h hM
    have HV_m_0 : Hid (Vr wb w.heap.size (.int .i64 r0) (.int .i64 c0) (.slice a0 len0 cap0)) := HVa.out
    have l_m_0_0 := HV_m_0.out.c0
    have l_m_1_0 := HV_m_0.out.c1
    have l_m_2_0 := HV_m_0.out.c2
    go_enter Try.func3, Try.ntmps3
    go_wp2_with (first
      | (go_at_call 7; have _x := HB_2; refine (anch5_any _).mono ?_; rintro e w3 ⟨rfl, hb⟩; have HB_3 : Hid (Below w.heap.size w w3) := two_below HB_2.out hb; have HV_m_3 : Hid (Vr w3 w.heap.size (.int .i64 r0) (.int .i64 c0) (.slice a0 len0 cap0)) := HV_m_2.out.later hb; have HV_s_3 : Hid (Vr w3 w1.heap.size (.int .i64 0) (.int .i64 0) (.slice none 0 0)) := HV_s_2.out.later hb; have HV_b_3 : Hid (Vr w3 w2.heap.size (.int .i64 0) (.int .i64 0) (.slice none 0 0)) := HV_b_2.out.later hb; have HF_m_3 : Hid (Mt w3 a0 len0 cap0 F) := HF_m_2.out.later hb; clear hb HV_m_2 HV_s_2 HV_b_2 HF_m_2)
      | (go_at_call 6; have _x := HB_1; refine (rsys_bad _ _ _ _ _ _ H1.out).mono ?_; rintro e w2 ⟨rfl, hb⟩; have HB_2 : Hid (Below w.heap.size w (w2.alloc (.cells #[.int .i64 0, .int .i64 0, .slice none 0 0] 24))) := two_below (two_below HB_1.out hb) (alloc_low _ _); have HV_m_2 : Hid (Vr (w2.alloc (.cells #[.int .i64 0, .int .i64 0, .slice none 0 0] 24)) w.heap.size (.int .i64 r0) (.int .i64 c0) (.slice a0 len0 cap0)) := (HV_m_1.out.later hb).later (alloc_low _ _); have HV_s_2 : Hid (Vr (w2.alloc (.cells #[.int .i64 0, .int .i64 0, .slice none 0 0] 24)) w1.heap.size (.int .i64 0) (.int .i64 0) (.slice none 0 0)) := (HV_s_1.out.later hb).later (alloc_low _ _); have HF_m_2 : Hid (Mt (w2.alloc (.cells #[.int .i64 0, .int .i64 0, .slice none 0 0] 24)) a0 len0 cap0 F) := (HF_m_1.out.later hb).later (alloc_low _ _); have HV_b_2 : Hid (Vr (w2.alloc (.cells #[.int .i64 0, .int .i64 0, .slice none 0 0] 24)) w2.heap.size (.int .i64 0) (.int .i64 0) (.slice none 0 0)) := Vr.new w2 _ _ _; clear hb HV_m_1 HV_s_1 HF_m_1)
      | (go_at_call 5; rw [← HW.out]; refine (bsys_bad _ _ _ _ _ _ H1.out).mono ?_; rintro e w1 ⟨rfl, hb⟩; have HB_1 : Hid (Below w.heap.size w (w1.alloc (.cells #[.int .i64 0, .int .i64 0, .slice none 0 0] 24))) := two_below (two_below HB_0.out hb) (alloc_low _ _); have HV_m_1 : Hid (Vr (w1.alloc (.cells #[.int .i64 0, .int .i64 0, .slice none 0 0] 24)) w.heap.size (.int .i64 r0) (.int .i64 c0) (.slice a0 len0 cap0)) := (HV_m_0.out.later hb).later (alloc_low _ _); have HF_m_1 : Hid (Mt (w1.alloc (.cells #[.int .i64 0, .int .i64 0, .slice none 0 0] 24)) a0 len0 cap0 F) := (HF_m_0.out.later hb).later (alloc_low _ _); have HV_s_1 : Hid (Vr (w1.alloc (.cells #[.int .i64 0, .int .i64 0, .slice none 0 0] 24)) w1.heap.size (.int .i64 0) (.int .i64 0) (.slice none 0 0)) := Vr.new w1 _ _ _; have l_m_0_1 := HV_m_1.out.c0; have l_m_1_1 := HV_m_1.out.c1; have l_m_2_1 := HV_m_1.out.c2; clear hb HV_m_0 HF_m_0))
    go_ret
    exact ⟨rfl, HB_3.out⟩
set_option maxRecDepth 100000 in
set_option maxHeartbeats 2000000 in
theorem lifted (os : Os) (started : os.Started) (H : Type) (enc : TypeId × Value → H) :
    ReturnsInHanded {} Try.checked os 3 .any (Rows.buildTopsSpec.pre6 enc Try.prog Try.f3 Rows.buildTopsRow.domain false) (Rows.buildTopsSpec.post enc Try.prog Try.f3 false true false false) := by
  refine returnsInHanded_of_change_sized (C := Try.checked) own started (by kernel_rfl) Try.func3
    (ChangeSpec.witness6 (enc := enc) (C := Try.checked) false ⟨#[], #[.agg #[.int .i64 0, .int .i64 0, .slice none 0 0]], []⟩ 8 (by kernel_rfl) (by kernel_rfl) (by kernel_rfl) (by kernel_rfl)) ?_
  intro W base args ds gs before hval0 hW hcnd hsz0 _
  have hsz : (DataW.weightsEach Try.prog (Try.f3.params.toList ++ Rows.buildTopsSpec.plain.varTypes Try.prog) (ds ++ gs)).all (· ≤ reachBytes) = true := hsz0
  clear hsz0
  have hval : ∀ (j : Nat) t v, Try.f3.params[j]? = some t → args[j]? = some v → Value.okWide Try.prog W .any base t v := hval0
  have hW' := hW
  obtain ⟨p, q, hA0, hV, rfl, hfz, hnd⟩ := hW
  have hA : DataW.TrodAll enc Try.prog W 0 (fun _ => true) true Try.f3.params.toList args.toList ds p := hA0
  rw [Try.params3] at hA hval hsz
  obtain ⟨va0, vs0, d0, ds0, p0, q0, hargs, rfl, rfl, h0, tr0⟩ := trodAll_cons hA
  obtain ⟨rfl, rfl, rfl⟩ := trodAll_nil tr0
  obtain rfl : args = #[va0] := by cases args; simp_all
  obtain ⟨rfl, rfl⟩ := trodVars_none hV
  have k0 := h0
  have lt0 : ∀ x ∈ p0, x.block < W.heap.size := by obtain ⟨m, hm⟩ := k0; exact DataW.trod_lt m _ _ _ hm
  obtain ⟨f0, g0, s0, y0, x0, e0, m0, rfl, rfl, rfl, hf0, hg0, hs0⟩ := open_agg3 Try.underlying24 (by kernel_rfl) cellsM (hval 0 24 va0 rfl rfl) h0
  obtain ⟨r0, er0, rfl, u0⟩ := DataW.trod_int Try.underlying3 hf0
  obtain ⟨c0, ec0, rfl, v0⟩ := DataW.trod_int Try.underlying3 hg0
  simp only [List.cons.injEq, and_true] at er0 ec0
  subst er0 ec0
  obtain ⟨a0, len0, cap0, rfl⟩ : ∃ a l c, s0 = .slice a l c := by
    rcases open_ints Try.underlying22 Try.underlying5 (by kernel_rfl) hs0 with ⟨hcs, _⟩ | ⟨x, l, c, zs, hcs, _⟩
    · simp only [List.cons.injEq, and_true] at hcs; exact ⟨_, _, _, hcs⟩
    · simp only [List.cons.injEq, and_true] at hcs; exact ⟨_, _, _, hcs⟩
  obtain ⟨z0, w0⟩ : ∃ zs, IsRow .u8 W a0 len0 cap0 zs := by
    obtain ⟨fuel, hf⟩ := (⟨m0, hs0⟩ : ∃ fuel, DataW.trod enc Try.prog W 0 (fun _ => true) true fuel 22 [.slice a0 len0 cap0] = some e0)
    rcases open_ints Try.underlying22 Try.underlying5 (by kernel_rfl) hf with ⟨hcs, _⟩ | ⟨x, l, c, zs, hcs, _, hl, hm, hz, hxx, hcell, hwz⟩
    · simp at hcs
      obtain ⟨rfl, rfl, rfl⟩ := hcs
      exact ⟨[], .inl ⟨rfl, rfl, rfl, rfl⟩⟩
    · simp at hcs
      obtain ⟨rfl, rfl, rfl⟩ := hcs
      have hd := congrArg Prod.fst hxx
      have hs := sized_slice (sized_in hsz (j := 0) (t := 24) rfl rfl) (j := 2) (t := 22) (e := 5) rfl (congrArg some hd) Try.underlying22
      rw [show Try.prog.bytesOf 5 = 1 from by kernel_rfl] at hs
      have hzl : zs.length = cap0 := by simpa using hz
      simp only [lits, List.length_map, List.length_take, List.length_drop, reachBytes] at hs
      exact ⟨zs, .inr ⟨_, rfl, hl, by omega, by simpa using hz, hcell, hwz⟩⟩
  clear hA0 hval0
  refine (walk r0 c0 a0 len0 cap0 z0 W u0 v0 w0).mono fun e W' ⟨he, bel⟩ => ?_
  subst he
  exact ⟨_, rfl, _, _, _, [], _, [], hW', trodAll_mk1 (shut_bool Try.underlying4 _), (trodAll_cons_mk (Below.trod laidOut (by kernel_rfl) (of_decide_eq_true (by kernel_rfl)) k0 bel lt0) trodAll_mk0), rfl, bel.frame _, fun h => by cases h⟩
theorem over : Rows.buildTopsRow.holds Try.pinned (OpenSpec.ofChange Rows.buildTopsSpec) :=
  OpenClaim.holds_of_wide 3 Try.f3 rfl rfl rfl rfl rfl rfl rfl ⟨rfl, rfl, rfl, rfl, rfl⟩ rfl rfl rfl rfl rfl (by kernel_rfl) Try.func3 (by kernel_rfl)
    (of_decide_eq_true (by kernel_rfl)) (by unfold Func.isWrapper; first | (rw [if_pos (by decide +kernel)]; kernel_rfl) | (rw [if_neg (by decide +kernel)]; exact ⟨rfl, rfl⟩))
    (fun os started H enc _ => lifted os started H enc)
theorem proved : Rows.BuildTopsSaid := over
#print axioms proved
end Go.Proofs.Ytblfldjlehjnbab.buildTops
