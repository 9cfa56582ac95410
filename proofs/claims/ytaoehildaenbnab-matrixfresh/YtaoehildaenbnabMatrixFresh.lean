/-
  Proved: for all matrices a and b: what is handed to Mul, Transpose, Stack, Kron and Row stays as it is, and what they answer is new memory that nobody else has, the spare room too (the rules); no condition.
-/
import Derived.Test.YtaoehildaenbnabGc
import Derived.Deep.CutRange
import Derived.WalkKit
import Derived.SizedLaws
import Derived.ProofKit
import Derived.OpenShut
import Derived.ShutString
import Derived.ChangeOld
import Derived.Below
import Derived.Lib.SmallJoins
import Derived.Deep.Matrix
namespace Go.Proofs.Ytaoehildaenbnab.matrixFresh
open Go.ChangeShapes Go.WideShapes Go.ChangeAt Go.RowKit Go.Joins
set_option linter.unusedVariables false
theorem own : ownKnob Try.prog.godebug = none := by kernel_rfl
theorem laidOut : laidOutB Try.prog = true := by kernel_rfl
/-- A slice of integers that came in. -/
def IsRow (k : IntKind) (w : World) (a : Option Addr) (len cap : Nat) (zs : List Int) : Prop :=
  (a = none ∧ len = 0 ∧ cap = 0 ∧ zs = []) ∨
  ∃ x, a = some x ∧ len ≤ cap ∧ cap ≤ 140737488351232 ∧ zs.length = cap ∧ (∀ i, i < zs.length → w.cell? (x.add i) = some (.int k (zs.getD i 0))) ∧ ∀ n ∈ zs, (Lit.int k n).wf = true
/-- A slice of slices of bytes that came in. -/
def IsRows (w : World) (a : Option Addr) (len cap : Nat) : Prop :=
  (a = none ∧ len = 0 ∧ cap = 0) ∨
  ∃ x, a = some x ∧ len ≤ cap ∧ cap ≤ 140737488351232 ∧ ∀ r, r < cap → ∃ b l c zs, w.cell? (x.add r) = some (.slice b l c) ∧ IsRow .u8 w b l c zs
theorem sized_in {H : Type} {P : Program} {ts : List TypeId} {ds : List (DataW H)} (h : (DataW.weightsEach P ts ds).all (· ≤ reachBytes) = true) {j : Nat} {t : TypeId} {d : DataW H} (ht : ts[j]? = some t) (hd : ds[j]? = some d) : (d.weights P t).all (· ≤ reachBytes) = true :=
  List.all_eq_true.2 fun n hn => List.all_eq_true.1 h n (DataW.weights_mem_each ht hd n hn)
theorem sized_all {H : Type} {P : Program} {e : TypeId} : ∀ {ds : List (DataW H)}, (DataW.weightsAll P e ds).all (· ≤ reachBytes) = true → ∀ d ∈ ds, (d.weights P e).all (· ≤ reachBytes) = true
  | [], _, d, hd => by simp at hd
  | d0 :: r, h, d, hd => by
    simp only [DataW.weightsAll, List.all_append, Bool.and_eq_true] at h
    rcases List.mem_cons.1 hd with rfl | hd
    · exact h.1
    · exact sized_all h.2 d hd
theorem cellsM : Try.prog.cellsOf 24 = 3 := by kernel_rfl

set_option maxRecDepth 20000 in
set_option maxHeartbeats 8000000 in
theorem walk (r0 c0 : Int) (a0 : Option Addr) (len0 cap0 : Nat) (z0 : List Int) (r1 c1 : Int) (a1 : Option Addr) (len1 cap1 : Nat) (z1 : List Int) (w : World) (u0 : (Lit.int .i64 r0).wf = true) (v0 : (Lit.int .i64 c0).wf = true) (w0 : IsRow .u8 w a0 len0 cap0 z0) (u1 : (Lit.int .i64 r1).wf = true) (v1 : (Lit.int .i64 c1).wf = true) (w1 : IsRow .u8 w a1 len1 cap1 z1) :
    Calls Try.prog 6 #[.agg #[.int .i64 r0, .int .i64 c0, .slice a0 len0 cap0], .agg #[.int .i64 r1, .int .i64 c1, .slice a1 len1 cap1]] w fun e w' => e = .returned (.bool true) ∧ Below w.heap.size w w' := by
  obtain ⟨F0, hM0, hn0⟩ := mt_of_row w a0 len0 cap0 z0 w0
  have HM_m0 : Hid (Mt w a0 len0 cap0 F0) := hM0
  obtain ⟨F1, hM1, hn1⟩ := mt_of_row w a1 len1 cap1 z1 w1
  have HM_m1 : Hid (Mt w a1 len1 cap1 F1) := hM1
  clear w0 w1 u0 u1 v0 v1
  have HCa : Hid (∀ w', Below w.heap.size w w' → Calls Try.prog 16 #[mv r0 c0 a0 len0 cap0] w' fun e w'' => ∃ s d, e = .returned (mv r0 c0 s len0 d) ∧ Mt w'' s len0 d F0 ∧ Iv w'.heap.size w''.heap.size s ∧ Below w'.heap.size w' w'') := fun w' h' => cp_ans w' r0 c0 len0 cap0 a0 F0 (hM0.later h') hn0
  have HCb : Hid (∀ w', Below w.heap.size w w' → Calls Try.prog 16 #[mv r1 c1 a1 len1 cap1] w' fun e w'' => ∃ s d, e = .returned (mv r1 c1 s len1 d) ∧ Mt w'' s len1 d F1 ∧ Iv w'.heap.size w''.heap.size s ∧ Below w'.heap.size w' w'') := fun w' h' => cp_ans w' r1 c1 len1 cap1 a1 F1 (hM1.later h') hn1
  obtain ⟨R, C, N, f, E, hp⟩ := mul_pair r0 c0 r1 c1 len0 len1 F0 F1 hM0.sl.1
  have HP := hid_of hp
  clear hp hM0 hM1 hn0 hn1
  obtain ⟨wb, HW⟩ : ∃ wb, Hid (wb = ((w.alloc (.cells #[.int .i64 r0, .int .i64 c0, .slice a0 len0 cap0] 24)).alloc (.cells #[.int .i64 r1, .int .i64 c1, .slice a1 len1 cap1] 24))) := ⟨_, rfl⟩
  have HVA : Hid (Vr wb w.heap.size (.int .i64 r0) (.int .i64 c0) (.slice a0 len0 cap0)) := by show Vr _ _ _ _ _; rw [HW.out]; exact (Vr.new w _ _ _).later (alloc_low _ _)
  have HVB : Hid (Vr wb (w.heap.size + 1) (.int .i64 r1) (.int .i64 c1) (.slice a1 len1 cap1)) := by show Vr _ _ _ _ _; rw [HW.out]; have := Vr.new (w.alloc (.cells #[.int .i64 r0, .int .i64 c0, .slice a0 len0 cap0] 24)) (.int .i64 r1) (.int .i64 c1) (.slice a1 len1 cap1); simpa using this
  have HB0 : Hid (Below w.heap.size w wb) := by rw [HW.out]; exact two_below (alloc_low _ _) (alloc_low _ _)
  go_enter Try.func6, Try.ntmps6
  go_wp2_with fail
  rw [← HW.out]
  go_cut [5, 6] from 23 to 26 (fun s5 s6 wx => ∃ (p q : Nat) (sa sb : Option Addr) (da db : Nat), s5 = .pointer (some ⟨p, 0, none⟩) ∧ s6 = .pointer (some ⟨q, 0, none⟩) ∧ Cps w wx p q r0 c0 r1 c1 a0 a1 sa sb len0 cap0 len1 cap1 da db F0 F1)
  case first =>
    obtain ⟨x0, HWD⟩ : ∃ x, Hid (x = wb.drew) := ⟨_, rfl⟩
    have HA_0 : Hid (Vr x0 w.heap.size (.int .i64 r0) (.int .i64 c0) (.slice a0 len0 cap0)) := by show Vr _ _ _ _ _; rw [HWD.out]; exact HVA.out
    have HB_0 : Hid (Vr x0 (w.heap.size + 1) (.int .i64 r1) (.int .i64 c1) (.slice a1 len1 cap1)) := by show Vr _ _ _ _ _; rw [HWD.out]; exact HVB.out
    have HL_0 : Hid (Below w.heap.size w x0) := by show Below _ _ _; rw [HWD.out]; exact HB0.out.drew
    have hz_0 : w.heap.size + 1 < x0.heap.size := HB_0.out.lt
    have HD_0 : Hid (x0.cell? ⟨w.heap.size, 0, none⟩ = some (.int .i64 r0) ∧ x0.cell? ⟨w.heap.size, 1, none⟩ = some (.int .i64 c0) ∧ x0.cell? ⟨w.heap.size, 2, none⟩ = some (.slice a0 len0 cap0) ∧ x0.cell? ⟨w.heap.size + 1, 0, none⟩ = some (.int .i64 r1) ∧ x0.cell? ⟨w.heap.size + 1, 1, none⟩ = some (.int .i64 c1) ∧ x0.cell? ⟨w.heap.size + 1, 2, none⟩ = some (.slice a1 len1 cap1)) := ⟨HA_0.out.c0, HA_0.out.c1, HA_0.out.c2, HB_0.out.c0, HB_0.out.c1, HB_0.out.c2⟩
    refine wp_region_park (k := 7) (n := 7) (fun w' => w'.cell? ⟨w.heap.size, 0, none⟩ = some (.int .i64 r0) ∧ w'.cell? ⟨w.heap.size, 1, none⟩ = some (.int .i64 c0) ∧ w'.cell? ⟨w.heap.size, 2, none⟩ = some (.slice a0 len0 cap0) ∧ w'.cell? ⟨w.heap.size + 1, 0, none⟩ = some (.int .i64 r1) ∧ w'.cell? ⟨w.heap.size + 1, 1, none⟩ = some (.int .i64 c1) ∧ w'.cell? ⟨w.heap.size + 1, 2, none⟩ = some (.slice a1 len1 cap1)) (by kernel_rfl) (by kernel_rfl) (by decide) (by rfl) ?_
    rw [← HWD.out]
    refine wpAnyH_take (i := 0) (v := ?v0) rfl (by kernel_rfl) (by kernel_rfl) (by kernel_rfl) (fun _ _ _ h => h) (Or.inl ⟨by rfl, ?y0⟩) HD_0.out ?z0
    case y0 => (intro w hSw; (try dsimp only at hSw); go_simp; try with_reducible rfl)
    try simp only [List.getElem_toArray, List.getElem_cons_zero, Act.put, List.setIfInBounds_toArray, List.set_cons_zero, List.set_cons_succ]
    refine wpAnyH_take (i := 2) (v := ?v2) rfl (by kernel_rfl) (by kernel_rfl) (by kernel_rfl) (fun _ _ _ h => h) (Or.inl ⟨by rfl, ?y2⟩) HD_0.out ?z2
    case y2 => (intro w hSw; (try dsimp only at hSw); go_simp; try with_reducible rfl)
    try simp only [List.getElem_toArray, List.getElem_cons_succ, List.getElem_cons_zero, Act.put, List.setIfInBounds_toArray, List.set_cons_zero, List.set_cons_succ]
    refine wpAnyH_ready (rs := [1, 4, 5]) (by kernel_rfl) (by simp) ?_
    refine AllReadyH.cons rfl (fun K hK => ?_) (AllReadyH.cons rfl (fun K hK => ?_) (AllReadyH.cons rfl (fun K hK => ?_) AllReadyH.nil))
    · go_simp
      refine (HCa.out x0 HL_0.out).mono ?_
      rintro e x1 ⟨sa, da, rfl, hs, hi, hb⟩
      have hz_1 : x0.heap.size ≤ x1.heap.size := hb.size
      have JA : Hid (Iv x0.heap.size x1.heap.size sa) := hi
      have HL_1 : Hid (Below w.heap.size w x1) := two_below HL_0.out hb
      have HA_1 : Hid (Vr x1 w.heap.size (.int .i64 r0) (.int .i64 c0) (.slice a0 len0 cap0)) := HA_0.out.later hb
      have HB_1 : Hid (Vr x1 (w.heap.size + 1) (.int .i64 r1) (.int .i64 c1) (.slice a1 len1 cap1)) := HB_0.out.later hb
      have HMa_1 : Hid (Mt x1 sa len0 da F0) := hs
      have HD_1 : Hid (x1.cell? ⟨w.heap.size, 0, none⟩ = some (.int .i64 r0) ∧ x1.cell? ⟨w.heap.size, 1, none⟩ = some (.int .i64 c0) ∧ x1.cell? ⟨w.heap.size, 2, none⟩ = some (.slice a0 len0 cap0) ∧ x1.cell? ⟨w.heap.size + 1, 0, none⟩ = some (.int .i64 r1) ∧ x1.cell? ⟨w.heap.size + 1, 1, none⟩ = some (.int .i64 c1) ∧ x1.cell? ⟨w.heap.size + 1, 2, none⟩ = some (.slice a1 len1 cap1)) := ⟨HA_1.out.c0, HA_1.out.c1, HA_1.out.c2, HB_1.out.c0, HB_1.out.c1, HB_1.out.c2⟩
      clear hs hi hb HA_0 HB_0
      refine hK.out _ _ HD_1.out (fun _ => ?_)
      clear hK K
      try simp only [List.getElem_toArray, List.getElem_cons_succ, List.getElem_cons_zero, Act.put, List.setIfInBounds_toArray, List.set_cons_zero, List.set_cons_succ]
      refine wpAnyH_ready (rs := [3, 4, 5]) (by kernel_rfl) (by simp) ?_
      refine AllReadyH.cons rfl (fun K hK => ?_) (AllReadyH.cons rfl (fun K hK => ?_) (AllReadyH.cons rfl (fun K hK => ?_) AllReadyH.nil))
      · go_simp
        refine (HCb.out x1 HL_1.out).mono ?_
        rintro e x2 ⟨sb, db, rfl, hs, hi, hb⟩
        have hz_2 : x1.heap.size ≤ x2.heap.size := hb.size
        have JB : Hid (Iv x1.heap.size x2.heap.size sb) := hi
        have HL_2 : Hid (Below w.heap.size w x2) := two_below HL_1.out hb
        have HA_2 : Hid (Vr x2 w.heap.size (.int .i64 r0) (.int .i64 c0) (.slice a0 len0 cap0)) := HA_1.out.later hb
        have HB_2 : Hid (Vr x2 (w.heap.size + 1) (.int .i64 r1) (.int .i64 c1) (.slice a1 len1 cap1)) := HB_1.out.later hb
        have HMa_2 : Hid (Mt x2 sa len0 da F0) := HMa_1.out.later hb
        have HMb_2 : Hid (Mt x2 sb len1 db F1) := hs
        have HD_2 : Hid (x2.cell? ⟨w.heap.size, 0, none⟩ = some (.int .i64 r0) ∧ x2.cell? ⟨w.heap.size, 1, none⟩ = some (.int .i64 c0) ∧ x2.cell? ⟨w.heap.size, 2, none⟩ = some (.slice a0 len0 cap0) ∧ x2.cell? ⟨w.heap.size + 1, 0, none⟩ = some (.int .i64 r1) ∧ x2.cell? ⟨w.heap.size + 1, 1, none⟩ = some (.int .i64 c1) ∧ x2.cell? ⟨w.heap.size + 1, 2, none⟩ = some (.slice a1 len1 cap1)) := ⟨HA_2.out.c0, HA_2.out.c1, HA_2.out.c2, HB_2.out.c0, HB_2.out.c1, HB_2.out.c2⟩
        clear hs hi hb HA_1 HB_1 HMa_1
        refine hK.out _ _ HD_2.out (fun _ => ?_)
        clear hK K
        try simp only [List.getElem_toArray, List.getElem_cons_succ, List.getElem_cons_zero, Act.put, List.setIfInBounds_toArray, List.set_cons_zero, List.set_cons_succ]
        refine wpAnyH_ready (rs := [4, 5]) (by kernel_rfl) (by simp) ?_
        refine AllReadyH.cons rfl (fun K hK => ?_) (AllReadyH.cons rfl (fun K hK => ?_) AllReadyH.nil)
        · go_simp
          obtain ⟨x3, hw⟩ : ∃ x, Hid (x = x2.alloc (.cells #[.int .i64 0, .int .i64 0, .slice none 0 0] 24)) := ⟨_, rfl⟩
          rw [← hw.out]
          have hb : Below x2.heap.size x2 x3 := by rw [hw.out]; exact alloc_low _ _
          have hz_3 : x2.heap.size < x3.heap.size := by rw [hw.out]; simp
          have HL_3 : Hid (Below w.heap.size w x3) := two_below HL_2.out hb
          have HA_3 : Hid (Vr x3 w.heap.size (.int .i64 r0) (.int .i64 c0) (.slice a0 len0 cap0)) := HA_2.out.later hb
          have HB_3 : Hid (Vr x3 (w.heap.size + 1) (.int .i64 r1) (.int .i64 c1) (.slice a1 len1 cap1)) := HB_2.out.later hb
          have HMa_3 : Hid (Mt x3 sa len0 da F0) := HMa_2.out.later hb
          have HMb_3 : Hid (Mt x3 sb len1 db F1) := HMb_2.out.later hb
          have HP_3 : Hid (Vr x3 x2.heap.size (.int .i64 0) (.int .i64 0) (.slice none 0 0)) := by show Vr _ _ _ _ _; rw [hw.out]; exact Vr.new _ _ _ _
          have HD_3 : Hid (x3.cell? ⟨w.heap.size, 0, none⟩ = some (.int .i64 r0) ∧ x3.cell? ⟨w.heap.size, 1, none⟩ = some (.int .i64 c0) ∧ x3.cell? ⟨w.heap.size, 2, none⟩ = some (.slice a0 len0 cap0) ∧ x3.cell? ⟨w.heap.size + 1, 0, none⟩ = some (.int .i64 r1) ∧ x3.cell? ⟨w.heap.size + 1, 1, none⟩ = some (.int .i64 c1) ∧ x3.cell? ⟨w.heap.size + 1, 2, none⟩ = some (.slice a1 len1 cap1)) := ⟨HA_3.out.c0, HA_3.out.c1, HA_3.out.c2, HB_3.out.c0, HB_3.out.c1, HB_3.out.c2⟩
          clear hw hb HA_2 HB_2 HMa_2 HMb_2
          refine hK.out _ _ HD_3.out (fun _ => ?_)
          clear hK K
          try simp only [List.getElem_toArray, List.getElem_cons_succ, List.getElem_cons_zero, Act.put, List.setIfInBounds_toArray, List.set_cons_zero, List.set_cons_succ]
          refine wpAnyH_ready (rs := [5]) (by kernel_rfl) (by simp) ?_
          refine AllReadyH.cons rfl (fun K hK => ?_) AllReadyH.nil
          · go_simp
            obtain ⟨x4, hw⟩ : ∃ x, Hid (x = x3.alloc (.cells #[.int .i64 0, .int .i64 0, .slice none 0 0] 24)) := ⟨_, rfl⟩
            rw [← hw.out]
            have hb : Below x3.heap.size x3 x4 := by rw [hw.out]; exact alloc_low _ _
            have hz_4 : x3.heap.size < x4.heap.size := by rw [hw.out]; simp
            have HL_4 : Hid (Below w.heap.size w x4) := two_below HL_3.out hb
            have HA_4 : Hid (Vr x4 w.heap.size (.int .i64 r0) (.int .i64 c0) (.slice a0 len0 cap0)) := HA_3.out.later hb
            have HB_4 : Hid (Vr x4 (w.heap.size + 1) (.int .i64 r1) (.int .i64 c1) (.slice a1 len1 cap1)) := HB_3.out.later hb
            have HMa_4 : Hid (Mt x4 sa len0 da F0) := HMa_3.out.later hb
            have HMb_4 : Hid (Mt x4 sb len1 db F1) := HMb_3.out.later hb
            have HP_4 : Hid (Vr x4 x2.heap.size (.int .i64 0) (.int .i64 0) (.slice none 0 0)) := HP_3.out.later hb
            have HQ_4 : Hid (Vr x4 x3.heap.size (.int .i64 0) (.int .i64 0) (.slice none 0 0)) := by show Vr _ _ _ _ _; rw [hw.out]; exact Vr.new _ _ _ _
            have HD_4 : Hid (x4.cell? ⟨w.heap.size, 0, none⟩ = some (.int .i64 r0) ∧ x4.cell? ⟨w.heap.size, 1, none⟩ = some (.int .i64 c0) ∧ x4.cell? ⟨w.heap.size, 2, none⟩ = some (.slice a0 len0 cap0) ∧ x4.cell? ⟨w.heap.size + 1, 0, none⟩ = some (.int .i64 r1) ∧ x4.cell? ⟨w.heap.size + 1, 1, none⟩ = some (.int .i64 c1) ∧ x4.cell? ⟨w.heap.size + 1, 2, none⟩ = some (.slice a1 len1 cap1)) := ⟨HA_4.out.c0, HA_4.out.c1, HA_4.out.c2, HB_4.out.c0, HB_4.out.c1, HB_4.out.c2⟩
            clear hw hb HA_3 HB_3 HMa_3 HMb_3 HP_3
            refine hK.out _ _ HD_4.out (fun _ => ?_)
            clear hK K
            try simp only [List.getElem_toArray, List.getElem_cons_succ, List.getElem_cons_zero, Act.put, List.setIfInBounds_toArray, List.set_cons_zero, List.set_cons_succ]
            have PR : Hid (Pre w x4 x2.heap.size x3.heap.size r0 c0 r1 c1 a0 a1 sa sb len0 cap0 len1 cap1 da db F0 F1) := ⟨HA_4.out, HB_4.out, HP_4.out, HQ_4.out, HMa_4.out, HMb_4.out, HL_4.out, by omega, by omega, by omega, iv_off JA.out (by omega), iv_off JB.out (by omega), iv_off JA.out (by omega), iv_off JB.out (by omega)⟩
            clear HA_4 HB_4 HMa_4 HMb_4 HP_4 HQ_4
            refine wpAnyH_ready (rs := [6]) (by kernel_rfl) (by simp) ?_
            refine AllReadyH.cons rfl (fun K hK => ?_) AllReadyH.nil
            refine step_store_var rfl _ _ rfl x2.heap.size _ _ _ (.int .i64 r0) (.int .i64 c0) (.slice sa len0 da) rfl rfl PR.out.vc rfl rfl rfl ?_
            intro x8 HV8 HG8
            have M8 := PR.out.mid HG8.out
            have HD8 : Hid (x8.cell? ⟨w.heap.size, 0, none⟩ = some (.int .i64 r0) ∧ x8.cell? ⟨w.heap.size, 1, none⟩ = some (.int .i64 c0) ∧ x8.cell? ⟨w.heap.size, 2, none⟩ = some (.slice a0 len0 cap0) ∧ x8.cell? ⟨w.heap.size + 1, 0, none⟩ = some (.int .i64 r1) ∧ x8.cell? ⟨w.heap.size + 1, 1, none⟩ = some (.int .i64 c1) ∧ x8.cell? ⟨w.heap.size + 1, 2, none⟩ = some (.slice a1 len1 cap1)) := ⟨M8.1.c0, M8.1.c1, M8.1.c2, M8.2.1.c0, M8.2.1.c1, M8.2.1.c2⟩
            refine hK.out _ _ HD8.out (fun _ => ?_)
            clear hK K
            try simp only [List.getElem_toArray, List.getElem_cons_succ, List.getElem_cons_zero, Act.put]
            refine wpAnyH_done (by kernel_rfl) ?_ _
            refine park_last rfl (fun K hK => ?_)
            refine step_store_var rfl _ _ rfl x3.heap.size _ _ _ (.int .i64 r1) (.int .i64 c1) (.slice sb len1 db) rfl rfl M8.2.2 rfl rfl rfl ?_
            intro x9 HV9 HG9
            refine hK.out _ _ ?_
            clear hK K
            try simp only [List.getElem_toArray, List.getElem_cons_succ, List.getElem_cons_zero, Act.put]
            go_wp2_with fail
            go_meet
            case rel => exact ⟨_, _, sa, sb, da, db, rfl, rfl, PR.out.fin HV8.out HG8.out HV9.out HG9.out⟩
        · go_simp
          obtain ⟨x3, hw⟩ : ∃ x, Hid (x = x2.alloc (.cells #[.int .i64 0, .int .i64 0, .slice none 0 0] 24)) := ⟨_, rfl⟩
          rw [← hw.out]
          have hb : Below x2.heap.size x2 x3 := by rw [hw.out]; exact alloc_low _ _
          have hz_3 : x2.heap.size < x3.heap.size := by rw [hw.out]; simp
          have HL_3 : Hid (Below w.heap.size w x3) := two_below HL_2.out hb
          have HA_3 : Hid (Vr x3 w.heap.size (.int .i64 r0) (.int .i64 c0) (.slice a0 len0 cap0)) := HA_2.out.later hb
          have HB_3 : Hid (Vr x3 (w.heap.size + 1) (.int .i64 r1) (.int .i64 c1) (.slice a1 len1 cap1)) := HB_2.out.later hb
          have HMa_3 : Hid (Mt x3 sa len0 da F0) := HMa_2.out.later hb
          have HMb_3 : Hid (Mt x3 sb len1 db F1) := HMb_2.out.later hb
          have HQ_3 : Hid (Vr x3 x2.heap.size (.int .i64 0) (.int .i64 0) (.slice none 0 0)) := by show Vr _ _ _ _ _; rw [hw.out]; exact Vr.new _ _ _ _
          have HD_3 : Hid (x3.cell? ⟨w.heap.size, 0, none⟩ = some (.int .i64 r0) ∧ x3.cell? ⟨w.heap.size, 1, none⟩ = some (.int .i64 c0) ∧ x3.cell? ⟨w.heap.size, 2, none⟩ = some (.slice a0 len0 cap0) ∧ x3.cell? ⟨w.heap.size + 1, 0, none⟩ = some (.int .i64 r1) ∧ x3.cell? ⟨w.heap.size + 1, 1, none⟩ = some (.int .i64 c1) ∧ x3.cell? ⟨w.heap.size + 1, 2, none⟩ = some (.slice a1 len1 cap1)) := ⟨HA_3.out.c0, HA_3.out.c1, HA_3.out.c2, HB_3.out.c0, HB_3.out.c1, HB_3.out.c2⟩
          clear hw hb HA_2 HB_2 HMa_2 HMb_2
          refine hK.out _ _ HD_3.out (fun _ => ?_)
          clear hK K
          try simp only [List.getElem_toArray, List.getElem_cons_succ, List.getElem_cons_zero, Act.put, List.setIfInBounds_toArray, List.set_cons_zero, List.set_cons_succ]
          refine wpAnyH_ready (rs := [4]) (by kernel_rfl) (by simp) ?_
          refine AllReadyH.cons rfl (fun K hK => ?_) AllReadyH.nil
          · go_simp
            obtain ⟨x4, hw⟩ : ∃ x, Hid (x = x3.alloc (.cells #[.int .i64 0, .int .i64 0, .slice none 0 0] 24)) := ⟨_, rfl⟩
            rw [← hw.out]
            have hb : Below x3.heap.size x3 x4 := by rw [hw.out]; exact alloc_low _ _
            have hz_4 : x3.heap.size < x4.heap.size := by rw [hw.out]; simp
            have HL_4 : Hid (Below w.heap.size w x4) := two_below HL_3.out hb
            have HA_4 : Hid (Vr x4 w.heap.size (.int .i64 r0) (.int .i64 c0) (.slice a0 len0 cap0)) := HA_3.out.later hb
            have HB_4 : Hid (Vr x4 (w.heap.size + 1) (.int .i64 r1) (.int .i64 c1) (.slice a1 len1 cap1)) := HB_3.out.later hb
            have HMa_4 : Hid (Mt x4 sa len0 da F0) := HMa_3.out.later hb
            have HMb_4 : Hid (Mt x4 sb len1 db F1) := HMb_3.out.later hb
            have HQ_4 : Hid (Vr x4 x2.heap.size (.int .i64 0) (.int .i64 0) (.slice none 0 0)) := HQ_3.out.later hb
            have HP_4 : Hid (Vr x4 x3.heap.size (.int .i64 0) (.int .i64 0) (.slice none 0 0)) := by show Vr _ _ _ _ _; rw [hw.out]; exact Vr.new _ _ _ _
            have HD_4 : Hid (x4.cell? ⟨w.heap.size, 0, none⟩ = some (.int .i64 r0) ∧ x4.cell? ⟨w.heap.size, 1, none⟩ = some (.int .i64 c0) ∧ x4.cell? ⟨w.heap.size, 2, none⟩ = some (.slice a0 len0 cap0) ∧ x4.cell? ⟨w.heap.size + 1, 0, none⟩ = some (.int .i64 r1) ∧ x4.cell? ⟨w.heap.size + 1, 1, none⟩ = some (.int .i64 c1) ∧ x4.cell? ⟨w.heap.size + 1, 2, none⟩ = some (.slice a1 len1 cap1)) := ⟨HA_4.out.c0, HA_4.out.c1, HA_4.out.c2, HB_4.out.c0, HB_4.out.c1, HB_4.out.c2⟩
            clear hw hb HA_3 HB_3 HMa_3 HMb_3 HQ_3
            refine hK.out _ _ HD_4.out (fun _ => ?_)
            clear hK K
            try simp only [List.getElem_toArray, List.getElem_cons_succ, List.getElem_cons_zero, Act.put, List.setIfInBounds_toArray, List.set_cons_zero, List.set_cons_succ]
            have PR : Hid (Pre w x4 x3.heap.size x2.heap.size r0 c0 r1 c1 a0 a1 sa sb len0 cap0 len1 cap1 da db F0 F1) := ⟨HA_4.out, HB_4.out, HP_4.out, HQ_4.out, HMa_4.out, HMb_4.out, HL_4.out, by omega, by omega, by omega, iv_off JA.out (by omega), iv_off JB.out (by omega), iv_off JA.out (by omega), iv_off JB.out (by omega)⟩
            clear HA_4 HB_4 HMa_4 HMb_4 HQ_4 HP_4
            refine wpAnyH_ready (rs := [6]) (by kernel_rfl) (by simp) ?_
            refine AllReadyH.cons rfl (fun K hK => ?_) AllReadyH.nil
            refine step_store_var rfl _ _ rfl x3.heap.size _ _ _ (.int .i64 r0) (.int .i64 c0) (.slice sa len0 da) rfl rfl PR.out.vc rfl rfl rfl ?_
            intro x8 HV8 HG8
            have M8 := PR.out.mid HG8.out
            have HD8 : Hid (x8.cell? ⟨w.heap.size, 0, none⟩ = some (.int .i64 r0) ∧ x8.cell? ⟨w.heap.size, 1, none⟩ = some (.int .i64 c0) ∧ x8.cell? ⟨w.heap.size, 2, none⟩ = some (.slice a0 len0 cap0) ∧ x8.cell? ⟨w.heap.size + 1, 0, none⟩ = some (.int .i64 r1) ∧ x8.cell? ⟨w.heap.size + 1, 1, none⟩ = some (.int .i64 c1) ∧ x8.cell? ⟨w.heap.size + 1, 2, none⟩ = some (.slice a1 len1 cap1)) := ⟨M8.1.c0, M8.1.c1, M8.1.c2, M8.2.1.c0, M8.2.1.c1, M8.2.1.c2⟩
            refine hK.out _ _ HD8.out (fun _ => ?_)
            clear hK K
            try simp only [List.getElem_toArray, List.getElem_cons_succ, List.getElem_cons_zero, Act.put]
            refine wpAnyH_done (by kernel_rfl) ?_ _
            refine park_last rfl (fun K hK => ?_)
            refine step_store_var rfl _ _ rfl x2.heap.size _ _ _ (.int .i64 r1) (.int .i64 c1) (.slice sb len1 db) rfl rfl M8.2.2 rfl rfl rfl ?_
            intro x9 HV9 HG9
            refine hK.out _ _ ?_
            clear hK K
            try simp only [List.getElem_toArray, List.getElem_cons_succ, List.getElem_cons_zero, Act.put]
            go_wp2_with fail
            go_meet
            case rel => exact ⟨_, _, sa, sb, da, db, rfl, rfl, PR.out.fin HV8.out HG8.out HV9.out HG9.out⟩
      · go_simp
        obtain ⟨x2, hw⟩ : ∃ x, Hid (x = x1.alloc (.cells #[.int .i64 0, .int .i64 0, .slice none 0 0] 24)) := ⟨_, rfl⟩
        rw [← hw.out]
        have hb : Below x1.heap.size x1 x2 := by rw [hw.out]; exact alloc_low _ _
        have hz_2 : x1.heap.size < x2.heap.size := by rw [hw.out]; simp
        have HL_2 : Hid (Below w.heap.size w x2) := two_below HL_1.out hb
        have HA_2 : Hid (Vr x2 w.heap.size (.int .i64 r0) (.int .i64 c0) (.slice a0 len0 cap0)) := HA_1.out.later hb
        have HB_2 : Hid (Vr x2 (w.heap.size + 1) (.int .i64 r1) (.int .i64 c1) (.slice a1 len1 cap1)) := HB_1.out.later hb
        have HMa_2 : Hid (Mt x2 sa len0 da F0) := HMa_1.out.later hb
        have HP_2 : Hid (Vr x2 x1.heap.size (.int .i64 0) (.int .i64 0) (.slice none 0 0)) := by show Vr _ _ _ _ _; rw [hw.out]; exact Vr.new _ _ _ _
        have HD_2 : Hid (x2.cell? ⟨w.heap.size, 0, none⟩ = some (.int .i64 r0) ∧ x2.cell? ⟨w.heap.size, 1, none⟩ = some (.int .i64 c0) ∧ x2.cell? ⟨w.heap.size, 2, none⟩ = some (.slice a0 len0 cap0) ∧ x2.cell? ⟨w.heap.size + 1, 0, none⟩ = some (.int .i64 r1) ∧ x2.cell? ⟨w.heap.size + 1, 1, none⟩ = some (.int .i64 c1) ∧ x2.cell? ⟨w.heap.size + 1, 2, none⟩ = some (.slice a1 len1 cap1)) := ⟨HA_2.out.c0, HA_2.out.c1, HA_2.out.c2, HB_2.out.c0, HB_2.out.c1, HB_2.out.c2⟩
        clear hw hb HA_1 HB_1 HMa_1
        refine hK.out _ _ HD_2.out (fun _ => ?_)
        clear hK K
        try simp only [List.getElem_toArray, List.getElem_cons_succ, List.getElem_cons_zero, Act.put, List.setIfInBounds_toArray, List.set_cons_zero, List.set_cons_succ]
        refine wpAnyH_ready (rs := [3, 5]) (by kernel_rfl) (by simp) ?_
        refine AllReadyH.cons rfl (fun K hK => ?_) (AllReadyH.cons rfl (fun K hK => ?_) AllReadyH.nil)
        · go_simp
          refine (HCb.out x2 HL_2.out).mono ?_
          rintro e x3 ⟨sb, db, rfl, hs, hi, hb⟩
          have hz_3 : x2.heap.size ≤ x3.heap.size := hb.size
          have JB : Hid (Iv x2.heap.size x3.heap.size sb) := hi
          have HL_3 : Hid (Below w.heap.size w x3) := two_below HL_2.out hb
          have HA_3 : Hid (Vr x3 w.heap.size (.int .i64 r0) (.int .i64 c0) (.slice a0 len0 cap0)) := HA_2.out.later hb
          have HB_3 : Hid (Vr x3 (w.heap.size + 1) (.int .i64 r1) (.int .i64 c1) (.slice a1 len1 cap1)) := HB_2.out.later hb
          have HMa_3 : Hid (Mt x3 sa len0 da F0) := HMa_2.out.later hb
          have HP_3 : Hid (Vr x3 x1.heap.size (.int .i64 0) (.int .i64 0) (.slice none 0 0)) := HP_2.out.later hb
          have HMb_3 : Hid (Mt x3 sb len1 db F1) := hs
          have HD_3 : Hid (x3.cell? ⟨w.heap.size, 0, none⟩ = some (.int .i64 r0) ∧ x3.cell? ⟨w.heap.size, 1, none⟩ = some (.int .i64 c0) ∧ x3.cell? ⟨w.heap.size, 2, none⟩ = some (.slice a0 len0 cap0) ∧ x3.cell? ⟨w.heap.size + 1, 0, none⟩ = some (.int .i64 r1) ∧ x3.cell? ⟨w.heap.size + 1, 1, none⟩ = some (.int .i64 c1) ∧ x3.cell? ⟨w.heap.size + 1, 2, none⟩ = some (.slice a1 len1 cap1)) := ⟨HA_3.out.c0, HA_3.out.c1, HA_3.out.c2, HB_3.out.c0, HB_3.out.c1, HB_3.out.c2⟩
          clear hs hi hb HA_2 HB_2 HMa_2 HP_2
          refine hK.out _ _ HD_3.out (fun _ => ?_)
          clear hK K
          try simp only [List.getElem_toArray, List.getElem_cons_succ, List.getElem_cons_zero, Act.put, List.setIfInBounds_toArray, List.set_cons_zero, List.set_cons_succ]
          refine wpAnyH_ready (rs := [5]) (by kernel_rfl) (by simp) ?_
          refine AllReadyH.cons rfl (fun K hK => ?_) AllReadyH.nil
          · go_simp
            obtain ⟨x4, hw⟩ : ∃ x, Hid (x = x3.alloc (.cells #[.int .i64 0, .int .i64 0, .slice none 0 0] 24)) := ⟨_, rfl⟩
            rw [← hw.out]
            have hb : Below x3.heap.size x3 x4 := by rw [hw.out]; exact alloc_low _ _
            have hz_4 : x3.heap.size < x4.heap.size := by rw [hw.out]; simp
            have HL_4 : Hid (Below w.heap.size w x4) := two_below HL_3.out hb
            have HA_4 : Hid (Vr x4 w.heap.size (.int .i64 r0) (.int .i64 c0) (.slice a0 len0 cap0)) := HA_3.out.later hb
            have HB_4 : Hid (Vr x4 (w.heap.size + 1) (.int .i64 r1) (.int .i64 c1) (.slice a1 len1 cap1)) := HB_3.out.later hb
            have HMa_4 : Hid (Mt x4 sa len0 da F0) := HMa_3.out.later hb
            have HP_4 : Hid (Vr x4 x1.heap.size (.int .i64 0) (.int .i64 0) (.slice none 0 0)) := HP_3.out.later hb
            have HMb_4 : Hid (Mt x4 sb len1 db F1) := HMb_3.out.later hb
            have HQ_4 : Hid (Vr x4 x3.heap.size (.int .i64 0) (.int .i64 0) (.slice none 0 0)) := by show Vr _ _ _ _ _; rw [hw.out]; exact Vr.new _ _ _ _
            have HD_4 : Hid (x4.cell? ⟨w.heap.size, 0, none⟩ = some (.int .i64 r0) ∧ x4.cell? ⟨w.heap.size, 1, none⟩ = some (.int .i64 c0) ∧ x4.cell? ⟨w.heap.size, 2, none⟩ = some (.slice a0 len0 cap0) ∧ x4.cell? ⟨w.heap.size + 1, 0, none⟩ = some (.int .i64 r1) ∧ x4.cell? ⟨w.heap.size + 1, 1, none⟩ = some (.int .i64 c1) ∧ x4.cell? ⟨w.heap.size + 1, 2, none⟩ = some (.slice a1 len1 cap1)) := ⟨HA_4.out.c0, HA_4.out.c1, HA_4.out.c2, HB_4.out.c0, HB_4.out.c1, HB_4.out.c2⟩
            clear hw hb HA_3 HB_3 HMa_3 HP_3 HMb_3
            refine hK.out _ _ HD_4.out (fun _ => ?_)
            clear hK K
            try simp only [List.getElem_toArray, List.getElem_cons_succ, List.getElem_cons_zero, Act.put, List.setIfInBounds_toArray, List.set_cons_zero, List.set_cons_succ]
            have PR : Hid (Pre w x4 x1.heap.size x3.heap.size r0 c0 r1 c1 a0 a1 sa sb len0 cap0 len1 cap1 da db F0 F1) := ⟨HA_4.out, HB_4.out, HP_4.out, HQ_4.out, HMa_4.out, HMb_4.out, HL_4.out, by omega, by omega, by omega, iv_off JA.out (by omega), iv_off JB.out (by omega), iv_off JA.out (by omega), iv_off JB.out (by omega)⟩
            clear HA_4 HB_4 HMa_4 HP_4 HMb_4 HQ_4
            refine wpAnyH_ready (rs := [6]) (by kernel_rfl) (by simp) ?_
            refine AllReadyH.cons rfl (fun K hK => ?_) AllReadyH.nil
            refine step_store_var rfl _ _ rfl x1.heap.size _ _ _ (.int .i64 r0) (.int .i64 c0) (.slice sa len0 da) rfl rfl PR.out.vc rfl rfl rfl ?_
            intro x8 HV8 HG8
            have M8 := PR.out.mid HG8.out
            have HD8 : Hid (x8.cell? ⟨w.heap.size, 0, none⟩ = some (.int .i64 r0) ∧ x8.cell? ⟨w.heap.size, 1, none⟩ = some (.int .i64 c0) ∧ x8.cell? ⟨w.heap.size, 2, none⟩ = some (.slice a0 len0 cap0) ∧ x8.cell? ⟨w.heap.size + 1, 0, none⟩ = some (.int .i64 r1) ∧ x8.cell? ⟨w.heap.size + 1, 1, none⟩ = some (.int .i64 c1) ∧ x8.cell? ⟨w.heap.size + 1, 2, none⟩ = some (.slice a1 len1 cap1)) := ⟨M8.1.c0, M8.1.c1, M8.1.c2, M8.2.1.c0, M8.2.1.c1, M8.2.1.c2⟩
            refine hK.out _ _ HD8.out (fun _ => ?_)
            clear hK K
            try simp only [List.getElem_toArray, List.getElem_cons_succ, List.getElem_cons_zero, Act.put]
            refine wpAnyH_done (by kernel_rfl) ?_ _
            refine park_last rfl (fun K hK => ?_)
            refine step_store_var rfl _ _ rfl x3.heap.size _ _ _ (.int .i64 r1) (.int .i64 c1) (.slice sb len1 db) rfl rfl M8.2.2 rfl rfl rfl ?_
            intro x9 HV9 HG9
            refine hK.out _ _ ?_
            clear hK K
            try simp only [List.getElem_toArray, List.getElem_cons_succ, List.getElem_cons_zero, Act.put]
            go_wp2_with fail
            go_meet
            case rel => exact ⟨_, _, sa, sb, da, db, rfl, rfl, PR.out.fin HV8.out HG8.out HV9.out HG9.out⟩
        · go_simp
          obtain ⟨x3, hw⟩ : ∃ x, Hid (x = x2.alloc (.cells #[.int .i64 0, .int .i64 0, .slice none 0 0] 24)) := ⟨_, rfl⟩
          rw [← hw.out]
          have hb : Below x2.heap.size x2 x3 := by rw [hw.out]; exact alloc_low _ _
          have hz_3 : x2.heap.size < x3.heap.size := by rw [hw.out]; simp
          have HL_3 : Hid (Below w.heap.size w x3) := two_below HL_2.out hb
          have HA_3 : Hid (Vr x3 w.heap.size (.int .i64 r0) (.int .i64 c0) (.slice a0 len0 cap0)) := HA_2.out.later hb
          have HB_3 : Hid (Vr x3 (w.heap.size + 1) (.int .i64 r1) (.int .i64 c1) (.slice a1 len1 cap1)) := HB_2.out.later hb
          have HMa_3 : Hid (Mt x3 sa len0 da F0) := HMa_2.out.later hb
          have HP_3 : Hid (Vr x3 x1.heap.size (.int .i64 0) (.int .i64 0) (.slice none 0 0)) := HP_2.out.later hb
          have HQ_3 : Hid (Vr x3 x2.heap.size (.int .i64 0) (.int .i64 0) (.slice none 0 0)) := by show Vr _ _ _ _ _; rw [hw.out]; exact Vr.new _ _ _ _
          have HD_3 : Hid (x3.cell? ⟨w.heap.size, 0, none⟩ = some (.int .i64 r0) ∧ x3.cell? ⟨w.heap.size, 1, none⟩ = some (.int .i64 c0) ∧ x3.cell? ⟨w.heap.size, 2, none⟩ = some (.slice a0 len0 cap0) ∧ x3.cell? ⟨w.heap.size + 1, 0, none⟩ = some (.int .i64 r1) ∧ x3.cell? ⟨w.heap.size + 1, 1, none⟩ = some (.int .i64 c1) ∧ x3.cell? ⟨w.heap.size + 1, 2, none⟩ = some (.slice a1 len1 cap1)) := ⟨HA_3.out.c0, HA_3.out.c1, HA_3.out.c2, HB_3.out.c0, HB_3.out.c1, HB_3.out.c2⟩
          clear hw hb HA_2 HB_2 HMa_2 HP_2
          refine hK.out _ _ HD_3.out (fun _ => ?_)
          clear hK K
          try simp only [List.getElem_toArray, List.getElem_cons_succ, List.getElem_cons_zero, Act.put, List.setIfInBounds_toArray, List.set_cons_zero, List.set_cons_succ]
          refine wpAnyH_ready (rs := [3]) (by kernel_rfl) (by simp) ?_
          refine AllReadyH.cons rfl (fun K hK => ?_) AllReadyH.nil
          · go_simp
            refine (HCb.out x3 HL_3.out).mono ?_
            rintro e x4 ⟨sb, db, rfl, hs, hi, hb⟩
            have hz_4 : x3.heap.size ≤ x4.heap.size := hb.size
            have JB : Hid (Iv x3.heap.size x4.heap.size sb) := hi
            have HL_4 : Hid (Below w.heap.size w x4) := two_below HL_3.out hb
            have HA_4 : Hid (Vr x4 w.heap.size (.int .i64 r0) (.int .i64 c0) (.slice a0 len0 cap0)) := HA_3.out.later hb
            have HB_4 : Hid (Vr x4 (w.heap.size + 1) (.int .i64 r1) (.int .i64 c1) (.slice a1 len1 cap1)) := HB_3.out.later hb
            have HMa_4 : Hid (Mt x4 sa len0 da F0) := HMa_3.out.later hb
            have HP_4 : Hid (Vr x4 x1.heap.size (.int .i64 0) (.int .i64 0) (.slice none 0 0)) := HP_3.out.later hb
            have HQ_4 : Hid (Vr x4 x2.heap.size (.int .i64 0) (.int .i64 0) (.slice none 0 0)) := HQ_3.out.later hb
            have HMb_4 : Hid (Mt x4 sb len1 db F1) := hs
            have HD_4 : Hid (x4.cell? ⟨w.heap.size, 0, none⟩ = some (.int .i64 r0) ∧ x4.cell? ⟨w.heap.size, 1, none⟩ = some (.int .i64 c0) ∧ x4.cell? ⟨w.heap.size, 2, none⟩ = some (.slice a0 len0 cap0) ∧ x4.cell? ⟨w.heap.size + 1, 0, none⟩ = some (.int .i64 r1) ∧ x4.cell? ⟨w.heap.size + 1, 1, none⟩ = some (.int .i64 c1) ∧ x4.cell? ⟨w.heap.size + 1, 2, none⟩ = some (.slice a1 len1 cap1)) := ⟨HA_4.out.c0, HA_4.out.c1, HA_4.out.c2, HB_4.out.c0, HB_4.out.c1, HB_4.out.c2⟩
            clear hs hi hb HA_3 HB_3 HMa_3 HP_3 HQ_3
            refine hK.out _ _ HD_4.out (fun _ => ?_)
            clear hK K
            try simp only [List.getElem_toArray, List.getElem_cons_succ, List.getElem_cons_zero, Act.put, List.setIfInBounds_toArray, List.set_cons_zero, List.set_cons_succ]
            have PR : Hid (Pre w x4 x1.heap.size x2.heap.size r0 c0 r1 c1 a0 a1 sa sb len0 cap0 len1 cap1 da db F0 F1) := ⟨HA_4.out, HB_4.out, HP_4.out, HQ_4.out, HMa_4.out, HMb_4.out, HL_4.out, by omega, by omega, by omega, iv_off JA.out (by omega), iv_off JB.out (by omega), iv_off JA.out (by omega), iv_off JB.out (by omega)⟩
            clear HA_4 HB_4 HMa_4 HP_4 HQ_4 HMb_4
            refine wpAnyH_ready (rs := [6]) (by kernel_rfl) (by simp) ?_
            refine AllReadyH.cons rfl (fun K hK => ?_) AllReadyH.nil
            refine step_store_var rfl _ _ rfl x1.heap.size _ _ _ (.int .i64 r0) (.int .i64 c0) (.slice sa len0 da) rfl rfl PR.out.vc rfl rfl rfl ?_
            intro x8 HV8 HG8
            have M8 := PR.out.mid HG8.out
            have HD8 : Hid (x8.cell? ⟨w.heap.size, 0, none⟩ = some (.int .i64 r0) ∧ x8.cell? ⟨w.heap.size, 1, none⟩ = some (.int .i64 c0) ∧ x8.cell? ⟨w.heap.size, 2, none⟩ = some (.slice a0 len0 cap0) ∧ x8.cell? ⟨w.heap.size + 1, 0, none⟩ = some (.int .i64 r1) ∧ x8.cell? ⟨w.heap.size + 1, 1, none⟩ = some (.int .i64 c1) ∧ x8.cell? ⟨w.heap.size + 1, 2, none⟩ = some (.slice a1 len1 cap1)) := ⟨M8.1.c0, M8.1.c1, M8.1.c2, M8.2.1.c0, M8.2.1.c1, M8.2.1.c2⟩
            refine hK.out _ _ HD8.out (fun _ => ?_)
            clear hK K
            try simp only [List.getElem_toArray, List.getElem_cons_succ, List.getElem_cons_zero, Act.put]
            refine wpAnyH_done (by kernel_rfl) ?_ _
            refine park_last rfl (fun K hK => ?_)
            refine step_store_var rfl _ _ rfl x2.heap.size _ _ _ (.int .i64 r1) (.int .i64 c1) (.slice sb len1 db) rfl rfl M8.2.2 rfl rfl rfl ?_
            intro x9 HV9 HG9
            refine hK.out _ _ ?_
            clear hK K
            try simp only [List.getElem_toArray, List.getElem_cons_succ, List.getElem_cons_zero, Act.put]
            go_wp2_with fail
            go_meet
            case rel => exact ⟨_, _, sa, sb, da, db, rfl, rfl, PR.out.fin HV8.out HG8.out HV9.out HG9.out⟩
      · go_simp
        obtain ⟨x2, hw⟩ : ∃ x, Hid (x = x1.alloc (.cells #[.int .i64 0, .int .i64 0, .slice none 0 0] 24)) := ⟨_, rfl⟩
        rw [← hw.out]
        have hb : Below x1.heap.size x1 x2 := by rw [hw.out]; exact alloc_low _ _
        have hz_2 : x1.heap.size < x2.heap.size := by rw [hw.out]; simp
        have HL_2 : Hid (Below w.heap.size w x2) := two_below HL_1.out hb
        have HA_2 : Hid (Vr x2 w.heap.size (.int .i64 r0) (.int .i64 c0) (.slice a0 len0 cap0)) := HA_1.out.later hb
        have HB_2 : Hid (Vr x2 (w.heap.size + 1) (.int .i64 r1) (.int .i64 c1) (.slice a1 len1 cap1)) := HB_1.out.later hb
        have HMa_2 : Hid (Mt x2 sa len0 da F0) := HMa_1.out.later hb
        have HQ_2 : Hid (Vr x2 x1.heap.size (.int .i64 0) (.int .i64 0) (.slice none 0 0)) := by show Vr _ _ _ _ _; rw [hw.out]; exact Vr.new _ _ _ _
        have HD_2 : Hid (x2.cell? ⟨w.heap.size, 0, none⟩ = some (.int .i64 r0) ∧ x2.cell? ⟨w.heap.size, 1, none⟩ = some (.int .i64 c0) ∧ x2.cell? ⟨w.heap.size, 2, none⟩ = some (.slice a0 len0 cap0) ∧ x2.cell? ⟨w.heap.size + 1, 0, none⟩ = some (.int .i64 r1) ∧ x2.cell? ⟨w.heap.size + 1, 1, none⟩ = some (.int .i64 c1) ∧ x2.cell? ⟨w.heap.size + 1, 2, none⟩ = some (.slice a1 len1 cap1)) := ⟨HA_2.out.c0, HA_2.out.c1, HA_2.out.c2, HB_2.out.c0, HB_2.out.c1, HB_2.out.c2⟩
        clear hw hb HA_1 HB_1 HMa_1
        refine hK.out _ _ HD_2.out (fun _ => ?_)
        clear hK K
        try simp only [List.getElem_toArray, List.getElem_cons_succ, List.getElem_cons_zero, Act.put, List.setIfInBounds_toArray, List.set_cons_zero, List.set_cons_succ]
        refine wpAnyH_ready (rs := [3, 4]) (by kernel_rfl) (by simp) ?_
        refine AllReadyH.cons rfl (fun K hK => ?_) (AllReadyH.cons rfl (fun K hK => ?_) AllReadyH.nil)
        · go_simp
          refine (HCb.out x2 HL_2.out).mono ?_
          rintro e x3 ⟨sb, db, rfl, hs, hi, hb⟩
          have hz_3 : x2.heap.size ≤ x3.heap.size := hb.size
          have JB : Hid (Iv x2.heap.size x3.heap.size sb) := hi
          have HL_3 : Hid (Below w.heap.size w x3) := two_below HL_2.out hb
          have HA_3 : Hid (Vr x3 w.heap.size (.int .i64 r0) (.int .i64 c0) (.slice a0 len0 cap0)) := HA_2.out.later hb
          have HB_3 : Hid (Vr x3 (w.heap.size + 1) (.int .i64 r1) (.int .i64 c1) (.slice a1 len1 cap1)) := HB_2.out.later hb
          have HMa_3 : Hid (Mt x3 sa len0 da F0) := HMa_2.out.later hb
          have HQ_3 : Hid (Vr x3 x1.heap.size (.int .i64 0) (.int .i64 0) (.slice none 0 0)) := HQ_2.out.later hb
          have HMb_3 : Hid (Mt x3 sb len1 db F1) := hs
          have HD_3 : Hid (x3.cell? ⟨w.heap.size, 0, none⟩ = some (.int .i64 r0) ∧ x3.cell? ⟨w.heap.size, 1, none⟩ = some (.int .i64 c0) ∧ x3.cell? ⟨w.heap.size, 2, none⟩ = some (.slice a0 len0 cap0) ∧ x3.cell? ⟨w.heap.size + 1, 0, none⟩ = some (.int .i64 r1) ∧ x3.cell? ⟨w.heap.size + 1, 1, none⟩ = some (.int .i64 c1) ∧ x3.cell? ⟨w.heap.size + 1, 2, none⟩ = some (.slice a1 len1 cap1)) := ⟨HA_3.out.c0, HA_3.out.c1, HA_3.out.c2, HB_3.out.c0, HB_3.out.c1, HB_3.out.c2⟩
          clear hs hi hb HA_2 HB_2 HMa_2 HQ_2
          refine hK.out _ _ HD_3.out (fun _ => ?_)
          clear hK K
          try simp only [List.getElem_toArray, List.getElem_cons_succ, List.getElem_cons_zero, Act.put, List.setIfInBounds_toArray, List.set_cons_zero, List.set_cons_succ]
          refine wpAnyH_ready (rs := [4]) (by kernel_rfl) (by simp) ?_
          refine AllReadyH.cons rfl (fun K hK => ?_) AllReadyH.nil
          · go_simp
            obtain ⟨x4, hw⟩ : ∃ x, Hid (x = x3.alloc (.cells #[.int .i64 0, .int .i64 0, .slice none 0 0] 24)) := ⟨_, rfl⟩
            rw [← hw.out]
            have hb : Below x3.heap.size x3 x4 := by rw [hw.out]; exact alloc_low _ _
            have hz_4 : x3.heap.size < x4.heap.size := by rw [hw.out]; simp
            have HL_4 : Hid (Below w.heap.size w x4) := two_below HL_3.out hb
            have HA_4 : Hid (Vr x4 w.heap.size (.int .i64 r0) (.int .i64 c0) (.slice a0 len0 cap0)) := HA_3.out.later hb
            have HB_4 : Hid (Vr x4 (w.heap.size + 1) (.int .i64 r1) (.int .i64 c1) (.slice a1 len1 cap1)) := HB_3.out.later hb
            have HMa_4 : Hid (Mt x4 sa len0 da F0) := HMa_3.out.later hb
            have HQ_4 : Hid (Vr x4 x1.heap.size (.int .i64 0) (.int .i64 0) (.slice none 0 0)) := HQ_3.out.later hb
            have HMb_4 : Hid (Mt x4 sb len1 db F1) := HMb_3.out.later hb
            have HP_4 : Hid (Vr x4 x3.heap.size (.int .i64 0) (.int .i64 0) (.slice none 0 0)) := by show Vr _ _ _ _ _; rw [hw.out]; exact Vr.new _ _ _ _
            have HD_4 : Hid (x4.cell? ⟨w.heap.size, 0, none⟩ = some (.int .i64 r0) ∧ x4.cell? ⟨w.heap.size, 1, none⟩ = some (.int .i64 c0) ∧ x4.cell? ⟨w.heap.size, 2, none⟩ = some (.slice a0 len0 cap0) ∧ x4.cell? ⟨w.heap.size + 1, 0, none⟩ = some (.int .i64 r1) ∧ x4.cell? ⟨w.heap.size + 1, 1, none⟩ = some (.int .i64 c1) ∧ x4.cell? ⟨w.heap.size + 1, 2, none⟩ = some (.slice a1 len1 cap1)) := ⟨HA_4.out.c0, HA_4.out.c1, HA_4.out.c2, HB_4.out.c0, HB_4.out.c1, HB_4.out.c2⟩
            clear hw hb HA_3 HB_3 HMa_3 HQ_3 HMb_3
            refine hK.out _ _ HD_4.out (fun _ => ?_)
            clear hK K
            try simp only [List.getElem_toArray, List.getElem_cons_succ, List.getElem_cons_zero, Act.put, List.setIfInBounds_toArray, List.set_cons_zero, List.set_cons_succ]
            have PR : Hid (Pre w x4 x3.heap.size x1.heap.size r0 c0 r1 c1 a0 a1 sa sb len0 cap0 len1 cap1 da db F0 F1) := ⟨HA_4.out, HB_4.out, HP_4.out, HQ_4.out, HMa_4.out, HMb_4.out, HL_4.out, by omega, by omega, by omega, iv_off JA.out (by omega), iv_off JB.out (by omega), iv_off JA.out (by omega), iv_off JB.out (by omega)⟩
            clear HA_4 HB_4 HMa_4 HQ_4 HMb_4 HP_4
            refine wpAnyH_ready (rs := [6]) (by kernel_rfl) (by simp) ?_
            refine AllReadyH.cons rfl (fun K hK => ?_) AllReadyH.nil
            refine step_store_var rfl _ _ rfl x3.heap.size _ _ _ (.int .i64 r0) (.int .i64 c0) (.slice sa len0 da) rfl rfl PR.out.vc rfl rfl rfl ?_
            intro x8 HV8 HG8
            have M8 := PR.out.mid HG8.out
            have HD8 : Hid (x8.cell? ⟨w.heap.size, 0, none⟩ = some (.int .i64 r0) ∧ x8.cell? ⟨w.heap.size, 1, none⟩ = some (.int .i64 c0) ∧ x8.cell? ⟨w.heap.size, 2, none⟩ = some (.slice a0 len0 cap0) ∧ x8.cell? ⟨w.heap.size + 1, 0, none⟩ = some (.int .i64 r1) ∧ x8.cell? ⟨w.heap.size + 1, 1, none⟩ = some (.int .i64 c1) ∧ x8.cell? ⟨w.heap.size + 1, 2, none⟩ = some (.slice a1 len1 cap1)) := ⟨M8.1.c0, M8.1.c1, M8.1.c2, M8.2.1.c0, M8.2.1.c1, M8.2.1.c2⟩
            refine hK.out _ _ HD8.out (fun _ => ?_)
            clear hK K
            try simp only [List.getElem_toArray, List.getElem_cons_succ, List.getElem_cons_zero, Act.put]
            refine wpAnyH_done (by kernel_rfl) ?_ _
            refine park_last rfl (fun K hK => ?_)
            refine step_store_var rfl _ _ rfl x1.heap.size _ _ _ (.int .i64 r1) (.int .i64 c1) (.slice sb len1 db) rfl rfl M8.2.2 rfl rfl rfl ?_
            intro x9 HV9 HG9
            refine hK.out _ _ ?_
            clear hK K
            try simp only [List.getElem_toArray, List.getElem_cons_succ, List.getElem_cons_zero, Act.put]
            go_wp2_with fail
            go_meet
            case rel => exact ⟨_, _, sa, sb, da, db, rfl, rfl, PR.out.fin HV8.out HG8.out HV9.out HG9.out⟩
        · go_simp
          obtain ⟨x3, hw⟩ : ∃ x, Hid (x = x2.alloc (.cells #[.int .i64 0, .int .i64 0, .slice none 0 0] 24)) := ⟨_, rfl⟩
          rw [← hw.out]
          have hb : Below x2.heap.size x2 x3 := by rw [hw.out]; exact alloc_low _ _
          have hz_3 : x2.heap.size < x3.heap.size := by rw [hw.out]; simp
          have HL_3 : Hid (Below w.heap.size w x3) := two_below HL_2.out hb
          have HA_3 : Hid (Vr x3 w.heap.size (.int .i64 r0) (.int .i64 c0) (.slice a0 len0 cap0)) := HA_2.out.later hb
          have HB_3 : Hid (Vr x3 (w.heap.size + 1) (.int .i64 r1) (.int .i64 c1) (.slice a1 len1 cap1)) := HB_2.out.later hb
          have HMa_3 : Hid (Mt x3 sa len0 da F0) := HMa_2.out.later hb
          have HQ_3 : Hid (Vr x3 x1.heap.size (.int .i64 0) (.int .i64 0) (.slice none 0 0)) := HQ_2.out.later hb
          have HP_3 : Hid (Vr x3 x2.heap.size (.int .i64 0) (.int .i64 0) (.slice none 0 0)) := by show Vr _ _ _ _ _; rw [hw.out]; exact Vr.new _ _ _ _
          have HD_3 : Hid (x3.cell? ⟨w.heap.size, 0, none⟩ = some (.int .i64 r0) ∧ x3.cell? ⟨w.heap.size, 1, none⟩ = some (.int .i64 c0) ∧ x3.cell? ⟨w.heap.size, 2, none⟩ = some (.slice a0 len0 cap0) ∧ x3.cell? ⟨w.heap.size + 1, 0, none⟩ = some (.int .i64 r1) ∧ x3.cell? ⟨w.heap.size + 1, 1, none⟩ = some (.int .i64 c1) ∧ x3.cell? ⟨w.heap.size + 1, 2, none⟩ = some (.slice a1 len1 cap1)) := ⟨HA_3.out.c0, HA_3.out.c1, HA_3.out.c2, HB_3.out.c0, HB_3.out.c1, HB_3.out.c2⟩
          clear hw hb HA_2 HB_2 HMa_2 HQ_2
          refine hK.out _ _ HD_3.out (fun _ => ?_)
          clear hK K
          try simp only [List.getElem_toArray, List.getElem_cons_succ, List.getElem_cons_zero, Act.put, List.setIfInBounds_toArray, List.set_cons_zero, List.set_cons_succ]
          refine wpAnyH_ready (rs := [3]) (by kernel_rfl) (by simp) ?_
          refine AllReadyH.cons rfl (fun K hK => ?_) AllReadyH.nil
          · go_simp
            refine (HCb.out x3 HL_3.out).mono ?_
            rintro e x4 ⟨sb, db, rfl, hs, hi, hb⟩
            have hz_4 : x3.heap.size ≤ x4.heap.size := hb.size
            have JB : Hid (Iv x3.heap.size x4.heap.size sb) := hi
            have HL_4 : Hid (Below w.heap.size w x4) := two_below HL_3.out hb
            have HA_4 : Hid (Vr x4 w.heap.size (.int .i64 r0) (.int .i64 c0) (.slice a0 len0 cap0)) := HA_3.out.later hb
            have HB_4 : Hid (Vr x4 (w.heap.size + 1) (.int .i64 r1) (.int .i64 c1) (.slice a1 len1 cap1)) := HB_3.out.later hb
            have HMa_4 : Hid (Mt x4 sa len0 da F0) := HMa_3.out.later hb
            have HQ_4 : Hid (Vr x4 x1.heap.size (.int .i64 0) (.int .i64 0) (.slice none 0 0)) := HQ_3.out.later hb
            have HP_4 : Hid (Vr x4 x2.heap.size (.int .i64 0) (.int .i64 0) (.slice none 0 0)) := HP_3.out.later hb
            have HMb_4 : Hid (Mt x4 sb len1 db F1) := hs
            have HD_4 : Hid (x4.cell? ⟨w.heap.size, 0, none⟩ = some (.int .i64 r0) ∧ x4.cell? ⟨w.heap.size, 1, none⟩ = some (.int .i64 c0) ∧ x4.cell? ⟨w.heap.size, 2, none⟩ = some (.slice a0 len0 cap0) ∧ x4.cell? ⟨w.heap.size + 1, 0, none⟩ = some (.int .i64 r1) ∧ x4.cell? ⟨w.heap.size + 1, 1, none⟩ = some (.int .i64 c1) ∧ x4.cell? ⟨w.heap.size + 1, 2, none⟩ = some (.slice a1 len1 cap1)) := ⟨HA_4.out.c0, HA_4.out.c1, HA_4.out.c2, HB_4.out.c0, HB_4.out.c1, HB_4.out.c2⟩
            clear hs hi hb HA_3 HB_3 HMa_3 HQ_3 HP_3
            refine hK.out _ _ HD_4.out (fun _ => ?_)
            clear hK K
            try simp only [List.getElem_toArray, List.getElem_cons_succ, List.getElem_cons_zero, Act.put, List.setIfInBounds_toArray, List.set_cons_zero, List.set_cons_succ]
            have PR : Hid (Pre w x4 x2.heap.size x1.heap.size r0 c0 r1 c1 a0 a1 sa sb len0 cap0 len1 cap1 da db F0 F1) := ⟨HA_4.out, HB_4.out, HP_4.out, HQ_4.out, HMa_4.out, HMb_4.out, HL_4.out, by omega, by omega, by omega, iv_off JA.out (by omega), iv_off JB.out (by omega), iv_off JA.out (by omega), iv_off JB.out (by omega)⟩
            clear HA_4 HB_4 HMa_4 HQ_4 HP_4 HMb_4
            refine wpAnyH_ready (rs := [6]) (by kernel_rfl) (by simp) ?_
            refine AllReadyH.cons rfl (fun K hK => ?_) AllReadyH.nil
            refine step_store_var rfl _ _ rfl x2.heap.size _ _ _ (.int .i64 r0) (.int .i64 c0) (.slice sa len0 da) rfl rfl PR.out.vc rfl rfl rfl ?_
            intro x8 HV8 HG8
            have M8 := PR.out.mid HG8.out
            have HD8 : Hid (x8.cell? ⟨w.heap.size, 0, none⟩ = some (.int .i64 r0) ∧ x8.cell? ⟨w.heap.size, 1, none⟩ = some (.int .i64 c0) ∧ x8.cell? ⟨w.heap.size, 2, none⟩ = some (.slice a0 len0 cap0) ∧ x8.cell? ⟨w.heap.size + 1, 0, none⟩ = some (.int .i64 r1) ∧ x8.cell? ⟨w.heap.size + 1, 1, none⟩ = some (.int .i64 c1) ∧ x8.cell? ⟨w.heap.size + 1, 2, none⟩ = some (.slice a1 len1 cap1)) := ⟨M8.1.c0, M8.1.c1, M8.1.c2, M8.2.1.c0, M8.2.1.c1, M8.2.1.c2⟩
            refine hK.out _ _ HD8.out (fun _ => ?_)
            clear hK K
            try simp only [List.getElem_toArray, List.getElem_cons_succ, List.getElem_cons_zero, Act.put]
            refine wpAnyH_done (by kernel_rfl) ?_ _
            refine park_last rfl (fun K hK => ?_)
            refine step_store_var rfl _ _ rfl x1.heap.size _ _ _ (.int .i64 r1) (.int .i64 c1) (.slice sb len1 db) rfl rfl M8.2.2 rfl rfl rfl ?_
            intro x9 HV9 HG9
            refine hK.out _ _ ?_
            clear hK K
            try simp only [List.getElem_toArray, List.getElem_cons_succ, List.getElem_cons_zero, Act.put]
            go_wp2_with fail
            go_meet
            case rel => exact ⟨_, _, sa, sb, da, db, rfl, rfl, PR.out.fin HV8.out HG8.out HV9.out HG9.out⟩
    · go_simp
      obtain ⟨x1, hw⟩ : ∃ x, Hid (x = x0.alloc (.cells #[.int .i64 0, .int .i64 0, .slice none 0 0] 24)) := ⟨_, rfl⟩
      rw [← hw.out]
      have hb : Below x0.heap.size x0 x1 := by rw [hw.out]; exact alloc_low _ _
      have hz_1 : x0.heap.size < x1.heap.size := by rw [hw.out]; simp
      have HL_1 : Hid (Below w.heap.size w x1) := two_below HL_0.out hb
      have HA_1 : Hid (Vr x1 w.heap.size (.int .i64 r0) (.int .i64 c0) (.slice a0 len0 cap0)) := HA_0.out.later hb
      have HB_1 : Hid (Vr x1 (w.heap.size + 1) (.int .i64 r1) (.int .i64 c1) (.slice a1 len1 cap1)) := HB_0.out.later hb
      have HP_1 : Hid (Vr x1 x0.heap.size (.int .i64 0) (.int .i64 0) (.slice none 0 0)) := by show Vr _ _ _ _ _; rw [hw.out]; exact Vr.new _ _ _ _
      have HD_1 : Hid (x1.cell? ⟨w.heap.size, 0, none⟩ = some (.int .i64 r0) ∧ x1.cell? ⟨w.heap.size, 1, none⟩ = some (.int .i64 c0) ∧ x1.cell? ⟨w.heap.size, 2, none⟩ = some (.slice a0 len0 cap0) ∧ x1.cell? ⟨w.heap.size + 1, 0, none⟩ = some (.int .i64 r1) ∧ x1.cell? ⟨w.heap.size + 1, 1, none⟩ = some (.int .i64 c1) ∧ x1.cell? ⟨w.heap.size + 1, 2, none⟩ = some (.slice a1 len1 cap1)) := ⟨HA_1.out.c0, HA_1.out.c1, HA_1.out.c2, HB_1.out.c0, HB_1.out.c1, HB_1.out.c2⟩
      clear hw hb HA_0 HB_0
      refine hK.out _ _ HD_1.out (fun _ => ?_)
      clear hK K
      try simp only [List.getElem_toArray, List.getElem_cons_succ, List.getElem_cons_zero, Act.put, List.setIfInBounds_toArray, List.set_cons_zero, List.set_cons_succ]
      refine wpAnyH_ready (rs := [1, 5]) (by kernel_rfl) (by simp) ?_
      refine AllReadyH.cons rfl (fun K hK => ?_) (AllReadyH.cons rfl (fun K hK => ?_) AllReadyH.nil)
      · go_simp
        refine (HCa.out x1 HL_1.out).mono ?_
        rintro e x2 ⟨sa, da, rfl, hs, hi, hb⟩
        have hz_2 : x1.heap.size ≤ x2.heap.size := hb.size
        have JA : Hid (Iv x1.heap.size x2.heap.size sa) := hi
        have HL_2 : Hid (Below w.heap.size w x2) := two_below HL_1.out hb
        have HA_2 : Hid (Vr x2 w.heap.size (.int .i64 r0) (.int .i64 c0) (.slice a0 len0 cap0)) := HA_1.out.later hb
        have HB_2 : Hid (Vr x2 (w.heap.size + 1) (.int .i64 r1) (.int .i64 c1) (.slice a1 len1 cap1)) := HB_1.out.later hb
        have HP_2 : Hid (Vr x2 x0.heap.size (.int .i64 0) (.int .i64 0) (.slice none 0 0)) := HP_1.out.later hb
        have HMa_2 : Hid (Mt x2 sa len0 da F0) := hs
        have HD_2 : Hid (x2.cell? ⟨w.heap.size, 0, none⟩ = some (.int .i64 r0) ∧ x2.cell? ⟨w.heap.size, 1, none⟩ = some (.int .i64 c0) ∧ x2.cell? ⟨w.heap.size, 2, none⟩ = some (.slice a0 len0 cap0) ∧ x2.cell? ⟨w.heap.size + 1, 0, none⟩ = some (.int .i64 r1) ∧ x2.cell? ⟨w.heap.size + 1, 1, none⟩ = some (.int .i64 c1) ∧ x2.cell? ⟨w.heap.size + 1, 2, none⟩ = some (.slice a1 len1 cap1)) := ⟨HA_2.out.c0, HA_2.out.c1, HA_2.out.c2, HB_2.out.c0, HB_2.out.c1, HB_2.out.c2⟩
        clear hs hi hb HA_1 HB_1 HP_1
        refine hK.out _ _ HD_2.out (fun _ => ?_)
        clear hK K
        try simp only [List.getElem_toArray, List.getElem_cons_succ, List.getElem_cons_zero, Act.put, List.setIfInBounds_toArray, List.set_cons_zero, List.set_cons_succ]
        refine wpAnyH_ready (rs := [3, 5]) (by kernel_rfl) (by simp) ?_
        refine AllReadyH.cons rfl (fun K hK => ?_) (AllReadyH.cons rfl (fun K hK => ?_) AllReadyH.nil)
        · go_simp
          refine (HCb.out x2 HL_2.out).mono ?_
          rintro e x3 ⟨sb, db, rfl, hs, hi, hb⟩
          have hz_3 : x2.heap.size ≤ x3.heap.size := hb.size
          have JB : Hid (Iv x2.heap.size x3.heap.size sb) := hi
          have HL_3 : Hid (Below w.heap.size w x3) := two_below HL_2.out hb
          have HA_3 : Hid (Vr x3 w.heap.size (.int .i64 r0) (.int .i64 c0) (.slice a0 len0 cap0)) := HA_2.out.later hb
          have HB_3 : Hid (Vr x3 (w.heap.size + 1) (.int .i64 r1) (.int .i64 c1) (.slice a1 len1 cap1)) := HB_2.out.later hb
          have HP_3 : Hid (Vr x3 x0.heap.size (.int .i64 0) (.int .i64 0) (.slice none 0 0)) := HP_2.out.later hb
          have HMa_3 : Hid (Mt x3 sa len0 da F0) := HMa_2.out.later hb
          have HMb_3 : Hid (Mt x3 sb len1 db F1) := hs
          have HD_3 : Hid (x3.cell? ⟨w.heap.size, 0, none⟩ = some (.int .i64 r0) ∧ x3.cell? ⟨w.heap.size, 1, none⟩ = some (.int .i64 c0) ∧ x3.cell? ⟨w.heap.size, 2, none⟩ = some (.slice a0 len0 cap0) ∧ x3.cell? ⟨w.heap.size + 1, 0, none⟩ = some (.int .i64 r1) ∧ x3.cell? ⟨w.heap.size + 1, 1, none⟩ = some (.int .i64 c1) ∧ x3.cell? ⟨w.heap.size + 1, 2, none⟩ = some (.slice a1 len1 cap1)) := ⟨HA_3.out.c0, HA_3.out.c1, HA_3.out.c2, HB_3.out.c0, HB_3.out.c1, HB_3.out.c2⟩
          clear hs hi hb HA_2 HB_2 HP_2 HMa_2
          refine hK.out _ _ HD_3.out (fun _ => ?_)
          clear hK K
          try simp only [List.getElem_toArray, List.getElem_cons_succ, List.getElem_cons_zero, Act.put, List.setIfInBounds_toArray, List.set_cons_zero, List.set_cons_succ]
          refine wpAnyH_ready (rs := [5]) (by kernel_rfl) (by simp) ?_
          refine AllReadyH.cons rfl (fun K hK => ?_) AllReadyH.nil
          · go_simp
            obtain ⟨x4, hw⟩ : ∃ x, Hid (x = x3.alloc (.cells #[.int .i64 0, .int .i64 0, .slice none 0 0] 24)) := ⟨_, rfl⟩
            rw [← hw.out]
            have hb : Below x3.heap.size x3 x4 := by rw [hw.out]; exact alloc_low _ _
            have hz_4 : x3.heap.size < x4.heap.size := by rw [hw.out]; simp
            have HL_4 : Hid (Below w.heap.size w x4) := two_below HL_3.out hb
            have HA_4 : Hid (Vr x4 w.heap.size (.int .i64 r0) (.int .i64 c0) (.slice a0 len0 cap0)) := HA_3.out.later hb
            have HB_4 : Hid (Vr x4 (w.heap.size + 1) (.int .i64 r1) (.int .i64 c1) (.slice a1 len1 cap1)) := HB_3.out.later hb
            have HP_4 : Hid (Vr x4 x0.heap.size (.int .i64 0) (.int .i64 0) (.slice none 0 0)) := HP_3.out.later hb
            have HMa_4 : Hid (Mt x4 sa len0 da F0) := HMa_3.out.later hb
            have HMb_4 : Hid (Mt x4 sb len1 db F1) := HMb_3.out.later hb
            have HQ_4 : Hid (Vr x4 x3.heap.size (.int .i64 0) (.int .i64 0) (.slice none 0 0)) := by show Vr _ _ _ _ _; rw [hw.out]; exact Vr.new _ _ _ _
            have HD_4 : Hid (x4.cell? ⟨w.heap.size, 0, none⟩ = some (.int .i64 r0) ∧ x4.cell? ⟨w.heap.size, 1, none⟩ = some (.int .i64 c0) ∧ x4.cell? ⟨w.heap.size, 2, none⟩ = some (.slice a0 len0 cap0) ∧ x4.cell? ⟨w.heap.size + 1, 0, none⟩ = some (.int .i64 r1) ∧ x4.cell? ⟨w.heap.size + 1, 1, none⟩ = some (.int .i64 c1) ∧ x4.cell? ⟨w.heap.size + 1, 2, none⟩ = some (.slice a1 len1 cap1)) := ⟨HA_4.out.c0, HA_4.out.c1, HA_4.out.c2, HB_4.out.c0, HB_4.out.c1, HB_4.out.c2⟩
            clear hw hb HA_3 HB_3 HP_3 HMa_3 HMb_3
            refine hK.out _ _ HD_4.out (fun _ => ?_)
            clear hK K
            try simp only [List.getElem_toArray, List.getElem_cons_succ, List.getElem_cons_zero, Act.put, List.setIfInBounds_toArray, List.set_cons_zero, List.set_cons_succ]
            have PR : Hid (Pre w x4 x0.heap.size x3.heap.size r0 c0 r1 c1 a0 a1 sa sb len0 cap0 len1 cap1 da db F0 F1) := ⟨HA_4.out, HB_4.out, HP_4.out, HQ_4.out, HMa_4.out, HMb_4.out, HL_4.out, by omega, by omega, by omega, iv_off JA.out (by omega), iv_off JB.out (by omega), iv_off JA.out (by omega), iv_off JB.out (by omega)⟩
            clear HA_4 HB_4 HP_4 HMa_4 HMb_4 HQ_4
            refine wpAnyH_ready (rs := [6]) (by kernel_rfl) (by simp) ?_
            refine AllReadyH.cons rfl (fun K hK => ?_) AllReadyH.nil
            refine step_store_var rfl _ _ rfl x0.heap.size _ _ _ (.int .i64 r0) (.int .i64 c0) (.slice sa len0 da) rfl rfl PR.out.vc rfl rfl rfl ?_
            intro x8 HV8 HG8
            have M8 := PR.out.mid HG8.out
            have HD8 : Hid (x8.cell? ⟨w.heap.size, 0, none⟩ = some (.int .i64 r0) ∧ x8.cell? ⟨w.heap.size, 1, none⟩ = some (.int .i64 c0) ∧ x8.cell? ⟨w.heap.size, 2, none⟩ = some (.slice a0 len0 cap0) ∧ x8.cell? ⟨w.heap.size + 1, 0, none⟩ = some (.int .i64 r1) ∧ x8.cell? ⟨w.heap.size + 1, 1, none⟩ = some (.int .i64 c1) ∧ x8.cell? ⟨w.heap.size + 1, 2, none⟩ = some (.slice a1 len1 cap1)) := ⟨M8.1.c0, M8.1.c1, M8.1.c2, M8.2.1.c0, M8.2.1.c1, M8.2.1.c2⟩
            refine hK.out _ _ HD8.out (fun _ => ?_)
            clear hK K
            try simp only [List.getElem_toArray, List.getElem_cons_succ, List.getElem_cons_zero, Act.put]
            refine wpAnyH_done (by kernel_rfl) ?_ _
            refine park_last rfl (fun K hK => ?_)
            refine step_store_var rfl _ _ rfl x3.heap.size _ _ _ (.int .i64 r1) (.int .i64 c1) (.slice sb len1 db) rfl rfl M8.2.2 rfl rfl rfl ?_
            intro x9 HV9 HG9
            refine hK.out _ _ ?_
            clear hK K
            try simp only [List.getElem_toArray, List.getElem_cons_succ, List.getElem_cons_zero, Act.put]
            go_wp2_with fail
            go_meet
            case rel => exact ⟨_, _, sa, sb, da, db, rfl, rfl, PR.out.fin HV8.out HG8.out HV9.out HG9.out⟩
        · go_simp
          obtain ⟨x3, hw⟩ : ∃ x, Hid (x = x2.alloc (.cells #[.int .i64 0, .int .i64 0, .slice none 0 0] 24)) := ⟨_, rfl⟩
          rw [← hw.out]
          have hb : Below x2.heap.size x2 x3 := by rw [hw.out]; exact alloc_low _ _
          have hz_3 : x2.heap.size < x3.heap.size := by rw [hw.out]; simp
          have HL_3 : Hid (Below w.heap.size w x3) := two_below HL_2.out hb
          have HA_3 : Hid (Vr x3 w.heap.size (.int .i64 r0) (.int .i64 c0) (.slice a0 len0 cap0)) := HA_2.out.later hb
          have HB_3 : Hid (Vr x3 (w.heap.size + 1) (.int .i64 r1) (.int .i64 c1) (.slice a1 len1 cap1)) := HB_2.out.later hb
          have HP_3 : Hid (Vr x3 x0.heap.size (.int .i64 0) (.int .i64 0) (.slice none 0 0)) := HP_2.out.later hb
          have HMa_3 : Hid (Mt x3 sa len0 da F0) := HMa_2.out.later hb
          have HQ_3 : Hid (Vr x3 x2.heap.size (.int .i64 0) (.int .i64 0) (.slice none 0 0)) := by show Vr _ _ _ _ _; rw [hw.out]; exact Vr.new _ _ _ _
          have HD_3 : Hid (x3.cell? ⟨w.heap.size, 0, none⟩ = some (.int .i64 r0) ∧ x3.cell? ⟨w.heap.size, 1, none⟩ = some (.int .i64 c0) ∧ x3.cell? ⟨w.heap.size, 2, none⟩ = some (.slice a0 len0 cap0) ∧ x3.cell? ⟨w.heap.size + 1, 0, none⟩ = some (.int .i64 r1) ∧ x3.cell? ⟨w.heap.size + 1, 1, none⟩ = some (.int .i64 c1) ∧ x3.cell? ⟨w.heap.size + 1, 2, none⟩ = some (.slice a1 len1 cap1)) := ⟨HA_3.out.c0, HA_3.out.c1, HA_3.out.c2, HB_3.out.c0, HB_3.out.c1, HB_3.out.c2⟩
          clear hw hb HA_2 HB_2 HP_2 HMa_2
          refine hK.out _ _ HD_3.out (fun _ => ?_)
          clear hK K
          try simp only [List.getElem_toArray, List.getElem_cons_succ, List.getElem_cons_zero, Act.put, List.setIfInBounds_toArray, List.set_cons_zero, List.set_cons_succ]
          refine wpAnyH_ready (rs := [3]) (by kernel_rfl) (by simp) ?_
          refine AllReadyH.cons rfl (fun K hK => ?_) AllReadyH.nil
          · go_simp
            refine (HCb.out x3 HL_3.out).mono ?_
            rintro e x4 ⟨sb, db, rfl, hs, hi, hb⟩
            have hz_4 : x3.heap.size ≤ x4.heap.size := hb.size
            have JB : Hid (Iv x3.heap.size x4.heap.size sb) := hi
            have HL_4 : Hid (Below w.heap.size w x4) := two_below HL_3.out hb
            have HA_4 : Hid (Vr x4 w.heap.size (.int .i64 r0) (.int .i64 c0) (.slice a0 len0 cap0)) := HA_3.out.later hb
            have HB_4 : Hid (Vr x4 (w.heap.size + 1) (.int .i64 r1) (.int .i64 c1) (.slice a1 len1 cap1)) := HB_3.out.later hb
            have HP_4 : Hid (Vr x4 x0.heap.size (.int .i64 0) (.int .i64 0) (.slice none 0 0)) := HP_3.out.later hb
            have HMa_4 : Hid (Mt x4 sa len0 da F0) := HMa_3.out.later hb
            have HQ_4 : Hid (Vr x4 x2.heap.size (.int .i64 0) (.int .i64 0) (.slice none 0 0)) := HQ_3.out.later hb
            have HMb_4 : Hid (Mt x4 sb len1 db F1) := hs
            have HD_4 : Hid (x4.cell? ⟨w.heap.size, 0, none⟩ = some (.int .i64 r0) ∧ x4.cell? ⟨w.heap.size, 1, none⟩ = some (.int .i64 c0) ∧ x4.cell? ⟨w.heap.size, 2, none⟩ = some (.slice a0 len0 cap0) ∧ x4.cell? ⟨w.heap.size + 1, 0, none⟩ = some (.int .i64 r1) ∧ x4.cell? ⟨w.heap.size + 1, 1, none⟩ = some (.int .i64 c1) ∧ x4.cell? ⟨w.heap.size + 1, 2, none⟩ = some (.slice a1 len1 cap1)) := ⟨HA_4.out.c0, HA_4.out.c1, HA_4.out.c2, HB_4.out.c0, HB_4.out.c1, HB_4.out.c2⟩
            clear hs hi hb HA_3 HB_3 HP_3 HMa_3 HQ_3
            refine hK.out _ _ HD_4.out (fun _ => ?_)
            clear hK K
            try simp only [List.getElem_toArray, List.getElem_cons_succ, List.getElem_cons_zero, Act.put, List.setIfInBounds_toArray, List.set_cons_zero, List.set_cons_succ]
            have PR : Hid (Pre w x4 x0.heap.size x2.heap.size r0 c0 r1 c1 a0 a1 sa sb len0 cap0 len1 cap1 da db F0 F1) := ⟨HA_4.out, HB_4.out, HP_4.out, HQ_4.out, HMa_4.out, HMb_4.out, HL_4.out, by omega, by omega, by omega, iv_off JA.out (by omega), iv_off JB.out (by omega), iv_off JA.out (by omega), iv_off JB.out (by omega)⟩
            clear HA_4 HB_4 HP_4 HMa_4 HQ_4 HMb_4
            refine wpAnyH_ready (rs := [6]) (by kernel_rfl) (by simp) ?_
            refine AllReadyH.cons rfl (fun K hK => ?_) AllReadyH.nil
            refine step_store_var rfl _ _ rfl x0.heap.size _ _ _ (.int .i64 r0) (.int .i64 c0) (.slice sa len0 da) rfl rfl PR.out.vc rfl rfl rfl ?_
            intro x8 HV8 HG8
            have M8 := PR.out.mid HG8.out
            have HD8 : Hid (x8.cell? ⟨w.heap.size, 0, none⟩ = some (.int .i64 r0) ∧ x8.cell? ⟨w.heap.size, 1, none⟩ = some (.int .i64 c0) ∧ x8.cell? ⟨w.heap.size, 2, none⟩ = some (.slice a0 len0 cap0) ∧ x8.cell? ⟨w.heap.size + 1, 0, none⟩ = some (.int .i64 r1) ∧ x8.cell? ⟨w.heap.size + 1, 1, none⟩ = some (.int .i64 c1) ∧ x8.cell? ⟨w.heap.size + 1, 2, none⟩ = some (.slice a1 len1 cap1)) := ⟨M8.1.c0, M8.1.c1, M8.1.c2, M8.2.1.c0, M8.2.1.c1, M8.2.1.c2⟩
            refine hK.out _ _ HD8.out (fun _ => ?_)
            clear hK K
            try simp only [List.getElem_toArray, List.getElem_cons_succ, List.getElem_cons_zero, Act.put]
            refine wpAnyH_done (by kernel_rfl) ?_ _
            refine park_last rfl (fun K hK => ?_)
            refine step_store_var rfl _ _ rfl x2.heap.size _ _ _ (.int .i64 r1) (.int .i64 c1) (.slice sb len1 db) rfl rfl M8.2.2 rfl rfl rfl ?_
            intro x9 HV9 HG9
            refine hK.out _ _ ?_
            clear hK K
            try simp only [List.getElem_toArray, List.getElem_cons_succ, List.getElem_cons_zero, Act.put]
            go_wp2_with fail
            go_meet
            case rel => exact ⟨_, _, sa, sb, da, db, rfl, rfl, PR.out.fin HV8.out HG8.out HV9.out HG9.out⟩
      · go_simp
        obtain ⟨x2, hw⟩ : ∃ x, Hid (x = x1.alloc (.cells #[.int .i64 0, .int .i64 0, .slice none 0 0] 24)) := ⟨_, rfl⟩
        rw [← hw.out]
        have hb : Below x1.heap.size x1 x2 := by rw [hw.out]; exact alloc_low _ _
        have hz_2 : x1.heap.size < x2.heap.size := by rw [hw.out]; simp
        have HL_2 : Hid (Below w.heap.size w x2) := two_below HL_1.out hb
        have HA_2 : Hid (Vr x2 w.heap.size (.int .i64 r0) (.int .i64 c0) (.slice a0 len0 cap0)) := HA_1.out.later hb
        have HB_2 : Hid (Vr x2 (w.heap.size + 1) (.int .i64 r1) (.int .i64 c1) (.slice a1 len1 cap1)) := HB_1.out.later hb
        have HP_2 : Hid (Vr x2 x0.heap.size (.int .i64 0) (.int .i64 0) (.slice none 0 0)) := HP_1.out.later hb
        have HQ_2 : Hid (Vr x2 x1.heap.size (.int .i64 0) (.int .i64 0) (.slice none 0 0)) := by show Vr _ _ _ _ _; rw [hw.out]; exact Vr.new _ _ _ _
        have HD_2 : Hid (x2.cell? ⟨w.heap.size, 0, none⟩ = some (.int .i64 r0) ∧ x2.cell? ⟨w.heap.size, 1, none⟩ = some (.int .i64 c0) ∧ x2.cell? ⟨w.heap.size, 2, none⟩ = some (.slice a0 len0 cap0) ∧ x2.cell? ⟨w.heap.size + 1, 0, none⟩ = some (.int .i64 r1) ∧ x2.cell? ⟨w.heap.size + 1, 1, none⟩ = some (.int .i64 c1) ∧ x2.cell? ⟨w.heap.size + 1, 2, none⟩ = some (.slice a1 len1 cap1)) := ⟨HA_2.out.c0, HA_2.out.c1, HA_2.out.c2, HB_2.out.c0, HB_2.out.c1, HB_2.out.c2⟩
        clear hw hb HA_1 HB_1 HP_1
        refine hK.out _ _ HD_2.out (fun _ => ?_)
        clear hK K
        try simp only [List.getElem_toArray, List.getElem_cons_succ, List.getElem_cons_zero, Act.put, List.setIfInBounds_toArray, List.set_cons_zero, List.set_cons_succ]
        refine wpAnyH_ready (rs := [1]) (by kernel_rfl) (by simp) ?_
        refine AllReadyH.cons rfl (fun K hK => ?_) AllReadyH.nil
        · go_simp
          refine (HCa.out x2 HL_2.out).mono ?_
          rintro e x3 ⟨sa, da, rfl, hs, hi, hb⟩
          have hz_3 : x2.heap.size ≤ x3.heap.size := hb.size
          have JA : Hid (Iv x2.heap.size x3.heap.size sa) := hi
          have HL_3 : Hid (Below w.heap.size w x3) := two_below HL_2.out hb
          have HA_3 : Hid (Vr x3 w.heap.size (.int .i64 r0) (.int .i64 c0) (.slice a0 len0 cap0)) := HA_2.out.later hb
          have HB_3 : Hid (Vr x3 (w.heap.size + 1) (.int .i64 r1) (.int .i64 c1) (.slice a1 len1 cap1)) := HB_2.out.later hb
          have HP_3 : Hid (Vr x3 x0.heap.size (.int .i64 0) (.int .i64 0) (.slice none 0 0)) := HP_2.out.later hb
          have HQ_3 : Hid (Vr x3 x1.heap.size (.int .i64 0) (.int .i64 0) (.slice none 0 0)) := HQ_2.out.later hb
          have HMa_3 : Hid (Mt x3 sa len0 da F0) := hs
          have HD_3 : Hid (x3.cell? ⟨w.heap.size, 0, none⟩ = some (.int .i64 r0) ∧ x3.cell? ⟨w.heap.size, 1, none⟩ = some (.int .i64 c0) ∧ x3.cell? ⟨w.heap.size, 2, none⟩ = some (.slice a0 len0 cap0) ∧ x3.cell? ⟨w.heap.size + 1, 0, none⟩ = some (.int .i64 r1) ∧ x3.cell? ⟨w.heap.size + 1, 1, none⟩ = some (.int .i64 c1) ∧ x3.cell? ⟨w.heap.size + 1, 2, none⟩ = some (.slice a1 len1 cap1)) := ⟨HA_3.out.c0, HA_3.out.c1, HA_3.out.c2, HB_3.out.c0, HB_3.out.c1, HB_3.out.c2⟩
          clear hs hi hb HA_2 HB_2 HP_2 HQ_2
          refine hK.out _ _ HD_3.out (fun _ => ?_)
          clear hK K
          try simp only [List.getElem_toArray, List.getElem_cons_succ, List.getElem_cons_zero, Act.put, List.setIfInBounds_toArray, List.set_cons_zero, List.set_cons_succ]
          refine wpAnyH_ready (rs := [3]) (by kernel_rfl) (by simp) ?_
          refine AllReadyH.cons rfl (fun K hK => ?_) AllReadyH.nil
          · go_simp
            refine (HCb.out x3 HL_3.out).mono ?_
            rintro e x4 ⟨sb, db, rfl, hs, hi, hb⟩
            have hz_4 : x3.heap.size ≤ x4.heap.size := hb.size
            have JB : Hid (Iv x3.heap.size x4.heap.size sb) := hi
            have HL_4 : Hid (Below w.heap.size w x4) := two_below HL_3.out hb
            have HA_4 : Hid (Vr x4 w.heap.size (.int .i64 r0) (.int .i64 c0) (.slice a0 len0 cap0)) := HA_3.out.later hb
            have HB_4 : Hid (Vr x4 (w.heap.size + 1) (.int .i64 r1) (.int .i64 c1) (.slice a1 len1 cap1)) := HB_3.out.later hb
            have HP_4 : Hid (Vr x4 x0.heap.size (.int .i64 0) (.int .i64 0) (.slice none 0 0)) := HP_3.out.later hb
            have HQ_4 : Hid (Vr x4 x1.heap.size (.int .i64 0) (.int .i64 0) (.slice none 0 0)) := HQ_3.out.later hb
            have HMa_4 : Hid (Mt x4 sa len0 da F0) := HMa_3.out.later hb
            have HMb_4 : Hid (Mt x4 sb len1 db F1) := hs
            have HD_4 : Hid (x4.cell? ⟨w.heap.size, 0, none⟩ = some (.int .i64 r0) ∧ x4.cell? ⟨w.heap.size, 1, none⟩ = some (.int .i64 c0) ∧ x4.cell? ⟨w.heap.size, 2, none⟩ = some (.slice a0 len0 cap0) ∧ x4.cell? ⟨w.heap.size + 1, 0, none⟩ = some (.int .i64 r1) ∧ x4.cell? ⟨w.heap.size + 1, 1, none⟩ = some (.int .i64 c1) ∧ x4.cell? ⟨w.heap.size + 1, 2, none⟩ = some (.slice a1 len1 cap1)) := ⟨HA_4.out.c0, HA_4.out.c1, HA_4.out.c2, HB_4.out.c0, HB_4.out.c1, HB_4.out.c2⟩
            clear hs hi hb HA_3 HB_3 HP_3 HQ_3 HMa_3
            refine hK.out _ _ HD_4.out (fun _ => ?_)
            clear hK K
            try simp only [List.getElem_toArray, List.getElem_cons_succ, List.getElem_cons_zero, Act.put, List.setIfInBounds_toArray, List.set_cons_zero, List.set_cons_succ]
            have PR : Hid (Pre w x4 x0.heap.size x1.heap.size r0 c0 r1 c1 a0 a1 sa sb len0 cap0 len1 cap1 da db F0 F1) := ⟨HA_4.out, HB_4.out, HP_4.out, HQ_4.out, HMa_4.out, HMb_4.out, HL_4.out, by omega, by omega, by omega, iv_off JA.out (by omega), iv_off JB.out (by omega), iv_off JA.out (by omega), iv_off JB.out (by omega)⟩
            clear HA_4 HB_4 HP_4 HQ_4 HMa_4 HMb_4
            refine wpAnyH_ready (rs := [6]) (by kernel_rfl) (by simp) ?_
            refine AllReadyH.cons rfl (fun K hK => ?_) AllReadyH.nil
            refine step_store_var rfl _ _ rfl x0.heap.size _ _ _ (.int .i64 r0) (.int .i64 c0) (.slice sa len0 da) rfl rfl PR.out.vc rfl rfl rfl ?_
            intro x8 HV8 HG8
            have M8 := PR.out.mid HG8.out
            have HD8 : Hid (x8.cell? ⟨w.heap.size, 0, none⟩ = some (.int .i64 r0) ∧ x8.cell? ⟨w.heap.size, 1, none⟩ = some (.int .i64 c0) ∧ x8.cell? ⟨w.heap.size, 2, none⟩ = some (.slice a0 len0 cap0) ∧ x8.cell? ⟨w.heap.size + 1, 0, none⟩ = some (.int .i64 r1) ∧ x8.cell? ⟨w.heap.size + 1, 1, none⟩ = some (.int .i64 c1) ∧ x8.cell? ⟨w.heap.size + 1, 2, none⟩ = some (.slice a1 len1 cap1)) := ⟨M8.1.c0, M8.1.c1, M8.1.c2, M8.2.1.c0, M8.2.1.c1, M8.2.1.c2⟩
            refine hK.out _ _ HD8.out (fun _ => ?_)
            clear hK K
            try simp only [List.getElem_toArray, List.getElem_cons_succ, List.getElem_cons_zero, Act.put]
            refine wpAnyH_done (by kernel_rfl) ?_ _
            refine park_last rfl (fun K hK => ?_)
            refine step_store_var rfl _ _ rfl x1.heap.size _ _ _ (.int .i64 r1) (.int .i64 c1) (.slice sb len1 db) rfl rfl M8.2.2 rfl rfl rfl ?_
            intro x9 HV9 HG9
            refine hK.out _ _ ?_
            clear hK K
            try simp only [List.getElem_toArray, List.getElem_cons_succ, List.getElem_cons_zero, Act.put]
            go_wp2_with fail
            go_meet
            case rel => exact ⟨_, _, sa, sb, da, db, rfl, rfl, PR.out.fin HV8.out HG8.out HV9.out HG9.out⟩
    · go_simp
      obtain ⟨x1, hw⟩ : ∃ x, Hid (x = x0.alloc (.cells #[.int .i64 0, .int .i64 0, .slice none 0 0] 24)) := ⟨_, rfl⟩
      rw [← hw.out]
      have hb : Below x0.heap.size x0 x1 := by rw [hw.out]; exact alloc_low _ _
      have hz_1 : x0.heap.size < x1.heap.size := by rw [hw.out]; simp
      have HL_1 : Hid (Below w.heap.size w x1) := two_below HL_0.out hb
      have HA_1 : Hid (Vr x1 w.heap.size (.int .i64 r0) (.int .i64 c0) (.slice a0 len0 cap0)) := HA_0.out.later hb
      have HB_1 : Hid (Vr x1 (w.heap.size + 1) (.int .i64 r1) (.int .i64 c1) (.slice a1 len1 cap1)) := HB_0.out.later hb
      have HQ_1 : Hid (Vr x1 x0.heap.size (.int .i64 0) (.int .i64 0) (.slice none 0 0)) := by show Vr _ _ _ _ _; rw [hw.out]; exact Vr.new _ _ _ _
      have HD_1 : Hid (x1.cell? ⟨w.heap.size, 0, none⟩ = some (.int .i64 r0) ∧ x1.cell? ⟨w.heap.size, 1, none⟩ = some (.int .i64 c0) ∧ x1.cell? ⟨w.heap.size, 2, none⟩ = some (.slice a0 len0 cap0) ∧ x1.cell? ⟨w.heap.size + 1, 0, none⟩ = some (.int .i64 r1) ∧ x1.cell? ⟨w.heap.size + 1, 1, none⟩ = some (.int .i64 c1) ∧ x1.cell? ⟨w.heap.size + 1, 2, none⟩ = some (.slice a1 len1 cap1)) := ⟨HA_1.out.c0, HA_1.out.c1, HA_1.out.c2, HB_1.out.c0, HB_1.out.c1, HB_1.out.c2⟩
      clear hw hb HA_0 HB_0
      refine hK.out _ _ HD_1.out (fun _ => ?_)
      clear hK K
      try simp only [List.getElem_toArray, List.getElem_cons_succ, List.getElem_cons_zero, Act.put, List.setIfInBounds_toArray, List.set_cons_zero, List.set_cons_succ]
      refine wpAnyH_ready (rs := [1, 4]) (by kernel_rfl) (by simp) ?_
      refine AllReadyH.cons rfl (fun K hK => ?_) (AllReadyH.cons rfl (fun K hK => ?_) AllReadyH.nil)
      · go_simp
        refine (HCa.out x1 HL_1.out).mono ?_
        rintro e x2 ⟨sa, da, rfl, hs, hi, hb⟩
        have hz_2 : x1.heap.size ≤ x2.heap.size := hb.size
        have JA : Hid (Iv x1.heap.size x2.heap.size sa) := hi
        have HL_2 : Hid (Below w.heap.size w x2) := two_below HL_1.out hb
        have HA_2 : Hid (Vr x2 w.heap.size (.int .i64 r0) (.int .i64 c0) (.slice a0 len0 cap0)) := HA_1.out.later hb
        have HB_2 : Hid (Vr x2 (w.heap.size + 1) (.int .i64 r1) (.int .i64 c1) (.slice a1 len1 cap1)) := HB_1.out.later hb
        have HQ_2 : Hid (Vr x2 x0.heap.size (.int .i64 0) (.int .i64 0) (.slice none 0 0)) := HQ_1.out.later hb
        have HMa_2 : Hid (Mt x2 sa len0 da F0) := hs
        have HD_2 : Hid (x2.cell? ⟨w.heap.size, 0, none⟩ = some (.int .i64 r0) ∧ x2.cell? ⟨w.heap.size, 1, none⟩ = some (.int .i64 c0) ∧ x2.cell? ⟨w.heap.size, 2, none⟩ = some (.slice a0 len0 cap0) ∧ x2.cell? ⟨w.heap.size + 1, 0, none⟩ = some (.int .i64 r1) ∧ x2.cell? ⟨w.heap.size + 1, 1, none⟩ = some (.int .i64 c1) ∧ x2.cell? ⟨w.heap.size + 1, 2, none⟩ = some (.slice a1 len1 cap1)) := ⟨HA_2.out.c0, HA_2.out.c1, HA_2.out.c2, HB_2.out.c0, HB_2.out.c1, HB_2.out.c2⟩
        clear hs hi hb HA_1 HB_1 HQ_1
        refine hK.out _ _ HD_2.out (fun _ => ?_)
        clear hK K
        try simp only [List.getElem_toArray, List.getElem_cons_succ, List.getElem_cons_zero, Act.put, List.setIfInBounds_toArray, List.set_cons_zero, List.set_cons_succ]
        refine wpAnyH_ready (rs := [3, 4]) (by kernel_rfl) (by simp) ?_
        refine AllReadyH.cons rfl (fun K hK => ?_) (AllReadyH.cons rfl (fun K hK => ?_) AllReadyH.nil)
        · go_simp
          refine (HCb.out x2 HL_2.out).mono ?_
          rintro e x3 ⟨sb, db, rfl, hs, hi, hb⟩
          have hz_3 : x2.heap.size ≤ x3.heap.size := hb.size
          have JB : Hid (Iv x2.heap.size x3.heap.size sb) := hi
          have HL_3 : Hid (Below w.heap.size w x3) := two_below HL_2.out hb
          have HA_3 : Hid (Vr x3 w.heap.size (.int .i64 r0) (.int .i64 c0) (.slice a0 len0 cap0)) := HA_2.out.later hb
          have HB_3 : Hid (Vr x3 (w.heap.size + 1) (.int .i64 r1) (.int .i64 c1) (.slice a1 len1 cap1)) := HB_2.out.later hb
          have HQ_3 : Hid (Vr x3 x0.heap.size (.int .i64 0) (.int .i64 0) (.slice none 0 0)) := HQ_2.out.later hb
          have HMa_3 : Hid (Mt x3 sa len0 da F0) := HMa_2.out.later hb
          have HMb_3 : Hid (Mt x3 sb len1 db F1) := hs
          have HD_3 : Hid (x3.cell? ⟨w.heap.size, 0, none⟩ = some (.int .i64 r0) ∧ x3.cell? ⟨w.heap.size, 1, none⟩ = some (.int .i64 c0) ∧ x3.cell? ⟨w.heap.size, 2, none⟩ = some (.slice a0 len0 cap0) ∧ x3.cell? ⟨w.heap.size + 1, 0, none⟩ = some (.int .i64 r1) ∧ x3.cell? ⟨w.heap.size + 1, 1, none⟩ = some (.int .i64 c1) ∧ x3.cell? ⟨w.heap.size + 1, 2, none⟩ = some (.slice a1 len1 cap1)) := ⟨HA_3.out.c0, HA_3.out.c1, HA_3.out.c2, HB_3.out.c0, HB_3.out.c1, HB_3.out.c2⟩
          clear hs hi hb HA_2 HB_2 HQ_2 HMa_2
          refine hK.out _ _ HD_3.out (fun _ => ?_)
          clear hK K
          try simp only [List.getElem_toArray, List.getElem_cons_succ, List.getElem_cons_zero, Act.put, List.setIfInBounds_toArray, List.set_cons_zero, List.set_cons_succ]
          refine wpAnyH_ready (rs := [4]) (by kernel_rfl) (by simp) ?_
          refine AllReadyH.cons rfl (fun K hK => ?_) AllReadyH.nil
          · go_simp
            obtain ⟨x4, hw⟩ : ∃ x, Hid (x = x3.alloc (.cells #[.int .i64 0, .int .i64 0, .slice none 0 0] 24)) := ⟨_, rfl⟩
            rw [← hw.out]
            have hb : Below x3.heap.size x3 x4 := by rw [hw.out]; exact alloc_low _ _
            have hz_4 : x3.heap.size < x4.heap.size := by rw [hw.out]; simp
            have HL_4 : Hid (Below w.heap.size w x4) := two_below HL_3.out hb
            have HA_4 : Hid (Vr x4 w.heap.size (.int .i64 r0) (.int .i64 c0) (.slice a0 len0 cap0)) := HA_3.out.later hb
            have HB_4 : Hid (Vr x4 (w.heap.size + 1) (.int .i64 r1) (.int .i64 c1) (.slice a1 len1 cap1)) := HB_3.out.later hb
            have HQ_4 : Hid (Vr x4 x0.heap.size (.int .i64 0) (.int .i64 0) (.slice none 0 0)) := HQ_3.out.later hb
            have HMa_4 : Hid (Mt x4 sa len0 da F0) := HMa_3.out.later hb
            have HMb_4 : Hid (Mt x4 sb len1 db F1) := HMb_3.out.later hb
            have HP_4 : Hid (Vr x4 x3.heap.size (.int .i64 0) (.int .i64 0) (.slice none 0 0)) := by show Vr _ _ _ _ _; rw [hw.out]; exact Vr.new _ _ _ _
            have HD_4 : Hid (x4.cell? ⟨w.heap.size, 0, none⟩ = some (.int .i64 r0) ∧ x4.cell? ⟨w.heap.size, 1, none⟩ = some (.int .i64 c0) ∧ x4.cell? ⟨w.heap.size, 2, none⟩ = some (.slice a0 len0 cap0) ∧ x4.cell? ⟨w.heap.size + 1, 0, none⟩ = some (.int .i64 r1) ∧ x4.cell? ⟨w.heap.size + 1, 1, none⟩ = some (.int .i64 c1) ∧ x4.cell? ⟨w.heap.size + 1, 2, none⟩ = some (.slice a1 len1 cap1)) := ⟨HA_4.out.c0, HA_4.out.c1, HA_4.out.c2, HB_4.out.c0, HB_4.out.c1, HB_4.out.c2⟩
            clear hw hb HA_3 HB_3 HQ_3 HMa_3 HMb_3
            refine hK.out _ _ HD_4.out (fun _ => ?_)
            clear hK K
            try simp only [List.getElem_toArray, List.getElem_cons_succ, List.getElem_cons_zero, Act.put, List.setIfInBounds_toArray, List.set_cons_zero, List.set_cons_succ]
            have PR : Hid (Pre w x4 x3.heap.size x0.heap.size r0 c0 r1 c1 a0 a1 sa sb len0 cap0 len1 cap1 da db F0 F1) := ⟨HA_4.out, HB_4.out, HP_4.out, HQ_4.out, HMa_4.out, HMb_4.out, HL_4.out, by omega, by omega, by omega, iv_off JA.out (by omega), iv_off JB.out (by omega), iv_off JA.out (by omega), iv_off JB.out (by omega)⟩
            clear HA_4 HB_4 HQ_4 HMa_4 HMb_4 HP_4
            refine wpAnyH_ready (rs := [6]) (by kernel_rfl) (by simp) ?_
            refine AllReadyH.cons rfl (fun K hK => ?_) AllReadyH.nil
            refine step_store_var rfl _ _ rfl x3.heap.size _ _ _ (.int .i64 r0) (.int .i64 c0) (.slice sa len0 da) rfl rfl PR.out.vc rfl rfl rfl ?_
            intro x8 HV8 HG8
            have M8 := PR.out.mid HG8.out
            have HD8 : Hid (x8.cell? ⟨w.heap.size, 0, none⟩ = some (.int .i64 r0) ∧ x8.cell? ⟨w.heap.size, 1, none⟩ = some (.int .i64 c0) ∧ x8.cell? ⟨w.heap.size, 2, none⟩ = some (.slice a0 len0 cap0) ∧ x8.cell? ⟨w.heap.size + 1, 0, none⟩ = some (.int .i64 r1) ∧ x8.cell? ⟨w.heap.size + 1, 1, none⟩ = some (.int .i64 c1) ∧ x8.cell? ⟨w.heap.size + 1, 2, none⟩ = some (.slice a1 len1 cap1)) := ⟨M8.1.c0, M8.1.c1, M8.1.c2, M8.2.1.c0, M8.2.1.c1, M8.2.1.c2⟩
            refine hK.out _ _ HD8.out (fun _ => ?_)
            clear hK K
            try simp only [List.getElem_toArray, List.getElem_cons_succ, List.getElem_cons_zero, Act.put]
            refine wpAnyH_done (by kernel_rfl) ?_ _
            refine park_last rfl (fun K hK => ?_)
            refine step_store_var rfl _ _ rfl x0.heap.size _ _ _ (.int .i64 r1) (.int .i64 c1) (.slice sb len1 db) rfl rfl M8.2.2 rfl rfl rfl ?_
            intro x9 HV9 HG9
            refine hK.out _ _ ?_
            clear hK K
            try simp only [List.getElem_toArray, List.getElem_cons_succ, List.getElem_cons_zero, Act.put]
            go_wp2_with fail
            go_meet
            case rel => exact ⟨_, _, sa, sb, da, db, rfl, rfl, PR.out.fin HV8.out HG8.out HV9.out HG9.out⟩
        · go_simp
          obtain ⟨x3, hw⟩ : ∃ x, Hid (x = x2.alloc (.cells #[.int .i64 0, .int .i64 0, .slice none 0 0] 24)) := ⟨_, rfl⟩
          rw [← hw.out]
          have hb : Below x2.heap.size x2 x3 := by rw [hw.out]; exact alloc_low _ _
          have hz_3 : x2.heap.size < x3.heap.size := by rw [hw.out]; simp
          have HL_3 : Hid (Below w.heap.size w x3) := two_below HL_2.out hb
          have HA_3 : Hid (Vr x3 w.heap.size (.int .i64 r0) (.int .i64 c0) (.slice a0 len0 cap0)) := HA_2.out.later hb
          have HB_3 : Hid (Vr x3 (w.heap.size + 1) (.int .i64 r1) (.int .i64 c1) (.slice a1 len1 cap1)) := HB_2.out.later hb
          have HQ_3 : Hid (Vr x3 x0.heap.size (.int .i64 0) (.int .i64 0) (.slice none 0 0)) := HQ_2.out.later hb
          have HMa_3 : Hid (Mt x3 sa len0 da F0) := HMa_2.out.later hb
          have HP_3 : Hid (Vr x3 x2.heap.size (.int .i64 0) (.int .i64 0) (.slice none 0 0)) := by show Vr _ _ _ _ _; rw [hw.out]; exact Vr.new _ _ _ _
          have HD_3 : Hid (x3.cell? ⟨w.heap.size, 0, none⟩ = some (.int .i64 r0) ∧ x3.cell? ⟨w.heap.size, 1, none⟩ = some (.int .i64 c0) ∧ x3.cell? ⟨w.heap.size, 2, none⟩ = some (.slice a0 len0 cap0) ∧ x3.cell? ⟨w.heap.size + 1, 0, none⟩ = some (.int .i64 r1) ∧ x3.cell? ⟨w.heap.size + 1, 1, none⟩ = some (.int .i64 c1) ∧ x3.cell? ⟨w.heap.size + 1, 2, none⟩ = some (.slice a1 len1 cap1)) := ⟨HA_3.out.c0, HA_3.out.c1, HA_3.out.c2, HB_3.out.c0, HB_3.out.c1, HB_3.out.c2⟩
          clear hw hb HA_2 HB_2 HQ_2 HMa_2
          refine hK.out _ _ HD_3.out (fun _ => ?_)
          clear hK K
          try simp only [List.getElem_toArray, List.getElem_cons_succ, List.getElem_cons_zero, Act.put, List.setIfInBounds_toArray, List.set_cons_zero, List.set_cons_succ]
          refine wpAnyH_ready (rs := [3]) (by kernel_rfl) (by simp) ?_
          refine AllReadyH.cons rfl (fun K hK => ?_) AllReadyH.nil
          · go_simp
            refine (HCb.out x3 HL_3.out).mono ?_
            rintro e x4 ⟨sb, db, rfl, hs, hi, hb⟩
            have hz_4 : x3.heap.size ≤ x4.heap.size := hb.size
            have JB : Hid (Iv x3.heap.size x4.heap.size sb) := hi
            have HL_4 : Hid (Below w.heap.size w x4) := two_below HL_3.out hb
            have HA_4 : Hid (Vr x4 w.heap.size (.int .i64 r0) (.int .i64 c0) (.slice a0 len0 cap0)) := HA_3.out.later hb
            have HB_4 : Hid (Vr x4 (w.heap.size + 1) (.int .i64 r1) (.int .i64 c1) (.slice a1 len1 cap1)) := HB_3.out.later hb
            have HQ_4 : Hid (Vr x4 x0.heap.size (.int .i64 0) (.int .i64 0) (.slice none 0 0)) := HQ_3.out.later hb
            have HMa_4 : Hid (Mt x4 sa len0 da F0) := HMa_3.out.later hb
            have HP_4 : Hid (Vr x4 x2.heap.size (.int .i64 0) (.int .i64 0) (.slice none 0 0)) := HP_3.out.later hb
            have HMb_4 : Hid (Mt x4 sb len1 db F1) := hs
            have HD_4 : Hid (x4.cell? ⟨w.heap.size, 0, none⟩ = some (.int .i64 r0) ∧ x4.cell? ⟨w.heap.size, 1, none⟩ = some (.int .i64 c0) ∧ x4.cell? ⟨w.heap.size, 2, none⟩ = some (.slice a0 len0 cap0) ∧ x4.cell? ⟨w.heap.size + 1, 0, none⟩ = some (.int .i64 r1) ∧ x4.cell? ⟨w.heap.size + 1, 1, none⟩ = some (.int .i64 c1) ∧ x4.cell? ⟨w.heap.size + 1, 2, none⟩ = some (.slice a1 len1 cap1)) := ⟨HA_4.out.c0, HA_4.out.c1, HA_4.out.c2, HB_4.out.c0, HB_4.out.c1, HB_4.out.c2⟩
            clear hs hi hb HA_3 HB_3 HQ_3 HMa_3 HP_3
            refine hK.out _ _ HD_4.out (fun _ => ?_)
            clear hK K
            try simp only [List.getElem_toArray, List.getElem_cons_succ, List.getElem_cons_zero, Act.put, List.setIfInBounds_toArray, List.set_cons_zero, List.set_cons_succ]
            have PR : Hid (Pre w x4 x2.heap.size x0.heap.size r0 c0 r1 c1 a0 a1 sa sb len0 cap0 len1 cap1 da db F0 F1) := ⟨HA_4.out, HB_4.out, HP_4.out, HQ_4.out, HMa_4.out, HMb_4.out, HL_4.out, by omega, by omega, by omega, iv_off JA.out (by omega), iv_off JB.out (by omega), iv_off JA.out (by omega), iv_off JB.out (by omega)⟩
            clear HA_4 HB_4 HQ_4 HMa_4 HP_4 HMb_4
            refine wpAnyH_ready (rs := [6]) (by kernel_rfl) (by simp) ?_
            refine AllReadyH.cons rfl (fun K hK => ?_) AllReadyH.nil
            refine step_store_var rfl _ _ rfl x2.heap.size _ _ _ (.int .i64 r0) (.int .i64 c0) (.slice sa len0 da) rfl rfl PR.out.vc rfl rfl rfl ?_
            intro x8 HV8 HG8
            have M8 := PR.out.mid HG8.out
            have HD8 : Hid (x8.cell? ⟨w.heap.size, 0, none⟩ = some (.int .i64 r0) ∧ x8.cell? ⟨w.heap.size, 1, none⟩ = some (.int .i64 c0) ∧ x8.cell? ⟨w.heap.size, 2, none⟩ = some (.slice a0 len0 cap0) ∧ x8.cell? ⟨w.heap.size + 1, 0, none⟩ = some (.int .i64 r1) ∧ x8.cell? ⟨w.heap.size + 1, 1, none⟩ = some (.int .i64 c1) ∧ x8.cell? ⟨w.heap.size + 1, 2, none⟩ = some (.slice a1 len1 cap1)) := ⟨M8.1.c0, M8.1.c1, M8.1.c2, M8.2.1.c0, M8.2.1.c1, M8.2.1.c2⟩
            refine hK.out _ _ HD8.out (fun _ => ?_)
            clear hK K
            try simp only [List.getElem_toArray, List.getElem_cons_succ, List.getElem_cons_zero, Act.put]
            refine wpAnyH_done (by kernel_rfl) ?_ _
            refine park_last rfl (fun K hK => ?_)
            refine step_store_var rfl _ _ rfl x0.heap.size _ _ _ (.int .i64 r1) (.int .i64 c1) (.slice sb len1 db) rfl rfl M8.2.2 rfl rfl rfl ?_
            intro x9 HV9 HG9
            refine hK.out _ _ ?_
            clear hK K
            try simp only [List.getElem_toArray, List.getElem_cons_succ, List.getElem_cons_zero, Act.put]
            go_wp2_with fail
            go_meet
            case rel => exact ⟨_, _, sa, sb, da, db, rfl, rfl, PR.out.fin HV8.out HG8.out HV9.out HG9.out⟩
      · go_simp
        obtain ⟨x2, hw⟩ : ∃ x, Hid (x = x1.alloc (.cells #[.int .i64 0, .int .i64 0, .slice none 0 0] 24)) := ⟨_, rfl⟩
        rw [← hw.out]
        have hb : Below x1.heap.size x1 x2 := by rw [hw.out]; exact alloc_low _ _
        have hz_2 : x1.heap.size < x2.heap.size := by rw [hw.out]; simp
        have HL_2 : Hid (Below w.heap.size w x2) := two_below HL_1.out hb
        have HA_2 : Hid (Vr x2 w.heap.size (.int .i64 r0) (.int .i64 c0) (.slice a0 len0 cap0)) := HA_1.out.later hb
        have HB_2 : Hid (Vr x2 (w.heap.size + 1) (.int .i64 r1) (.int .i64 c1) (.slice a1 len1 cap1)) := HB_1.out.later hb
        have HQ_2 : Hid (Vr x2 x0.heap.size (.int .i64 0) (.int .i64 0) (.slice none 0 0)) := HQ_1.out.later hb
        have HP_2 : Hid (Vr x2 x1.heap.size (.int .i64 0) (.int .i64 0) (.slice none 0 0)) := by show Vr _ _ _ _ _; rw [hw.out]; exact Vr.new _ _ _ _
        have HD_2 : Hid (x2.cell? ⟨w.heap.size, 0, none⟩ = some (.int .i64 r0) ∧ x2.cell? ⟨w.heap.size, 1, none⟩ = some (.int .i64 c0) ∧ x2.cell? ⟨w.heap.size, 2, none⟩ = some (.slice a0 len0 cap0) ∧ x2.cell? ⟨w.heap.size + 1, 0, none⟩ = some (.int .i64 r1) ∧ x2.cell? ⟨w.heap.size + 1, 1, none⟩ = some (.int .i64 c1) ∧ x2.cell? ⟨w.heap.size + 1, 2, none⟩ = some (.slice a1 len1 cap1)) := ⟨HA_2.out.c0, HA_2.out.c1, HA_2.out.c2, HB_2.out.c0, HB_2.out.c1, HB_2.out.c2⟩
        clear hw hb HA_1 HB_1 HQ_1
        refine hK.out _ _ HD_2.out (fun _ => ?_)
        clear hK K
        try simp only [List.getElem_toArray, List.getElem_cons_succ, List.getElem_cons_zero, Act.put, List.setIfInBounds_toArray, List.set_cons_zero, List.set_cons_succ]
        refine wpAnyH_ready (rs := [1]) (by kernel_rfl) (by simp) ?_
        refine AllReadyH.cons rfl (fun K hK => ?_) AllReadyH.nil
        · go_simp
          refine (HCa.out x2 HL_2.out).mono ?_
          rintro e x3 ⟨sa, da, rfl, hs, hi, hb⟩
          have hz_3 : x2.heap.size ≤ x3.heap.size := hb.size
          have JA : Hid (Iv x2.heap.size x3.heap.size sa) := hi
          have HL_3 : Hid (Below w.heap.size w x3) := two_below HL_2.out hb
          have HA_3 : Hid (Vr x3 w.heap.size (.int .i64 r0) (.int .i64 c0) (.slice a0 len0 cap0)) := HA_2.out.later hb
          have HB_3 : Hid (Vr x3 (w.heap.size + 1) (.int .i64 r1) (.int .i64 c1) (.slice a1 len1 cap1)) := HB_2.out.later hb
          have HQ_3 : Hid (Vr x3 x0.heap.size (.int .i64 0) (.int .i64 0) (.slice none 0 0)) := HQ_2.out.later hb
          have HP_3 : Hid (Vr x3 x1.heap.size (.int .i64 0) (.int .i64 0) (.slice none 0 0)) := HP_2.out.later hb
          have HMa_3 : Hid (Mt x3 sa len0 da F0) := hs
          have HD_3 : Hid (x3.cell? ⟨w.heap.size, 0, none⟩ = some (.int .i64 r0) ∧ x3.cell? ⟨w.heap.size, 1, none⟩ = some (.int .i64 c0) ∧ x3.cell? ⟨w.heap.size, 2, none⟩ = some (.slice a0 len0 cap0) ∧ x3.cell? ⟨w.heap.size + 1, 0, none⟩ = some (.int .i64 r1) ∧ x3.cell? ⟨w.heap.size + 1, 1, none⟩ = some (.int .i64 c1) ∧ x3.cell? ⟨w.heap.size + 1, 2, none⟩ = some (.slice a1 len1 cap1)) := ⟨HA_3.out.c0, HA_3.out.c1, HA_3.out.c2, HB_3.out.c0, HB_3.out.c1, HB_3.out.c2⟩
          clear hs hi hb HA_2 HB_2 HQ_2 HP_2
          refine hK.out _ _ HD_3.out (fun _ => ?_)
          clear hK K
          try simp only [List.getElem_toArray, List.getElem_cons_succ, List.getElem_cons_zero, Act.put, List.setIfInBounds_toArray, List.set_cons_zero, List.set_cons_succ]
          refine wpAnyH_ready (rs := [3]) (by kernel_rfl) (by simp) ?_
          refine AllReadyH.cons rfl (fun K hK => ?_) AllReadyH.nil
          · go_simp
            refine (HCb.out x3 HL_3.out).mono ?_
            rintro e x4 ⟨sb, db, rfl, hs, hi, hb⟩
            have hz_4 : x3.heap.size ≤ x4.heap.size := hb.size
            have JB : Hid (Iv x3.heap.size x4.heap.size sb) := hi
            have HL_4 : Hid (Below w.heap.size w x4) := two_below HL_3.out hb
            have HA_4 : Hid (Vr x4 w.heap.size (.int .i64 r0) (.int .i64 c0) (.slice a0 len0 cap0)) := HA_3.out.later hb
            have HB_4 : Hid (Vr x4 (w.heap.size + 1) (.int .i64 r1) (.int .i64 c1) (.slice a1 len1 cap1)) := HB_3.out.later hb
            have HQ_4 : Hid (Vr x4 x0.heap.size (.int .i64 0) (.int .i64 0) (.slice none 0 0)) := HQ_3.out.later hb
            have HP_4 : Hid (Vr x4 x1.heap.size (.int .i64 0) (.int .i64 0) (.slice none 0 0)) := HP_3.out.later hb
            have HMa_4 : Hid (Mt x4 sa len0 da F0) := HMa_3.out.later hb
            have HMb_4 : Hid (Mt x4 sb len1 db F1) := hs
            have HD_4 : Hid (x4.cell? ⟨w.heap.size, 0, none⟩ = some (.int .i64 r0) ∧ x4.cell? ⟨w.heap.size, 1, none⟩ = some (.int .i64 c0) ∧ x4.cell? ⟨w.heap.size, 2, none⟩ = some (.slice a0 len0 cap0) ∧ x4.cell? ⟨w.heap.size + 1, 0, none⟩ = some (.int .i64 r1) ∧ x4.cell? ⟨w.heap.size + 1, 1, none⟩ = some (.int .i64 c1) ∧ x4.cell? ⟨w.heap.size + 1, 2, none⟩ = some (.slice a1 len1 cap1)) := ⟨HA_4.out.c0, HA_4.out.c1, HA_4.out.c2, HB_4.out.c0, HB_4.out.c1, HB_4.out.c2⟩
            clear hs hi hb HA_3 HB_3 HQ_3 HP_3 HMa_3
            refine hK.out _ _ HD_4.out (fun _ => ?_)
            clear hK K
            try simp only [List.getElem_toArray, List.getElem_cons_succ, List.getElem_cons_zero, Act.put, List.setIfInBounds_toArray, List.set_cons_zero, List.set_cons_succ]
            have PR : Hid (Pre w x4 x1.heap.size x0.heap.size r0 c0 r1 c1 a0 a1 sa sb len0 cap0 len1 cap1 da db F0 F1) := ⟨HA_4.out, HB_4.out, HP_4.out, HQ_4.out, HMa_4.out, HMb_4.out, HL_4.out, by omega, by omega, by omega, iv_off JA.out (by omega), iv_off JB.out (by omega), iv_off JA.out (by omega), iv_off JB.out (by omega)⟩
            clear HA_4 HB_4 HQ_4 HP_4 HMa_4 HMb_4
            refine wpAnyH_ready (rs := [6]) (by kernel_rfl) (by simp) ?_
            refine AllReadyH.cons rfl (fun K hK => ?_) AllReadyH.nil
            refine step_store_var rfl _ _ rfl x1.heap.size _ _ _ (.int .i64 r0) (.int .i64 c0) (.slice sa len0 da) rfl rfl PR.out.vc rfl rfl rfl ?_
            intro x8 HV8 HG8
            have M8 := PR.out.mid HG8.out
            have HD8 : Hid (x8.cell? ⟨w.heap.size, 0, none⟩ = some (.int .i64 r0) ∧ x8.cell? ⟨w.heap.size, 1, none⟩ = some (.int .i64 c0) ∧ x8.cell? ⟨w.heap.size, 2, none⟩ = some (.slice a0 len0 cap0) ∧ x8.cell? ⟨w.heap.size + 1, 0, none⟩ = some (.int .i64 r1) ∧ x8.cell? ⟨w.heap.size + 1, 1, none⟩ = some (.int .i64 c1) ∧ x8.cell? ⟨w.heap.size + 1, 2, none⟩ = some (.slice a1 len1 cap1)) := ⟨M8.1.c0, M8.1.c1, M8.1.c2, M8.2.1.c0, M8.2.1.c1, M8.2.1.c2⟩
            refine hK.out _ _ HD8.out (fun _ => ?_)
            clear hK K
            try simp only [List.getElem_toArray, List.getElem_cons_succ, List.getElem_cons_zero, Act.put]
            refine wpAnyH_done (by kernel_rfl) ?_ _
            refine park_last rfl (fun K hK => ?_)
            refine step_store_var rfl _ _ rfl x0.heap.size _ _ _ (.int .i64 r1) (.int .i64 c1) (.slice sb len1 db) rfl rfl M8.2.2 rfl rfl rfl ?_
            intro x9 HV9 HG9
            refine hK.out _ _ ?_
            clear hK K
            try simp only [List.getElem_toArray, List.getElem_cons_succ, List.getElem_cons_zero, Act.put]
            go_wp2_with fail
            go_meet
            case rel => exact ⟨_, _, sa, sb, da, db, rfl, rfl, PR.out.fin HV8.out HG8.out HV9.out HG9.out⟩
  case rest =>
    obtain ⟨p, q, sa, sb, da, db, rfl, rfl, hS⟩ := hcut
    have HS : Hid (Cps w wc p q r0 c0 r1 c1 a0 a1 sa sb len0 cap0 len1 cap1 da db F0 F1) := hS
    clear hS
    have HB_0 : Hid (Below wc.heap.size wc wc) := Below.refl _ _
    have HV_c_0 : Hid (Vr wc p (.int .i64 r0) (.int .i64 c0) (.slice sa len0 da)) := HS.out.vc
    have HV_d_0 : Hid (Vr wc q (.int .i64 r1) (.int .i64 c1) (.slice sb len1 db)) := HS.out.vd
    have HM_c_0 : Hid (Mt wc sa len0 da F0) := HS.out.mc
    have HM_d_0 : Hid (Mt wc sb len1 db F1) := HS.out.md
    have l_c_0_0 := HV_c_0.out.c0
    have l_c_1_0 := HV_c_0.out.c1
    have l_c_2_0 := HV_c_0.out.c2
    have l_d_0_0 := HV_d_0.out.c0
    have l_d_1_0 := HV_d_0.out.c1
    have l_d_2_0 := HV_d_0.out.c2
    go_wp2_with (first
      | (go_at_call 18; refine (row_rs _ _ _ _ _ _ _ F0 HM_c_4.out).mono ?_; rintro e x5 ⟨s5, N5, d5, E5, rfl, hr, hb⟩; have HB_5 : Hid (Below wc.heap.size wc x5) := two_below HB_4.out hb; have hy_5 : (x4.alloc (.cells #[.int .i64 R4, .int .i64 C4, .slice s4 N4 d4] 24)).heap.size ≤ x5.heap.size := hb.size; have HI_5 : Hid (Ib (x4.alloc (.cells #[.int .i64 R4, .int .i64 C4, .slice s4 N4 d4] 24)).heap.size x5.heap.size (.slice s5 N5 d5)) := hr.ib; have HV_c_5 : Hid (Vr x5 p (.int .i64 r0) (.int .i64 c0) (.slice sa len0 da)) := HV_c_4.out.later hb; have HV_d_5 : Hid (Vr x5 q (.int .i64 r1) (.int .i64 c1) (.slice sb len1 db)) := HV_d_4.out.later hb; have HV_1_5 : Hid (Vr x5 x1.heap.size (.int .i64 R1) (.int .i64 C1) (.slice s1 N1 d1)) := HV_1_4.out.later hb; have HV_2_5 : Hid (Vr x5 x2.heap.size (.int .i64 R2) (.int .i64 C2) (.slice s2 N2 d2)) := HV_2_4.out.later hb; have HV_3_5 : Hid (Vr x5 x3.heap.size (.int .i64 R3) (.int .i64 C3) (.slice s3 N3 d3)) := HV_3_4.out.later hb; have HV_4_5 : Hid (Vr x5 x4.heap.size (.int .i64 R4) (.int .i64 C4) (.slice s4 N4 d4)) := HV_4_4.out.later hb; have HM_c_5 : Hid (Mt x5 sa len0 da F0) := HM_c_4.out.later hb; have HM_d_5 : Hid (Mt x5 sb len1 db F1) := HM_d_4.out.later hb; have HR_1_5 : Hid (Rs x5 wc.heap.size (.slice s1 N1 d1)) := HR_1_4.out.later hb; have HR_2_5 : Hid (Rs x5 wc.heap.size (.slice s2 N2 d2)) := HR_2_4.out.later hb; have HR_3_5 : Hid (Rs x5 wc.heap.size (.slice s3 N3 d3)) := HR_3_4.out.later hb; have HR_4_5 : Hid (Rs x5 wc.heap.size (.slice s4 N4 d4)) := HR_4_4.out.later hb; have HR_5_5 : Hid (Rs x5 wc.heap.size (.slice s5 N5 d5)) := hr.mono HB_4.out.size; have l_1_2_5 := HV_1_5.out.c2; have l_2_2_5 := HV_2_5.out.c2; have l_3_2_5 := HV_3_5.out.c2; have l_4_2_5 := HV_4_5.out.c2; clear hr hb HV_c_4 HV_d_4 HV_1_4 HV_2_4 HV_3_4 HV_4_4 HM_c_4 HM_d_4 HR_1_4 HR_2_4 HR_3_4 HR_4_4)
      | (go_at_call 12; refine (kron_rs _ _ _ _ _ _ _ _ _ _ _ F0 F1 HM_c_3.out HM_d_3.out).mono ?_; rintro e x4 ⟨R4, C4, s4, N4, d4, E4, rfl, hr, hb⟩; have HB_4 : Hid (Below wc.heap.size wc (x4.alloc (.cells #[.int .i64 R4, .int .i64 C4, .slice s4 N4 d4] 24))) := two_below (two_below HB_3.out hb) (alloc_low _ _); have hz_4 : x4.heap.size ≤ (x4.alloc (.cells #[.int .i64 R4, .int .i64 C4, .slice s4 N4 d4] 24)).heap.size := (alloc_low x4 _).size; have hy_4 : (x3.alloc (.cells #[.int .i64 R3, .int .i64 C3, .slice s3 N3 d3] 24)).heap.size ≤ x4.heap.size := hb.size; have HI_4 : Hid (Ib (x3.alloc (.cells #[.int .i64 R3, .int .i64 C3, .slice s3 N3 d3] 24)).heap.size x4.heap.size (.slice s4 N4 d4)) := hr.ib; have HV_c_4 : Hid (Vr (x4.alloc (.cells #[.int .i64 R4, .int .i64 C4, .slice s4 N4 d4] 24)) p (.int .i64 r0) (.int .i64 c0) (.slice sa len0 da)) := (HV_c_3.out.later hb).later (alloc_low _ _); have HV_d_4 : Hid (Vr (x4.alloc (.cells #[.int .i64 R4, .int .i64 C4, .slice s4 N4 d4] 24)) q (.int .i64 r1) (.int .i64 c1) (.slice sb len1 db)) := (HV_d_3.out.later hb).later (alloc_low _ _); have HV_1_4 : Hid (Vr (x4.alloc (.cells #[.int .i64 R4, .int .i64 C4, .slice s4 N4 d4] 24)) x1.heap.size (.int .i64 R1) (.int .i64 C1) (.slice s1 N1 d1)) := (HV_1_3.out.later hb).later (alloc_low _ _); have HV_2_4 : Hid (Vr (x4.alloc (.cells #[.int .i64 R4, .int .i64 C4, .slice s4 N4 d4] 24)) x2.heap.size (.int .i64 R2) (.int .i64 C2) (.slice s2 N2 d2)) := (HV_2_3.out.later hb).later (alloc_low _ _); have HV_3_4 : Hid (Vr (x4.alloc (.cells #[.int .i64 R4, .int .i64 C4, .slice s4 N4 d4] 24)) x3.heap.size (.int .i64 R3) (.int .i64 C3) (.slice s3 N3 d3)) := (HV_3_3.out.later hb).later (alloc_low _ _); have HM_c_4 : Hid (Mt (x4.alloc (.cells #[.int .i64 R4, .int .i64 C4, .slice s4 N4 d4] 24)) sa len0 da F0) := (HM_c_3.out.later hb).later (alloc_low _ _); have HM_d_4 : Hid (Mt (x4.alloc (.cells #[.int .i64 R4, .int .i64 C4, .slice s4 N4 d4] 24)) sb len1 db F1) := (HM_d_3.out.later hb).later (alloc_low _ _); have HR_1_4 : Hid (Rs (x4.alloc (.cells #[.int .i64 R4, .int .i64 C4, .slice s4 N4 d4] 24)) wc.heap.size (.slice s1 N1 d1)) := (HR_1_3.out.later hb).later (alloc_low _ _); have HR_2_4 : Hid (Rs (x4.alloc (.cells #[.int .i64 R4, .int .i64 C4, .slice s4 N4 d4] 24)) wc.heap.size (.slice s2 N2 d2)) := (HR_2_3.out.later hb).later (alloc_low _ _); have HR_3_4 : Hid (Rs (x4.alloc (.cells #[.int .i64 R4, .int .i64 C4, .slice s4 N4 d4] 24)) wc.heap.size (.slice s3 N3 d3)) := (HR_3_3.out.later hb).later (alloc_low _ _); have HR_4_4 : Hid (Rs (x4.alloc (.cells #[.int .i64 R4, .int .i64 C4, .slice s4 N4 d4] 24)) wc.heap.size (.slice s4 N4 d4)) := (hr.mono HB_3.out.size).later (alloc_low _ _); have HV_4_4 : Hid (Vr (x4.alloc (.cells #[.int .i64 R4, .int .i64 C4, .slice s4 N4 d4] 24)) x4.heap.size (.int .i64 R4) (.int .i64 C4) (.slice s4 N4 d4)) := Vr.new x4 _ _ _; have l_c_0_4 := HV_c_4.out.c0; have l_c_1_4 := HV_c_4.out.c1; have l_c_2_4 := HV_c_4.out.c2; clear hr hb HV_c_3 HV_d_3 HV_1_3 HV_2_3 HV_3_3 HM_c_3 HM_d_3 HR_1_3 HR_2_3 HR_3_3)
      | (go_at_call 17; refine (stack_rs _ _ _ _ _ _ _ _ _ _ _ F0 F1 HM_c_2.out HM_d_2.out).mono ?_; rintro e x3 ⟨R3, C3, s3, N3, d3, E3, rfl, hr, hb⟩; have HB_3 : Hid (Below wc.heap.size wc (x3.alloc (.cells #[.int .i64 R3, .int .i64 C3, .slice s3 N3 d3] 24))) := two_below (two_below HB_2.out hb) (alloc_low _ _); have hz_3 : x3.heap.size ≤ (x3.alloc (.cells #[.int .i64 R3, .int .i64 C3, .slice s3 N3 d3] 24)).heap.size := (alloc_low x3 _).size; have hy_3 : (x2.alloc (.cells #[.int .i64 R2, .int .i64 C2, .slice s2 N2 d2] 24)).heap.size ≤ x3.heap.size := hb.size; have HI_3 : Hid (Ib (x2.alloc (.cells #[.int .i64 R2, .int .i64 C2, .slice s2 N2 d2] 24)).heap.size x3.heap.size (.slice s3 N3 d3)) := hr.ib; have HV_c_3 : Hid (Vr (x3.alloc (.cells #[.int .i64 R3, .int .i64 C3, .slice s3 N3 d3] 24)) p (.int .i64 r0) (.int .i64 c0) (.slice sa len0 da)) := (HV_c_2.out.later hb).later (alloc_low _ _); have HV_d_3 : Hid (Vr (x3.alloc (.cells #[.int .i64 R3, .int .i64 C3, .slice s3 N3 d3] 24)) q (.int .i64 r1) (.int .i64 c1) (.slice sb len1 db)) := (HV_d_2.out.later hb).later (alloc_low _ _); have HV_1_3 : Hid (Vr (x3.alloc (.cells #[.int .i64 R3, .int .i64 C3, .slice s3 N3 d3] 24)) x1.heap.size (.int .i64 R1) (.int .i64 C1) (.slice s1 N1 d1)) := (HV_1_2.out.later hb).later (alloc_low _ _); have HV_2_3 : Hid (Vr (x3.alloc (.cells #[.int .i64 R3, .int .i64 C3, .slice s3 N3 d3] 24)) x2.heap.size (.int .i64 R2) (.int .i64 C2) (.slice s2 N2 d2)) := (HV_2_2.out.later hb).later (alloc_low _ _); have HM_c_3 : Hid (Mt (x3.alloc (.cells #[.int .i64 R3, .int .i64 C3, .slice s3 N3 d3] 24)) sa len0 da F0) := (HM_c_2.out.later hb).later (alloc_low _ _); have HM_d_3 : Hid (Mt (x3.alloc (.cells #[.int .i64 R3, .int .i64 C3, .slice s3 N3 d3] 24)) sb len1 db F1) := (HM_d_2.out.later hb).later (alloc_low _ _); have HR_1_3 : Hid (Rs (x3.alloc (.cells #[.int .i64 R3, .int .i64 C3, .slice s3 N3 d3] 24)) wc.heap.size (.slice s1 N1 d1)) := (HR_1_2.out.later hb).later (alloc_low _ _); have HR_2_3 : Hid (Rs (x3.alloc (.cells #[.int .i64 R3, .int .i64 C3, .slice s3 N3 d3] 24)) wc.heap.size (.slice s2 N2 d2)) := (HR_2_2.out.later hb).later (alloc_low _ _); have HR_3_3 : Hid (Rs (x3.alloc (.cells #[.int .i64 R3, .int .i64 C3, .slice s3 N3 d3] 24)) wc.heap.size (.slice s3 N3 d3)) := (hr.mono HB_2.out.size).later (alloc_low _ _); have HV_3_3 : Hid (Vr (x3.alloc (.cells #[.int .i64 R3, .int .i64 C3, .slice s3 N3 d3] 24)) x3.heap.size (.int .i64 R3) (.int .i64 C3) (.slice s3 N3 d3)) := Vr.new x3 _ _ _; have l_c_0_3 := HV_c_3.out.c0; have l_c_1_3 := HV_c_3.out.c1; have l_c_2_3 := HV_c_3.out.c2; have l_d_0_3 := HV_d_3.out.c0; have l_d_1_3 := HV_d_3.out.c1; have l_d_2_3 := HV_d_3.out.c2; clear hr hb HV_c_2 HV_d_2 HV_1_2 HV_2_2 HM_c_2 HM_d_2 HR_1_2 HR_2_2)
      | (go_at_call 7; refine (trans_rs _ _ _ _ _ _ F0 HM_c_1.out).mono ?_; rintro e x2 ⟨R2, C2, s2, N2, d2, E2, rfl, hr, hb⟩; have HB_2 : Hid (Below wc.heap.size wc (x2.alloc (.cells #[.int .i64 R2, .int .i64 C2, .slice s2 N2 d2] 24))) := two_below (two_below HB_1.out hb) (alloc_low _ _); have hz_2 : x2.heap.size ≤ (x2.alloc (.cells #[.int .i64 R2, .int .i64 C2, .slice s2 N2 d2] 24)).heap.size := (alloc_low x2 _).size; have hy_2 : (x1.alloc (.cells #[.int .i64 R1, .int .i64 C1, .slice s1 N1 d1] 24)).heap.size ≤ x2.heap.size := hb.size; have HI_2 : Hid (Ib (x1.alloc (.cells #[.int .i64 R1, .int .i64 C1, .slice s1 N1 d1] 24)).heap.size x2.heap.size (.slice s2 N2 d2)) := hr.ib; have HV_c_2 : Hid (Vr (x2.alloc (.cells #[.int .i64 R2, .int .i64 C2, .slice s2 N2 d2] 24)) p (.int .i64 r0) (.int .i64 c0) (.slice sa len0 da)) := (HV_c_1.out.later hb).later (alloc_low _ _); have HV_d_2 : Hid (Vr (x2.alloc (.cells #[.int .i64 R2, .int .i64 C2, .slice s2 N2 d2] 24)) q (.int .i64 r1) (.int .i64 c1) (.slice sb len1 db)) := (HV_d_1.out.later hb).later (alloc_low _ _); have HV_1_2 : Hid (Vr (x2.alloc (.cells #[.int .i64 R2, .int .i64 C2, .slice s2 N2 d2] 24)) x1.heap.size (.int .i64 R1) (.int .i64 C1) (.slice s1 N1 d1)) := (HV_1_1.out.later hb).later (alloc_low _ _); have HM_c_2 : Hid (Mt (x2.alloc (.cells #[.int .i64 R2, .int .i64 C2, .slice s2 N2 d2] 24)) sa len0 da F0) := (HM_c_1.out.later hb).later (alloc_low _ _); have HM_d_2 : Hid (Mt (x2.alloc (.cells #[.int .i64 R2, .int .i64 C2, .slice s2 N2 d2] 24)) sb len1 db F1) := (HM_d_1.out.later hb).later (alloc_low _ _); have HR_1_2 : Hid (Rs (x2.alloc (.cells #[.int .i64 R2, .int .i64 C2, .slice s2 N2 d2] 24)) wc.heap.size (.slice s1 N1 d1)) := (HR_1_1.out.later hb).later (alloc_low _ _); have HR_2_2 : Hid (Rs (x2.alloc (.cells #[.int .i64 R2, .int .i64 C2, .slice s2 N2 d2] 24)) wc.heap.size (.slice s2 N2 d2)) := (hr.mono HB_1.out.size).later (alloc_low _ _); have HV_2_2 : Hid (Vr (x2.alloc (.cells #[.int .i64 R2, .int .i64 C2, .slice s2 N2 d2] 24)) x2.heap.size (.int .i64 R2) (.int .i64 C2) (.slice s2 N2 d2)) := Vr.new x2 _ _ _; have l_c_0_2 := HV_c_2.out.c0; have l_c_1_2 := HV_c_2.out.c1; have l_c_2_2 := HV_c_2.out.c2; have l_d_0_2 := HV_d_2.out.c0; have l_d_1_2 := HV_d_2.out.c1; have l_d_2_2 := HV_d_2.out.c2; clear hr hb HV_c_1 HV_d_1 HV_1_1 HM_c_1 HM_d_1 HR_1_1)
      | (go_at_call 8; refine (mul_rs _ _ _ _ _ _ _ _ _ _ _ F0 F1 HM_c_0.out HM_d_0.out).mono ?_; rintro e x1 ⟨R1, C1, s1, N1, d1, E1, rfl, hr, hb⟩; have HB_1 : Hid (Below wc.heap.size wc (x1.alloc (.cells #[.int .i64 R1, .int .i64 C1, .slice s1 N1 d1] 24))) := two_below (two_below HB_0.out hb) (alloc_low _ _); have hz_1 : x1.heap.size ≤ (x1.alloc (.cells #[.int .i64 R1, .int .i64 C1, .slice s1 N1 d1] 24)).heap.size := (alloc_low x1 _).size; have hy_1 : wc.heap.size ≤ x1.heap.size := hb.size; have HI_1 : Hid (Ib wc.heap.size x1.heap.size (.slice s1 N1 d1)) := hr.ib; have HV_c_1 : Hid (Vr (x1.alloc (.cells #[.int .i64 R1, .int .i64 C1, .slice s1 N1 d1] 24)) p (.int .i64 r0) (.int .i64 c0) (.slice sa len0 da)) := (HV_c_0.out.later hb).later (alloc_low _ _); have HV_d_1 : Hid (Vr (x1.alloc (.cells #[.int .i64 R1, .int .i64 C1, .slice s1 N1 d1] 24)) q (.int .i64 r1) (.int .i64 c1) (.slice sb len1 db)) := (HV_d_0.out.later hb).later (alloc_low _ _); have HM_c_1 : Hid (Mt (x1.alloc (.cells #[.int .i64 R1, .int .i64 C1, .slice s1 N1 d1] 24)) sa len0 da F0) := (HM_c_0.out.later hb).later (alloc_low _ _); have HM_d_1 : Hid (Mt (x1.alloc (.cells #[.int .i64 R1, .int .i64 C1, .slice s1 N1 d1] 24)) sb len1 db F1) := (HM_d_0.out.later hb).later (alloc_low _ _); have HR_1_1 : Hid (Rs (x1.alloc (.cells #[.int .i64 R1, .int .i64 C1, .slice s1 N1 d1] 24)) wc.heap.size (.slice s1 N1 d1)) := (hr.mono HB_0.out.size).later (alloc_low _ _); have HV_1_1 : Hid (Vr (x1.alloc (.cells #[.int .i64 R1, .int .i64 C1, .slice s1 N1 d1] 24)) x1.heap.size (.int .i64 R1) (.int .i64 C1) (.slice s1 N1 d1)) := Vr.new x1 _ _ _; have l_c_0_1 := HV_c_1.out.c0; have l_c_1_1 := HV_c_1.out.c1; have l_c_2_1 := HV_c_1.out.c2; clear hr hb HV_c_0 HV_d_0 HM_c_0 HM_d_0))
    have HE : Hid (Five (x5.alloc (.cells #[(Value.slice s1 N1 d1), (Value.slice s2 N2 d2), (Value.slice s3 N3 d3), (Value.slice s4 N4 d4), (Value.slice s5 N5 d5)] 22)) wc.heap.size (vs5 (Value.slice s1 N1 d1) (Value.slice s2 N2 d2) (Value.slice s3 N3 d3) (Value.slice s4 N4 d4) (Value.slice s5 N5 d5))) := five (HR_1_5.out.later (alloc_low _ _)) (HR_2_5.out.later (alloc_low _ _)) (HR_3_5.out.later (alloc_low _ _)) (HR_4_5.out.later (alloc_low _ _)) (HR_5_5.out.later (alloc_low _ _)) HI_1.out HI_2.out HI_3.out HI_4.out HI_5.out hz_1 hy_2 hz_2 hy_3 hz_3 hy_4 hz_4
    have HGL : Hid (∀ j, j < 5 → ((vs5 (Value.slice s1 N1 d1) (Value.slice s2 N2 d2) (Value.slice s3 N3 d3) (Value.slice s4 N4 d4) (Value.slice s5 N5 d5)) j).ownBlock ≠ some x5.heap.size) := by
      have E7 : Five x5 wc.heap.size (vs5 (Value.slice s1 N1 d1) (Value.slice s2 N2 d2) (Value.slice s3 N3 d3) (Value.slice s4 N4 d4) (Value.slice s5 N5 d5)) := five HR_1_5.out HR_2_5.out HR_3_5.out HR_4_5.out HR_5_5.out HI_1.out HI_2.out HI_3.out HI_4.out HI_5.out hz_1 hy_2 hz_2 hy_3 hz_3 hy_4 hz_4
      intro j hj e
      have := (E7.res j hj).ib _ e
      omega
    have HAW : Hid (Below wc.heap.size wc (x5.alloc (.cells #[(Value.slice s1 N1 d1), (Value.slice s2 N2 d2), (Value.slice s3 N3 d3), (Value.slice s4 N4 d4), (Value.slice s5 N5 d5)] 22))) := two_below HB_5.out (alloc_low _ _)
    obtain ⟨cs, HCS⟩ : ∃ cs, Hid (#[(Value.slice s1 N1 d1), (Value.slice s2 N2 d2), (Value.slice s3 N3 d3), (Value.slice s4 N4 d4), (Value.slice s5 N5 d5)] = cs) := ⟨_, rfl⟩
    obtain ⟨vv, HVV⟩ : ∃ vv, Hid ((vs5 (Value.slice s1 N1 d1) (Value.slice s2 N2 d2) (Value.slice s3 N3 d3) (Value.slice s4 N4 d4) (Value.slice s5 N5 d5)) = vv) := ⟨_, rfl⟩
    have HGet : Hid (∀ i, i < 5 → cs[i]? = some (vv i)) := by rw [← HCS.out, ← HVV.out]; exact fun i hi => vs5_get _ _ _ _ _ i hi
    have HBeg : Hid (Sp5 wc (x5.alloc (.cells #[(Value.slice s1 N1 d1), (Value.slice s2 N2 d2), (Value.slice s3 N3 d3), (Value.slice s4 N4 d4), (Value.slice s5 N5 d5)] 22)) x5.heap.size vv cs 0) := by
      rw [← HCS.out, ← HVV.out]
      exact ⟨fun j _ hj => HE.out.res j hj, new_at x5 _, HAW.out⟩
    have HAp : Hid (∀ i j, i < 5 → j < 5 → i ≠ j → ∀ g, (vv i).ownBlock = some g → (vv j).ownBlock ≠ some g) := by rw [← HVV.out]; exact HE.out.apart
    rw [HVV.out] at HGL
    clear HE HAW HR_1_5 HI_1 HR_2_5 HI_2 HR_3_5 HI_3 HR_4_5 HI_4 HR_5_5 HI_5 HV_c_5 HV_d_5 HV_1_5 HV_2_5 HV_3_5 HV_4_5 HM_c_5 HM_d_5 HB_1 HB_2 HB_3 HB_4 HB_5 hz_1 hz_2 hz_3 hz_4 hy_1 hy_2 hy_3 hy_4 hy_5
    go_loopw [18] (fun i wr => ∃ k : Nat, k ≤ 5 ∧ i = .int .i64 (k : Int) ∧ Sp5 wc wr x5.heap.size vv cs k) (fun i _ => 5 - (intOf i).toNat)
    case atStart => exact ⟨0, by omega, rfl, HBeg.out⟩
    case round =>
      clear HBeg
      obtain ⟨k, hk5, rfl, I⟩ := hrel
      have HI : Hid (Sp5 wc wr x5.heap.size vv cs k) := I
      clear I
      by_cases hlt : k < 5
      · have hc : wr.cell? ⟨x5.heap.size, k, none⟩ = some (vv k) := by rw [cell_of_row _ _ _ _ _ _ HI.out.arr]; exact HGet.out k hlt
        obtain ⟨x, HX⟩ : ∃ x, Hid (vv k = x) := ⟨_, rfl⟩
        rw [HX.out] at hc
        have HR : Hid (Rs wr wc.heap.size x) := by rw [← HX.out]; exact HI.out.res k (Nat.le_refl _) hlt
        go_wp2_with (go_at_call 19; refine (spoil_rs _ wc.heap.size x _ HR.out).mono ?_; rintro e w9 ⟨rfl, hg9⟩; have HG9 : Hid (wr.grownBy w9 x.ownBlock) := hg9; clear hg9)
        exact ⟨⟨k + 1, by omega, by go_num, sp5_next HI.out hlt (by rw [HX.out]; exact HG9.out) HAp.out HGL.out⟩, by simp [intOf]; omega⟩
      · obtain rfl : k = 5 := by omega
        have HB_0 : Hid (Below w.heap.size w wr) := two_below HS.out.below HI.out.below
        have HV_a_0 : Hid (Vr wr w.heap.size (.int .i64 r0) (.int .i64 c0) (.slice a0 len0 cap0)) := HS.out.va.later HI.out.below
        have HV_b_0 : Hid (Vr wr (w.heap.size + 1) (.int .i64 r1) (.int .i64 c1) (.slice a1 len1 cap1)) := HS.out.vb.later HI.out.below
        have HV_c_0 : Hid (Vr wr p (.int .i64 r0) (.int .i64 c0) (.slice sa len0 da)) := HS.out.vc.later HI.out.below
        have HV_d_0 : Hid (Vr wr q (.int .i64 r1) (.int .i64 c1) (.slice sb len1 db)) := HS.out.vd.later HI.out.below
        have HM_a_0 : Hid (Mt wr a0 len0 cap0 F0) := HM_m0.out.later HB_0.out
        have HM_b_0 : Hid (Mt wr a1 len1 cap1 F1) := HM_m1.out.later HB_0.out
        have HM_c_0 : Hid (Mt wr sa len0 da F0) := HS.out.mc.later HI.out.below
        have HM_d_0 : Hid (Mt wr sb len1 db F1) := HS.out.md.later HI.out.below
        have l_a_0 := HV_a_0.out.c0
        have l_a_1 := HV_a_0.out.c1
        have l_a_2 := HV_a_0.out.c2
        have l_b_0 := HV_b_0.out.c0
        have l_b_1 := HV_b_0.out.c1
        have l_b_2 := HV_b_0.out.c2
        go_wp2_with (first
          | (go_at_call 21; have _x := HB_5; refine (like3_any _ R C R C E E s2 s1 N N d2 d1 f f HM_r_5.out.sl HM_q_5.out.sl true (hid_of (like_self R C E N f))).mono ?_; rintro e w6 ⟨rfl, hb6⟩; have HB_6 : Hid (Below w.heap.size w w6) := two_below HB_5.out hb6; have HV_a_6 : Hid (Vr w6 w.heap.size (.int .i64 r0) (.int .i64 c0) (.slice a0 len0 cap0)) := HV_a_5.out.later hb6; have HV_b_6 : Hid (Vr w6 (w.heap.size + 1) (.int .i64 r1) (.int .i64 c1) (.slice a1 len1 cap1)) := HV_b_5.out.later hb6; have HV_c_6 : Hid (Vr w6 p (.int .i64 r0) (.int .i64 c0) (.slice sa len0 da)) := HV_c_5.out.later hb6; have HV_d_6 : Hid (Vr w6 q (.int .i64 r1) (.int .i64 c1) (.slice sb len1 db)) := HV_d_5.out.later hb6; have HV_q_6 : Hid (Vr w6 w1.heap.size (.int .i64 R) (.int .i64 C) (.slice s1 N d1)) := HV_q_5.out.later hb6; have HV_r_6 : Hid (Vr w6 w2.heap.size (.int .i64 R) (.int .i64 C) (.slice s2 N d2)) := HV_r_5.out.later hb6; have HM_a_6 : Hid (Mt w6 a0 len0 cap0 F0) := HM_a_5.out.later hb6; have HM_b_6 : Hid (Mt w6 a1 len1 cap1 F1) := HM_b_5.out.later hb6; have HM_c_6 : Hid (Mt w6 sa len0 da F0) := HM_c_5.out.later hb6; have HM_d_6 : Hid (Mt w6 sb len1 db F1) := HM_d_5.out.later hb6; have HM_q_6 : Hid (Mt w6 s1 N d1 f) := HM_q_5.out.later hb6; have HM_r_6 : Hid (Mt w6 s2 N d2 f) := HM_r_5.out.later hb6; clear HV_a_5 HV_b_5 HV_c_5 HV_d_5 HV_q_5 HV_r_5 HM_a_5 HM_b_5 HM_c_5 HM_d_5 HM_q_5 HM_r_5 hb6)
          | (go_at_call 11; have _x := HB_4; refine (like_ans _ _ _ _ _ len1 _ _ F1 F1 HM_b_4.out HM_d_4.out (fun _ _ => rfl)).mono ?_; rintro e w5 ⟨rfl, hb5⟩; have HB_5 : Hid (Below w.heap.size w w5) := two_below HB_4.out hb5; have HV_a_5 : Hid (Vr w5 w.heap.size (.int .i64 r0) (.int .i64 c0) (.slice a0 len0 cap0)) := HV_a_4.out.later hb5; have HV_b_5 : Hid (Vr w5 (w.heap.size + 1) (.int .i64 r1) (.int .i64 c1) (.slice a1 len1 cap1)) := HV_b_4.out.later hb5; have HV_c_5 : Hid (Vr w5 p (.int .i64 r0) (.int .i64 c0) (.slice sa len0 da)) := HV_c_4.out.later hb5; have HV_d_5 : Hid (Vr w5 q (.int .i64 r1) (.int .i64 c1) (.slice sb len1 db)) := HV_d_4.out.later hb5; have HV_q_5 : Hid (Vr w5 w1.heap.size (.int .i64 R) (.int .i64 C) (.slice s1 N d1)) := HV_q_4.out.later hb5; have HV_r_5 : Hid (Vr w5 w2.heap.size (.int .i64 R) (.int .i64 C) (.slice s2 N d2)) := HV_r_4.out.later hb5; have HM_a_5 : Hid (Mt w5 a0 len0 cap0 F0) := HM_a_4.out.later hb5; have HM_b_5 : Hid (Mt w5 a1 len1 cap1 F1) := HM_b_4.out.later hb5; have HM_c_5 : Hid (Mt w5 sa len0 da F0) := HM_c_4.out.later hb5; have HM_d_5 : Hid (Mt w5 sb len1 db F1) := HM_d_4.out.later hb5; have HM_q_5 : Hid (Mt w5 s1 N d1 f) := HM_q_4.out.later hb5; have HM_r_5 : Hid (Mt w5 s2 N d2 f) := HM_r_4.out.later hb5; have x_r_0_5 := HV_r_5.out.c0; have x_r_1_5 := HV_r_5.out.c1; have x_r_2_5 := HV_r_5.out.c2; have x_q_0_5 := HV_q_5.out.c0; have x_q_1_5 := HV_q_5.out.c1; have x_q_2_5 := HV_q_5.out.c2; clear HV_a_4 HV_b_4 HV_c_4 HV_d_4 HV_q_4 HV_r_4 HM_a_4 HM_b_4 HM_c_4 HM_d_4 HM_q_4 HM_r_4 hb5)
          | (go_at_call 11; have _x := HB_3; refine (like_ans _ _ _ _ _ len0 _ _ F0 F0 HM_a_3.out HM_c_3.out (fun _ _ => rfl)).mono ?_; rintro e w4 ⟨rfl, hb4⟩; have HB_4 : Hid (Below w.heap.size w w4) := two_below HB_3.out hb4; have HV_a_4 : Hid (Vr w4 w.heap.size (.int .i64 r0) (.int .i64 c0) (.slice a0 len0 cap0)) := HV_a_3.out.later hb4; have HV_b_4 : Hid (Vr w4 (w.heap.size + 1) (.int .i64 r1) (.int .i64 c1) (.slice a1 len1 cap1)) := HV_b_3.out.later hb4; have HV_c_4 : Hid (Vr w4 p (.int .i64 r0) (.int .i64 c0) (.slice sa len0 da)) := HV_c_3.out.later hb4; have HV_d_4 : Hid (Vr w4 q (.int .i64 r1) (.int .i64 c1) (.slice sb len1 db)) := HV_d_3.out.later hb4; have HV_q_4 : Hid (Vr w4 w1.heap.size (.int .i64 R) (.int .i64 C) (.slice s1 N d1)) := HV_q_3.out.later hb4; have HV_r_4 : Hid (Vr w4 w2.heap.size (.int .i64 R) (.int .i64 C) (.slice s2 N d2)) := HV_r_3.out.later hb4; have HM_a_4 : Hid (Mt w4 a0 len0 cap0 F0) := HM_a_3.out.later hb4; have HM_b_4 : Hid (Mt w4 a1 len1 cap1 F1) := HM_b_3.out.later hb4; have HM_c_4 : Hid (Mt w4 sa len0 da F0) := HM_c_3.out.later hb4; have HM_d_4 : Hid (Mt w4 sb len1 db F1) := HM_d_3.out.later hb4; have HM_q_4 : Hid (Mt w4 s1 N d1 f) := HM_q_3.out.later hb4; have HM_r_4 : Hid (Mt w4 s2 N d2 f) := HM_r_3.out.later hb4; have x_b_0_4 := HV_b_4.out.c0; have x_b_1_4 := HV_b_4.out.c1; have x_b_2_4 := HV_b_4.out.c2; have x_d_0_4 := HV_d_4.out.c0; have x_d_1_4 := HV_d_4.out.c1; have x_d_2_4 := HV_d_4.out.c2; clear HV_a_3 HV_b_3 HV_c_3 HV_d_3 HV_q_3 HV_r_3 HM_a_3 HM_b_3 HM_c_3 HM_d_3 HM_q_3 HM_r_3 hb4)
          | (go_at_call 10; have _x := HB_2; refine (anch_any _).mono ?_; rintro e w3 ⟨rfl, hb3⟩; have HB_3 : Hid (Below w.heap.size w w3) := two_below HB_2.out hb3; have HV_a_3 : Hid (Vr w3 w.heap.size (.int .i64 r0) (.int .i64 c0) (.slice a0 len0 cap0)) := HV_a_2.out.later hb3; have HV_b_3 : Hid (Vr w3 (w.heap.size + 1) (.int .i64 r1) (.int .i64 c1) (.slice a1 len1 cap1)) := HV_b_2.out.later hb3; have HV_c_3 : Hid (Vr w3 p (.int .i64 r0) (.int .i64 c0) (.slice sa len0 da)) := HV_c_2.out.later hb3; have HV_d_3 : Hid (Vr w3 q (.int .i64 r1) (.int .i64 c1) (.slice sb len1 db)) := HV_d_2.out.later hb3; have HV_q_3 : Hid (Vr w3 w1.heap.size (.int .i64 R) (.int .i64 C) (.slice s1 N d1)) := HV_q_2.out.later hb3; have HV_r_3 : Hid (Vr w3 w2.heap.size (.int .i64 R) (.int .i64 C) (.slice s2 N d2)) := HV_r_2.out.later hb3; have HM_a_3 : Hid (Mt w3 a0 len0 cap0 F0) := HM_a_2.out.later hb3; have HM_b_3 : Hid (Mt w3 a1 len1 cap1 F1) := HM_b_2.out.later hb3; have HM_c_3 : Hid (Mt w3 sa len0 da F0) := HM_c_2.out.later hb3; have HM_d_3 : Hid (Mt w3 sb len1 db F1) := HM_d_2.out.later hb3; have HM_q_3 : Hid (Mt w3 s1 N d1 f) := HM_q_2.out.later hb3; have HM_r_3 : Hid (Mt w3 s2 N d2 f) := HM_r_2.out.later hb3; have x_a_0_3 := HV_a_3.out.c0; have x_a_1_3 := HV_a_3.out.c1; have x_a_2_3 := HV_a_3.out.c2; have x_c_0_3 := HV_c_3.out.c0; have x_c_1_3 := HV_c_3.out.c1; have x_c_2_3 := HV_c_3.out.c2; clear HV_a_2 HV_b_2 HV_c_2 HV_d_2 HV_q_2 HV_r_2 HM_a_2 HM_b_2 HM_c_2 HM_d_2 HM_q_2 HM_r_2 hb3)
          | (go_at_call 8; have _x := HB_1; refine ((HP.out _ _ _ _ _ HM_c_1.out HM_d_1.out).1).mono ?_; rintro e w2 ⟨s2, d2, rfl, hs2, hb2⟩; have HB_2 : Hid (Below w.heap.size w (w2.alloc (.cells #[.int .i64 R, .int .i64 C, .slice s2 N d2] 24))) := two_below (two_below HB_1.out hb2) (alloc_low _ _); have HV_a_2 : Hid (Vr (w2.alloc (.cells #[.int .i64 R, .int .i64 C, .slice s2 N d2] 24)) w.heap.size (.int .i64 r0) (.int .i64 c0) (.slice a0 len0 cap0)) := (HV_a_1.out.later hb2).later (alloc_low _ _); have HV_b_2 : Hid (Vr (w2.alloc (.cells #[.int .i64 R, .int .i64 C, .slice s2 N d2] 24)) (w.heap.size + 1) (.int .i64 r1) (.int .i64 c1) (.slice a1 len1 cap1)) := (HV_b_1.out.later hb2).later (alloc_low _ _); have HV_c_2 : Hid (Vr (w2.alloc (.cells #[.int .i64 R, .int .i64 C, .slice s2 N d2] 24)) p (.int .i64 r0) (.int .i64 c0) (.slice sa len0 da)) := (HV_c_1.out.later hb2).later (alloc_low _ _); have HV_d_2 : Hid (Vr (w2.alloc (.cells #[.int .i64 R, .int .i64 C, .slice s2 N d2] 24)) q (.int .i64 r1) (.int .i64 c1) (.slice sb len1 db)) := (HV_d_1.out.later hb2).later (alloc_low _ _); have HV_q_2 : Hid (Vr (w2.alloc (.cells #[.int .i64 R, .int .i64 C, .slice s2 N d2] 24)) w1.heap.size (.int .i64 R) (.int .i64 C) (.slice s1 N d1)) := (HV_q_1.out.later hb2).later (alloc_low _ _); have HM_a_2 : Hid (Mt (w2.alloc (.cells #[.int .i64 R, .int .i64 C, .slice s2 N d2] 24)) a0 len0 cap0 F0) := (HM_a_1.out.later hb2).later (alloc_low _ _); have HM_b_2 : Hid (Mt (w2.alloc (.cells #[.int .i64 R, .int .i64 C, .slice s2 N d2] 24)) a1 len1 cap1 F1) := (HM_b_1.out.later hb2).later (alloc_low _ _); have HM_c_2 : Hid (Mt (w2.alloc (.cells #[.int .i64 R, .int .i64 C, .slice s2 N d2] 24)) sa len0 da F0) := (HM_c_1.out.later hb2).later (alloc_low _ _); have HM_d_2 : Hid (Mt (w2.alloc (.cells #[.int .i64 R, .int .i64 C, .slice s2 N d2] 24)) sb len1 db F1) := (HM_d_1.out.later hb2).later (alloc_low _ _); have HM_q_2 : Hid (Mt (w2.alloc (.cells #[.int .i64 R, .int .i64 C, .slice s2 N d2] 24)) s1 N d1 f) := (HM_q_1.out.later hb2).later (alloc_low _ _); have HV_r_2 : Hid (Vr (w2.alloc (.cells #[.int .i64 R, .int .i64 C, .slice s2 N d2] 24)) w2.heap.size (.int .i64 R) (.int .i64 C) (.slice s2 N d2)) := Vr.new w2 _ _ _; have HM_r_2 : Hid (Mt (w2.alloc (.cells #[.int .i64 R, .int .i64 C, .slice s2 N d2] 24)) s2 N d2 f) := hs2.later (alloc_low _ _); clear HV_a_1 HV_b_1 HV_c_1 HV_d_1 HV_q_1 HM_a_1 HM_b_1 HM_c_1 HM_d_1 HM_q_1 hb2 hs2)
          | (go_at_call 20; refine ((HP.out _ _ _ _ _ HM_a_0.out HM_b_0.out).2).mono ?_; rintro e w1 ⟨s1, d1, rfl, hs1, hb1⟩; have HB_1 : Hid (Below w.heap.size w (w1.alloc (.cells #[.int .i64 R, .int .i64 C, .slice s1 N d1] 24))) := two_below (two_below HB_0.out hb1) (alloc_low _ _); have HV_a_1 : Hid (Vr (w1.alloc (.cells #[.int .i64 R, .int .i64 C, .slice s1 N d1] 24)) w.heap.size (.int .i64 r0) (.int .i64 c0) (.slice a0 len0 cap0)) := (HV_a_0.out.later hb1).later (alloc_low _ _); have HV_b_1 : Hid (Vr (w1.alloc (.cells #[.int .i64 R, .int .i64 C, .slice s1 N d1] 24)) (w.heap.size + 1) (.int .i64 r1) (.int .i64 c1) (.slice a1 len1 cap1)) := (HV_b_0.out.later hb1).later (alloc_low _ _); have HV_c_1 : Hid (Vr (w1.alloc (.cells #[.int .i64 R, .int .i64 C, .slice s1 N d1] 24)) p (.int .i64 r0) (.int .i64 c0) (.slice sa len0 da)) := (HV_c_0.out.later hb1).later (alloc_low _ _); have HV_d_1 : Hid (Vr (w1.alloc (.cells #[.int .i64 R, .int .i64 C, .slice s1 N d1] 24)) q (.int .i64 r1) (.int .i64 c1) (.slice sb len1 db)) := (HV_d_0.out.later hb1).later (alloc_low _ _); have HM_a_1 : Hid (Mt (w1.alloc (.cells #[.int .i64 R, .int .i64 C, .slice s1 N d1] 24)) a0 len0 cap0 F0) := (HM_a_0.out.later hb1).later (alloc_low _ _); have HM_b_1 : Hid (Mt (w1.alloc (.cells #[.int .i64 R, .int .i64 C, .slice s1 N d1] 24)) a1 len1 cap1 F1) := (HM_b_0.out.later hb1).later (alloc_low _ _); have HM_c_1 : Hid (Mt (w1.alloc (.cells #[.int .i64 R, .int .i64 C, .slice s1 N d1] 24)) sa len0 da F0) := (HM_c_0.out.later hb1).later (alloc_low _ _); have HM_d_1 : Hid (Mt (w1.alloc (.cells #[.int .i64 R, .int .i64 C, .slice s1 N d1] 24)) sb len1 db F1) := (HM_d_0.out.later hb1).later (alloc_low _ _); have HV_q_1 : Hid (Vr (w1.alloc (.cells #[.int .i64 R, .int .i64 C, .slice s1 N d1] 24)) w1.heap.size (.int .i64 R) (.int .i64 C) (.slice s1 N d1)) := Vr.new w1 _ _ _; have HM_q_1 : Hid (Mt (w1.alloc (.cells #[.int .i64 R, .int .i64 C, .slice s1 N d1] 24)) s1 N d1 f) := hs1.later (alloc_low _ _); have x_c_0_1 := HV_c_1.out.c0; have x_c_1_1 := HV_c_1.out.c1; have x_c_2_1 := HV_c_1.out.c2; have x_d_0_1 := HV_d_1.out.c0; have x_d_1_1 := HV_d_1.out.c1; have x_d_2_1 := HV_d_1.out.c2; clear HV_a_0 HV_b_0 HV_c_0 HV_d_0 HM_a_0 HM_b_0 HM_c_0 HM_d_0 hb1 hs1))
        go_ret
        exact ⟨rfl, HB_6.out⟩
set_option maxRecDepth 100000 in
set_option maxHeartbeats 2000000 in
theorem lifted (os : Os) (started : os.Started) (H : Type) (enc : TypeId × Value → H) :
    ReturnsInHanded {} Try.checked os 6 .any (Rows.matrixFreshSpec.pre6 enc Try.prog Try.f6 Rows.matrixFreshRow.domain false) (Rows.matrixFreshSpec.post enc Try.prog Try.f6 false true false false) := by
  refine returnsInHanded_of_change_sized (C := Try.checked) own started (by kernel_rfl) Try.func6
    (ChangeSpec.witness6 (enc := enc) (C := Try.checked) false ⟨#[], #[.agg #[.int .i64 0, .int .i64 0, .slice none 0 0], .agg #[.int .i64 0, .int .i64 0, .slice none 0 0]], []⟩ 8 (by kernel_rfl) (by kernel_rfl) (by kernel_rfl) (by kernel_rfl)) ?_
  intro W base args ds gs before hval0 hW hcnd hsz0 _
  have hsz : (DataW.weightsEach Try.prog (Try.f6.params.toList ++ Rows.matrixFreshSpec.plain.varTypes Try.prog) (ds ++ gs)).all (· ≤ reachBytes) = true := hsz0
  clear hsz0
  have hval : ∀ (j : Nat) t v, Try.f6.params[j]? = some t → args[j]? = some v → Value.okWide Try.prog W .any base t v := hval0
  have hW' := hW
  obtain ⟨p, q, hA0, hV, rfl, hfz, hnd⟩ := hW
  have hA : DataW.TrodAll enc Try.prog W 0 (fun _ => true) true Try.f6.params.toList args.toList ds p := hA0
  rw [Try.params6] at hA hval hsz
  obtain ⟨va0, vs0, d0, ds0, p0, q0, hargs, rfl, rfl, h0, tr0⟩ := trodAll_cons hA
  obtain ⟨va1, vs1, d1, ds1, p1, q1, rfl, rfl, rfl, h1, tr1⟩ := trodAll_cons tr0
  obtain ⟨rfl, rfl, rfl⟩ := trodAll_nil tr1
  obtain rfl : args = #[va0, va1] := by cases args; simp_all
  obtain ⟨rfl, rfl⟩ := trodVars_none hV
  have k0 := h0
  have lt0 : ∀ x ∈ p0, x.block < W.heap.size := by obtain ⟨m, hm⟩ := k0; exact DataW.trod_lt m _ _ _ hm
  obtain ⟨f0, g0, s0, y0, x0, e0, m0, rfl, rfl, rfl, hf0, hg0, hs0⟩ := open_agg3 Try.underlying24 (by kernel_rfl) cellsM (hval 0 24 va0 rfl rfl) h0
  obtain ⟨r0, er0, rfl, u0⟩ := DataW.trod_int Try.underlying3 hf0
  obtain ⟨c0, ec0, rfl, v0⟩ := DataW.trod_int Try.underlying3 hg0
  simp only [List.cons.injEq, and_true] at er0 ec0
  subst er0 ec0
  obtain ⟨a0, len0, cap0, rfl⟩ : ∃ a l c, s0 = .slice a l c := by
    rcases open_ints Try.underlying22 Try.underlying5 (by kernel_rfl) hs0 with ⟨hcs, _⟩ | ⟨x, l, c, zs, hcs, _⟩
    · simp only [List.cons.injEq, and_true] at hcs; exact ⟨_, _, _, hcs⟩
    · simp only [List.cons.injEq, and_true] at hcs; exact ⟨_, _, _, hcs⟩
  obtain ⟨z0, w0⟩ : ∃ zs, IsRow .u8 W a0 len0 cap0 zs := by
    obtain ⟨fuel, hf⟩ := (⟨m0, hs0⟩ : ∃ fuel, DataW.trod enc Try.prog W 0 (fun _ => true) true fuel 22 [.slice a0 len0 cap0] = some e0)
    rcases open_ints Try.underlying22 Try.underlying5 (by kernel_rfl) hf with ⟨hcs, _⟩ | ⟨x, l, c, zs, hcs, _, hl, hm, hz, hxx, hcell, hwz⟩
    · simp at hcs
      obtain ⟨rfl, rfl, rfl⟩ := hcs
      exact ⟨[], .inl ⟨rfl, rfl, rfl, rfl⟩⟩
    · simp at hcs
      obtain ⟨rfl, rfl, rfl⟩ := hcs
      have hd := congrArg Prod.fst hxx
      have hs := sized_slice (sized_in hsz (j := 0) (t := 24) rfl rfl) (j := 2) (t := 22) (e := 5) rfl (congrArg some hd) Try.underlying22
      rw [show Try.prog.bytesOf 5 = 1 from by kernel_rfl] at hs
      have hzl : zs.length = cap0 := by simpa using hz
      simp only [lits, List.length_map, List.length_take, List.length_drop, reachBytes] at hs
      exact ⟨zs, .inr ⟨_, rfl, hl, by omega, by simpa using hz, hcell, hwz⟩⟩
  have k1 := h1
  have lt1 : ∀ x ∈ p1, x.block < W.heap.size := by obtain ⟨m, hm⟩ := k1; exact DataW.trod_lt m _ _ _ hm
  obtain ⟨f1, g1, s1, y1, x1, e1, m1, rfl, rfl, rfl, hf1, hg1, hs1⟩ := open_agg3 Try.underlying24 (by kernel_rfl) cellsM (hval 1 24 va1 rfl rfl) h1
  obtain ⟨r1, er1, rfl, u1⟩ := DataW.trod_int Try.underlying3 hf1
  obtain ⟨c1, ec1, rfl, v1⟩ := DataW.trod_int Try.underlying3 hg1
  simp only [List.cons.injEq, and_true] at er1 ec1
  subst er1 ec1
  obtain ⟨a1, len1, cap1, rfl⟩ : ∃ a l c, s1 = .slice a l c := by
    rcases open_ints Try.underlying22 Try.underlying5 (by kernel_rfl) hs1 with ⟨hcs, _⟩ | ⟨x, l, c, zs, hcs, _⟩
    · simp only [List.cons.injEq, and_true] at hcs; exact ⟨_, _, _, hcs⟩
    · simp only [List.cons.injEq, and_true] at hcs; exact ⟨_, _, _, hcs⟩
  obtain ⟨z1, w1⟩ : ∃ zs, IsRow .u8 W a1 len1 cap1 zs := by
    obtain ⟨fuel, hf⟩ := (⟨m1, hs1⟩ : ∃ fuel, DataW.trod enc Try.prog W 0 (fun _ => true) true fuel 22 [.slice a1 len1 cap1] = some e1)
    rcases open_ints Try.underlying22 Try.underlying5 (by kernel_rfl) hf with ⟨hcs, _⟩ | ⟨x, l, c, zs, hcs, _, hl, hm, hz, hxx, hcell, hwz⟩
    · simp at hcs
      obtain ⟨rfl, rfl, rfl⟩ := hcs
      exact ⟨[], .inl ⟨rfl, rfl, rfl, rfl⟩⟩
    · simp at hcs
      obtain ⟨rfl, rfl, rfl⟩ := hcs
      have hd := congrArg Prod.fst hxx
      have hs := sized_slice (sized_in hsz (j := 1) (t := 24) rfl rfl) (j := 2) (t := 22) (e := 5) rfl (congrArg some hd) Try.underlying22
      rw [show Try.prog.bytesOf 5 = 1 from by kernel_rfl] at hs
      have hzl : zs.length = cap1 := by simpa using hz
      simp only [lits, List.length_map, List.length_take, List.length_drop, reachBytes] at hs
      exact ⟨zs, .inr ⟨_, rfl, hl, by omega, by simpa using hz, hcell, hwz⟩⟩
  clear hA0 hval0
  refine (walk r0 c0 a0 len0 cap0 z0 r1 c1 a1 len1 cap1 z1 W u0 v0 w0 u1 v1 w1).mono fun e W' ⟨he, bel⟩ => ?_
  subst he
  exact ⟨_, rfl, _, _, _, [], _, [], hW', trodAll_mk1 (shut_bool Try.underlying4 _), (trodAll_cons_mk (Below.trod laidOut (by kernel_rfl) (of_decide_eq_true (by kernel_rfl)) k0 bel lt0) (trodAll_cons_mk (Below.trod laidOut (by kernel_rfl) (of_decide_eq_true (by kernel_rfl)) k1 bel lt1) trodAll_mk0)), rfl, bel.frame _, fun h => by cases h⟩
theorem over : Rows.matrixFreshRow.holds Try.pinned (OpenSpec.ofChange Rows.matrixFreshSpec) :=
  OpenClaim.holds_of_wide 6 Try.f6 rfl rfl rfl rfl rfl rfl rfl ⟨rfl, rfl, rfl, rfl, rfl⟩ rfl rfl rfl rfl rfl (by kernel_rfl) Try.func6 (by kernel_rfl)
    (of_decide_eq_true (by kernel_rfl)) (by unfold Func.isWrapper; first | (rw [if_pos (by decide +kernel)]; kernel_rfl) | (rw [if_neg (by decide +kernel)]; exact ⟨rfl, rfl⟩))
    (fun os started H enc _ => lifted os started H enc)
theorem proved : Rows.MatrixFreshSaid := over
#print axioms proved
end Go.Proofs.Ytaoehildaenbnab.matrixFresh
