/-
  Stage 12: Work, of the program and of the reference, answers what the document says.
-/
import Derived.Test.YtgmndjbicandfaaDoorQnnes00
import Derived.Test.YtgmndjbicandfaaDoorQnnes04
set_option maxRecDepth 100000
set_option maxHeartbeats 16000000
namespace Go.Proofs.YtgmndjbicandfaaDoor
open Go.RowKit
theorem wre2 {k : Nat} {a b : Int} (h : ¬ (3 ≤ k ∧ k ≤ 8 ∧ nmB a = true ∧ nmB b = true)) : wre k a b = 2 ∧ wrv k a b = 0 := by
 have e : wre k a b = 2 := if_pos h
 exact ⟨e, by unfold wrv; rw [e]; rfl⟩
theorem wre5 {k : Nat} {a b : Int} (h : 3 ≤ k ∧ k ≤ 8 ∧ nmB a = true ∧ nmB b = true) (h7 : 7 ≤ k ∧ b = 0) : wre k a b = 5 ∧ wrv k a b = 0 := by
 have e : wre k a b = 5 := by unfold wre; rw [if_neg (fun g => g h), if_pos h7]
 exact ⟨e, by unfold wrv; rw [e]; rfl⟩
theorem wre0 {k : Nat} {a b c : Int} (h : 3 ≤ k ∧ k ≤ 8 ∧ nmB a = true ∧ nmB b = true) (h7 : ¬ (7 ≤ k ∧ b = 0)) (hw : wop k a b = c) (hn : nmB c = true) : wre k a b = 0 ∧ wrv k a b = c := by
 have e : wre k a b = 0 := by unfold wre; rw [if_neg (fun g => g h), if_neg h7, hw, if_pos hn]
 exact ⟨e, by unfold wrv; rw [e, if_pos rfl, hw]⟩
theorem wre120 {k : Nat} {a b c : Int} (h : 3 ≤ k ∧ k ≤ 8 ∧ nmB a = true ∧ nmB b = true) (h7 : ¬ (7 ≤ k ∧ b = 0)) (hw : wop k a b = c) (hn : nmB c = false) : wre k a b = 120 ∧ wrv k a b = 0 := by
 have e : wre k a b = 120 := by unfold wre; rw [if_neg (fun g => g h), if_neg h7, hw, if_neg (by rw [hn]; decide)]
 exact ⟨e, by unfold wrv; rw [e]; rfl⟩
theorem infoOp : (Tryd.prog.info? 76).map (·.size) = some 1 := by kernel_rfl
theorem idx12_1 (w : World) : (Instr.index 77 (.agg #[.nilFunc, .nilFunc, .nilFunc, .func (.func 52) #[] #[], .func (.func 53) #[] #[], .func (.func 54) #[] #[], .func (.func 55) #[] #[], .func (.func 56) #[] #[], .func (.func 57) #[] #[]]) (.int .u8 3)).run Tryd.prog w = .ok (.func (.func 52) #[] #[]) w := by
 cases hq : Tryd.prog.info? 76 with
 | none => have := infoOp; simp [hq] at this
 | some inf =>
  have hs : inf.size = 1 := by have := infoOp; simpa [hq] using this
  simp [Instr.index, run_underlying Tryd.underlying77, asIntOf, part, isAgg, run_underlying Tryd.underlying76, sizeOf, typeInfo, hq, hs, go_sem]
theorem idx12_2 (w : World) : (Instr.index 77 (.agg #[.nilFunc, .nilFunc, .nilFunc, .func (.func 52) #[] #[], .func (.func 53) #[] #[], .func (.func 54) #[] #[], .func (.func 55) #[] #[], .func (.func 56) #[] #[], .func (.func 57) #[] #[]]) (.int .u8 4)).run Tryd.prog w = .ok (.func (.func 53) #[] #[]) w := by
 cases hq : Tryd.prog.info? 76 with
 | none => have := infoOp; simp [hq] at this
 | some inf =>
  have hs : inf.size = 1 := by have := infoOp; simpa [hq] using this
  simp [Instr.index, run_underlying Tryd.underlying77, asIntOf, part, isAgg, run_underlying Tryd.underlying76, sizeOf, typeInfo, hq, hs, go_sem]
theorem idx12_3 (w : World) : (Instr.index 77 (.agg #[.nilFunc, .nilFunc, .nilFunc, .func (.func 52) #[] #[], .func (.func 53) #[] #[], .func (.func 54) #[] #[], .func (.func 55) #[] #[], .func (.func 56) #[] #[], .func (.func 57) #[] #[]]) (.int .u8 5)).run Tryd.prog w = .ok (.func (.func 54) #[] #[]) w := by
 cases hq : Tryd.prog.info? 76 with
 | none => have := infoOp; simp [hq] at this
 | some inf =>
  have hs : inf.size = 1 := by have := infoOp; simpa [hq] using this
  simp [Instr.index, run_underlying Tryd.underlying77, asIntOf, part, isAgg, run_underlying Tryd.underlying76, sizeOf, typeInfo, hq, hs, go_sem]
theorem idx12_4 (w : World) : (Instr.index 77 (.agg #[.nilFunc, .nilFunc, .nilFunc, .func (.func 52) #[] #[], .func (.func 53) #[] #[], .func (.func 54) #[] #[], .func (.func 55) #[] #[], .func (.func 56) #[] #[], .func (.func 57) #[] #[]]) (.int .u8 6)).run Tryd.prog w = .ok (.func (.func 55) #[] #[]) w := by
 cases hq : Tryd.prog.info? 76 with
 | none => have := infoOp; simp [hq] at this
 | some inf =>
  have hs : inf.size = 1 := by have := infoOp; simpa [hq] using this
  simp [Instr.index, run_underlying Tryd.underlying77, asIntOf, part, isAgg, run_underlying Tryd.underlying76, sizeOf, typeInfo, hq, hs, go_sem]
theorem idx12_5 (w : World) : (Instr.index 77 (.agg #[.nilFunc, .nilFunc, .nilFunc, .func (.func 52) #[] #[], .func (.func 53) #[] #[], .func (.func 54) #[] #[], .func (.func 55) #[] #[], .func (.func 56) #[] #[], .func (.func 57) #[] #[]]) (.int .u8 7)).run Tryd.prog w = .ok (.func (.func 56) #[] #[]) w := by
 cases hq : Tryd.prog.info? 76 with
 | none => have := infoOp; simp [hq] at this
 | some inf =>
  have hs : inf.size = 1 := by have := infoOp; simpa [hq] using this
  simp [Instr.index, run_underlying Tryd.underlying77, asIntOf, part, isAgg, run_underlying Tryd.underlying76, sizeOf, typeInfo, hq, hs, go_sem]
theorem idx12_6 (w : World) : (Instr.index 77 (.agg #[.nilFunc, .nilFunc, .nilFunc, .func (.func 52) #[] #[], .func (.func 53) #[] #[], .func (.func 54) #[] #[], .func (.func 55) #[] #[], .func (.func 56) #[] #[], .func (.func 57) #[] #[]]) (.int .u8 8)).run Tryd.prog w = .ok (.func (.func 57) #[] #[]) w := by
 cases hq : Tryd.prog.info? 76 with
 | none => have := infoOp; simp [hq] at this
 | some inf =>
  have hs : inf.size = 1 := by have := infoOp; simpa [hq] using this
  simp [Instr.index, run_underlying Tryd.underlying77, asIntOf, part, isAgg, run_underlying Tryd.underlying76, sizeOf, typeInfo, hq, hs, go_sem]
end Go.Proofs.YtgmndjbicandfaaDoor
