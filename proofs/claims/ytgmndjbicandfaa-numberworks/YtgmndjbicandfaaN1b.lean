/-
  Stage 12: Work, of the program and of the reference, answers what the document says.
-/
import Derived.Test.YtgmndjbicandfaaN1a
namespace Go.Proofs.Ytgmndjbicandfaa
open Go.RowKit
theorem wre2 {k : Nat} {a b : Int} (h : ¬ (3 ≤ k ∧ k ≤ 8 ∧ nmB a = true ∧ nmB b = true)) : wre k a b = 2 ∧ wrv k a b = 0 := by
  have e : wre k a b = 2 := if_pos h
  exact ⟨e, by unfold wrv; rw [e]; rfl⟩
theorem wre5 {k : Nat} {a b : Int} (h : 3 ≤ k ∧ k ≤ 8 ∧ nmB a = true ∧ nmB b = true) (h7 : 7 ≤ k ∧ b = 0) : wre k a b = 5 ∧ wrv k a b = 0 := by
  have e : wre k a b = 5 := by unfold wre; rw [if_neg (fun g => g h), if_pos h7]
  exact ⟨e, by unfold wrv; rw [e]; rfl⟩
theorem wre0 {k : Nat} {a b c : Int} (h : 3 ≤ k ∧ k ≤ 8 ∧ nmB a = true ∧ nmB b = true) (h7 : ¬ (7 ≤ k ∧ b = 0)) (hw : wop k a b = c) (hn : nmB c = true) : wre k a b = 0 ∧ wrv k a b = c := by
  have e : wre k a b = 0 := by unfold wre; rw [if_neg (fun g => g h), if_neg h7, hw, if_pos hn]
  exact ⟨e, by unfold wrv; rw [e, if_pos rfl, hw]⟩
theorem wre120 {k : Nat} {a b c : Int} (h : 3 ≤ k ∧ k ≤ 8 ∧ nmB a = true ∧ nmB b = true) (h7 : ¬ (7 ≤ k ∧ b = 0)) (hw : wop k a b = c) (hn : nmB c = false) : wre k a b = 120 ∧ wrv k a b = 0 := by
  have e : wre k a b = 120 := by unfold wre; rw [if_neg (fun g => g h), if_neg h7, hw, if_neg (by rw [hn]; decide)]
  exact ⟨e, by unfold wrv; rw [e]; rfl⟩
theorem infoOp : (Try.prog.info? 31).map (·.size) = some 1 := by kernel_rfl
theorem idx12_1 (w : World) : (Instr.index 32 (.agg #[.nilFunc, .nilFunc, .nilFunc, .func (.func 11) #[] #[], .func (.func 12) #[] #[], .func (.func 13) #[] #[], .func (.func 14) #[] #[], .func (.func 15) #[] #[], .func (.func 16) #[] #[]]) (.int .u8 3)).run Try.prog w = .ok (.func (.func 11) #[] #[]) w := by
  cases hq : Try.prog.info? 31 with
  | none => have := infoOp; simp [hq] at this
  | some inf =>
    have hs : inf.size = 1 := by have := infoOp; simpa [hq] using this
    simp [Instr.index, run_underlying Try.underlying32, asIntOf, part, isAgg, run_underlying Try.underlying31, sizeOf, typeInfo, hq, hs, go_sem]
theorem idx12_2 (w : World) : (Instr.index 32 (.agg #[.nilFunc, .nilFunc, .nilFunc, .func (.func 11) #[] #[], .func (.func 12) #[] #[], .func (.func 13) #[] #[], .func (.func 14) #[] #[], .func (.func 15) #[] #[], .func (.func 16) #[] #[]]) (.int .u8 4)).run Try.prog w = .ok (.func (.func 12) #[] #[]) w := by
  cases hq : Try.prog.info? 31 with
  | none => have := infoOp; simp [hq] at this
  | some inf =>
    have hs : inf.size = 1 := by have := infoOp; simpa [hq] using this
    simp [Instr.index, run_underlying Try.underlying32, asIntOf, part, isAgg, run_underlying Try.underlying31, sizeOf, typeInfo, hq, hs, go_sem]
theorem idx12_3 (w : World) : (Instr.index 32 (.agg #[.nilFunc, .nilFunc, .nilFunc, .func (.func 11) #[] #[], .func (.func 12) #[] #[], .func (.func 13) #[] #[], .func (.func 14) #[] #[], .func (.func 15) #[] #[], .func (.func 16) #[] #[]]) (.int .u8 5)).run Try.prog w = .ok (.func (.func 13) #[] #[]) w := by
  cases hq : Try.prog.info? 31 with
  | none => have := infoOp; simp [hq] at this
  | some inf =>
    have hs : inf.size = 1 := by have := infoOp; simpa [hq] using this
    simp [Instr.index, run_underlying Try.underlying32, asIntOf, part, isAgg, run_underlying Try.underlying31, sizeOf, typeInfo, hq, hs, go_sem]
theorem idx12_4 (w : World) : (Instr.index 32 (.agg #[.nilFunc, .nilFunc, .nilFunc, .func (.func 11) #[] #[], .func (.func 12) #[] #[], .func (.func 13) #[] #[], .func (.func 14) #[] #[], .func (.func 15) #[] #[], .func (.func 16) #[] #[]]) (.int .u8 6)).run Try.prog w = .ok (.func (.func 14) #[] #[]) w := by
  cases hq : Try.prog.info? 31 with
  | none => have := infoOp; simp [hq] at this
  | some inf =>
    have hs : inf.size = 1 := by have := infoOp; simpa [hq] using this
    simp [Instr.index, run_underlying Try.underlying32, asIntOf, part, isAgg, run_underlying Try.underlying31, sizeOf, typeInfo, hq, hs, go_sem]
theorem idx12_5 (w : World) : (Instr.index 32 (.agg #[.nilFunc, .nilFunc, .nilFunc, .func (.func 11) #[] #[], .func (.func 12) #[] #[], .func (.func 13) #[] #[], .func (.func 14) #[] #[], .func (.func 15) #[] #[], .func (.func 16) #[] #[]]) (.int .u8 7)).run Try.prog w = .ok (.func (.func 15) #[] #[]) w := by
  cases hq : Try.prog.info? 31 with
  | none => have := infoOp; simp [hq] at this
  | some inf =>
    have hs : inf.size = 1 := by have := infoOp; simpa [hq] using this
    simp [Instr.index, run_underlying Try.underlying32, asIntOf, part, isAgg, run_underlying Try.underlying31, sizeOf, typeInfo, hq, hs, go_sem]
theorem idx12_6 (w : World) : (Instr.index 32 (.agg #[.nilFunc, .nilFunc, .nilFunc, .func (.func 11) #[] #[], .func (.func 12) #[] #[], .func (.func 13) #[] #[], .func (.func 14) #[] #[], .func (.func 15) #[] #[], .func (.func 16) #[] #[]]) (.int .u8 8)).run Try.prog w = .ok (.func (.func 16) #[] #[]) w := by
  cases hq : Try.prog.info? 31 with
  | none => have := infoOp; simp [hq] at this
  | some inf =>
    have hs : inf.size = 1 := by have := infoOp; simpa [hq] using this
    simp [Instr.index, run_underlying Try.underlying32, asIntOf, part, isAgg, run_underlying Try.underlying31, sizeOf, typeInfo, hq, hs, go_sem]
end Go.Proofs.Ytgmndjbicandfaa
