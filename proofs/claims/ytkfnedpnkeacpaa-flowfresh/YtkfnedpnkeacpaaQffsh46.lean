/-
  Stage 21: Trim of a flow that may not be.
-/
import Derived.Test.YtkfnedpnkeacpaaQffsh00
import Derived.Test.YtkfnedpnkeacpaaQffsh27
import Derived.Test.YtkfnedpnkeacpaaQffsh23
set_option maxRecDepth 100000
set_option maxHeartbeats 16000000
namespace Go.Proofs.Ytkfnedpnkeacpaa
open Go.RowKit
theorem qfo (w : World) (a b c : Option Addr) (p q r : Nat) (F : Fl) (h : FlR w a b c F) (hM : ¬ MayP F) :
  Calls Try.prog 22 #[flv a F.ni p b F.nn q c F.no r] w fun e w' => e = .returned (.tuple #[flv none 0 0 none 0 0 none 0 0, .int .i64 2]) ∧ Below w.heap.size w w' := by
 obtain ⟨wb, HW⟩ : ∃ wb, Hid ((w.alloc (.cells #[.slice a F.ni p, .slice b F.nn q, .slice c F.no r] 28)).alloc (.cells #[.slice none 0 0, .slice none 0 0, .slice none 0 0] 28) = wb) := ⟨_, rfl⟩
 have HB0 : Hid (Below w.heap.size w wb) := by rw [← HW.out]; exact jtwo (jlow _ _) (jlow _ _)
 have HVR : Hid (Vf wb (w.heap.size + 1) 28 #[.slice none 0 0, .slice none 0 0, .slice none 0 0]) := by rw [← HW.out]; exact Vf.new1 _ _ _ _
 have HMay := qa0 (fun (w2 : World) (hb : Below w.heap.size w w2) => qb1 (qbd w2 a b c p q r F (h.later hb)) hM)
 clear h hM
 obtain ⟨ni, inp, nn, nt, of, fc, no, out⟩ := F
 dsimp only at HMay HW ⊢
 go_enter Try.func22, Try.ntmps22
 go_wp2
 go_step3
 go_wp2_with (first
  | (go_at_call 34; rw [HW.out]; refine (HMay.out _ HB0.out).mono ?_; rintro e w1 ⟨rfl, hb1⟩; have HB1 := qa0 (jtwo HB0.out hb1); have HVR1 := qa0 (HVR.out.later hb1); clear hb1)
  | (refine qae rfl 28 _ _ rfl (w.heap.size + 1) _ #[.slice none 0 0, .slice none 0 0, .slice none 0 0] rfl rfl HVR1.out sizeFl rfl (qan _ _ _ _ _ _ _ _ _) ?_; intro w9 HV9 HG9))
 have d0 := HV9.out.cell 0 (.slice none 0 0) rfl
 have e1 := HV9.out.cell 1 (.slice none 0 0) rfl
 have e2 := HV9.out.cell 2 (.slice none 0 0) rfl
 try rw [Exit.noGoto_ret]
 refine bodyPost_ret (v := .tuple #[flv none 0 0 none 0 0 none 0 0, .int .i64 2]) (by simp [results, Try.results22, go_sem, d0, e1, e2]) rfl ?_
 exact ⟨rfl, qaj HB1.out HG9.out (by omega)⟩
end Go.Proofs.Ytkfnedpnkeacpaa
