/-
  Stage 21: what comes out of a flow is its matrix, applied; the reference's Apply.
  Stage 21: what trimming leaves, as one; what comes out of it.
  Stage 21: the law of Less.
  Stage 21: the law of Applies.
  Stage 21: the flow of a matrix: it may be, and its matrix is the matrix; Of of one that is not right.
  Contracts of the program's matrices: combination, Mul.
  Contracts of the program's matrices: Mul's errors, Apply, Transpose.
  Contracts of the program's matrices: Transpose.
  Contracts of the program's matrices: Pick.
  Contracts of the program's matrices: ofRows, Of.
  Contracts of the program's matrices: Of.
  Contracts of the program's matrices: rowsOf.
  Contracts of the program's matrices: Stack.
  Contracts of the program's matrices: fillMultiples, Kron.
  The program's answers and the reference's, told alike: for each function what both answer.
  One product that the document fixes; what follows for products of matrices (grouped, transposed, applied, laid together); the program's answers by cases.
  Stage 21: the law of Back.
  Stage 21: the reference's Of.
  Stage 21: the reference's Of, of a matrix that is right.
  Stage 21: the law of Made.
-/
import Derived.Test.YtkfnedpnkeacpaaQffsh00
import Derived.Test.YtkfnedpnkeacpaaQffsh42
import Derived.Test.YtkfnedpnkeacpaaQffsh38
import Derived.Test.YtkfnedpnkeacpaaQffsh46
import Derived.Test.YtkfnedpnkeacpaaQffsh30
import Derived.Test.YtkfnedpnkeacpaaQffsh22
import Derived.Test.YtkfnedpnkeacpaaQffsh13
import Derived.Deep.RegionHeld3
import Derived.Test.YtkfnedpnkeacpaaQffsh07
set_option maxRecDepth 100000
set_option maxHeartbeats 16000000
namespace Go.Proofs.Ytkfnedpnkeacpaa
open Go.RowKit
theorem Rl.congr {w : World} {b : Option Addr} {m : Nat} {A : Nat → Option Addr} {L C : Nat → Nat} {f f' : Nat → Nat → Nat} (h : Rl w b m A L C f) (e : ∀ i, i < m → f i = f' i) : Rl w b m A L C f' :=
 ⟨h.at', fun i hi => by rw [← e i hi]; exact h.sl i hi, h.nil⟩
open Go.RowKit
theorem Rl.congr2 {w : World} {b : Option Addr} {m : Nat} {A : Nat → Option Addr} {L C : Nat → Nat} {f f' : Nat → Nat → Nat} (h : Rl w b m A L C f) (e : ∀ i j, i < m → j < L i → f i j = f' i j) : Rl w b m A L C f' :=
 ⟨h.at', fun i hi => (h.sl i hi).congr fun j hj => e i j hi hj, h.nil⟩
open Go.RowKit
theorem fof_bad (w : World) (r c : Int) (n k : Nat) (a : Option Addr) (hR : ¬ RightP r c n) :
  Calls Try.prog 9 #[mv r c a n k] w fun e w' => e = .returned (.tuple #[flv none 0 0 none 0 0 none 0 0, .int .i64 3]) ∧ Below w.heap.size w w' := by
 obtain ⟨wb, HW⟩ : ∃ wb, Hid ((w.alloc (.cells #[.int .i64 r, .int .i64 c, .slice a n k] 24)).alloc (.cells #[.slice none 0 0, .slice none 0 0, .slice none 0 0] 28) = wb) := ⟨_, rfl⟩
 have HB0 : Hid (Below w.heap.size w wb) := by rw [← HW.out]; exact jtwo (jlow _ _) (jlow _ _)
 have HVR : Hid (Vf wb (w.heap.size + 1) 28 #[.slice none 0 0, .slice none 0 0, .slice none 0 0]) := by rw [← HW.out]; exact Vf.new1 _ _ _ _
 have HRt := qa0 (fun (w2 : World) => qf4 w2 r c a n k hR)
 clear hR
 go_enter Try.func9, Try.ntmps9
 go_wp2_with (first
  | (go_at_call 29; rw [HW.out]; refine (HRt.out _).mono ?_; rintro e w1 ⟨rfl, hb1⟩; have HB1 := qa0 (jtwo HB0.out hb1); have HVR1 := qa0 (HVR.out.later hb1); clear hb1)
  | (refine qae rfl 28 _ _ rfl (w.heap.size + 1) _ #[.slice none 0 0, .slice none 0 0, .slice none 0 0] rfl rfl HVR1.out sizeFl rfl (qan _ _ _ _ _ _ _ _ _) ?_; intro w9 HV9 HG9))
 have d0 := HV9.out.cell 0 (.slice none 0 0) rfl
 have e1 := HV9.out.cell 1 (.slice none 0 0) rfl
 have e2 := HV9.out.cell 2 (.slice none 0 0) rfl
 refine bodyPost_ret (v := .tuple #[flv none 0 0 none 0 0 none 0 0, .int .i64 3]) (by simp [results, Try.results9, go_sem, d0, e1, e2]) rfl ?_
 exact ⟨rfl, qaj HB1.out HG9.out (by omega)⟩
open Go.RowKit
theorem Rt.turn {r c n : Nat} (h : Rt r c n) : Rt c r n := ⟨h.c64, h.r64, by rw [Nat.mul_comm]; exact h.len⟩
open Go.RowKit
theorem like_ans (w : World) (r c : Int) (a b : Option Addr) (n k d : Nat) (f h : Nat → Nat) (ha : Mt w a n k f) (hb : Mt w b n d h) (e : ∀ i, i < n → f i = h i) : Calls Try.prog 14 #[mv r c a n k, mv r c b n d] w fun e w' => e = .returned (.bool true) ∧ Below w.heap.size w w' := by
 have := qeb w r c r c a b n n k d f h ha.sl hb.sl
 rw [qed e] at this
 exact this
open Go.RowKit
theorem own_mt21 {w : World} {B n d : Nat} {s : Option Addr} {f : Nat → Nat} (h : w.ownsRow B 5 1 (.slice s n d) n (row n f).toList) (hf : ∀ i, i < n → f i < 256) : Mt w s n d f := by
 obtain ⟨s', d', e, hs, _⟩ := qbl h hf
 cases e
 refine ⟨hs, ?_, fun e => ?_⟩
 ·rcases h.2 with ⟨e1, e2⟩ | ⟨g2, cap, cur, e1, _, _, hcp, _⟩
  ·simp at e1; omega
  ·simp only [Value.slice.injEq] at e1; omega
 ·rcases h.2 with ⟨e1, e2⟩ | ⟨g2, cap, cur, e1, _⟩
  ·simp at e1; exact ⟨e2, e1.2.2⟩
  ·simp only [Value.slice.injEq] at e1; rw [e1.1] at e; cases e
end Go.Proofs.Ytkfnedpnkeacpaa
