/-
  Contracts of the matrices' reference: Of without rows; what fails in Of.
  Contracts of the matrices' reference: Same, Copy.
  What the laws about matrices ask: two answers, matrix and error, are alike.
  The laws' parameters in the contracts' words: slices of ints; a place where a list of ints leaves its bounds.
  Contracts of the program's matrices: isSide, hasRow, Right, noughts, piece, rowOf.
-/
import Derived.Test.YtkfnedpnkeacpaaQmmde00
import Derived.Test.YtkfnedpnkeacpaaQmmde11
import Derived.Test.YtkfnedpnkeacpaaQmmde10
set_option maxRecDepth 100000
set_option maxHeartbeats 16000000
namespace Go.Proofs.Ytkfnedpnkeacpaa
open Go.RowKit
theorem qe4 {r c : Int} {n : Nat} {f h : Nat → Nat} (e : ∀ i, i < n → f i = h i) : likeB r c r c n n f h = true := by
 unfold likeB sameB
 simp
 exact e
open Go.RowKit
theorem qcg (w : World) (n : Int) (h : 0 ≤ n ∧ n ≤ 64) :
  Calls Try.prog 46 #[.int .i64 n] w fun e w' => e = .returned (.bool true) ∧ w = w' := by
 have g1 : decide (0 ≤ n) = true := by simpa using h.1
 have g2 : decide (n ≤ 64) = true := by simpa using h.2
 clear h
 go_enter Try.func46, Try.ntmps46
 go_wp2
 go_ret
 exact ⟨rfl, rfl⟩
theorem qd5 (w : World) (n : Int) (h : ¬ (0 ≤ n ∧ n ≤ 64)) :
  Calls Try.prog 46 #[.int .i64 n] w fun e w' => e = .returned (.bool false) ∧ w = w' := by
 by_cases h1 : 0 ≤ n
 ·have g1 : decide (0 ≤ n) = true := by simpa using h1
  have g2 : decide (n ≤ 64) = false := by simp; omega
  clear h
  go_enter Try.func46, Try.ntmps46
  go_wp2
  go_ret
  exact ⟨rfl, rfl⟩
 ·have g1 : decide (0 ≤ n) = false := by simpa using h1
  clear h
  go_enter Try.func46, Try.ntmps46
  go_wp2
  go_ret
  exact ⟨rfl, rfl⟩
theorem qe5 (w : World) (r c i : Int) (a : Option Addr) (n k : Nat) (h : 0 ≤ i ∧ i < r) :
  Calls Try.prog 47 #[mv r c a n k, .int .i64 i] w fun e w' => e = .returned (.bool true) ∧ Below w.heap.size w w' := by
 have g1 : decide (0 ≤ i) = true := by simpa using h.1
 have g2 : decide (i < r) = true := by simpa using h.2
 clear h
 go_enter Try.func47, Try.ntmps47
 go_wp2
 go_ret
 exact ⟨rfl, qa2 _ _⟩
theorem qca (w : World) (r c : Int) (a : Option Addr) (n k : Nat) (h : RightP r c n) :
  Calls Try.prog 29 #[mv r c a n k] w fun e w' => e = .returned (.bool true) ∧ Below w.heap.size w w' := by
 obtain ⟨h1, h2, h3, h4, h5⟩ := h
 have hm := qbb h1 h2 h3 h4
 have hw : IntKind.i64.wrap (r * c) = r * c := by rw [IntKind.wrap_i64]; omega
 have g1 : decide (0 ≤ r) = true := by simpa using h1
 have g2 : decide (r ≤ 64) = true := by simpa using h2
 have g3 : decide (0 ≤ c) = true := by simpa using h3
 have g4 : decide (c ≤ 64) = true := by simpa using h4
 have g5 : ((n : Int) == r * c) = true := by simpa using h5
 clear h5 hm
 go_enter Try.func29, Try.ntmps29
 go_wp2
 go_ret
 exact ⟨rfl, qa2 _ _⟩
theorem qev (w : World) (r c : Int) (a : Option Addr) (n k : Nat) (h : ¬ RightP r c n) :
  Calls Try.prog 29 #[mv r c a n k] w fun e w' => e = .returned (.bool false) ∧ Below w.heap.size w w' := by
 by_cases h1 : 0 ≤ r
 ·by_cases h2 : r ≤ 64
  ·by_cases h3 : 0 ≤ c
   ·by_cases h4 : c ≤ 64
    ·have h5 : ¬ ((n : Int) = r * c) := fun e => h ⟨h1, h2, h3, h4, e⟩
     have hm := qbb h1 h2 h3 h4
     have hw : IntKind.i64.wrap (r * c) = r * c := by rw [IntKind.wrap_i64]; omega
     have g1 : decide (0 ≤ r) = true := by simpa using h1
     have g2 : decide (r ≤ 64) = true := by simpa using h2
     have g3 : decide (0 ≤ c) = true := by simpa using h3
     have g4 : decide (c ≤ 64) = true := by simpa using h4
     have g5 : ((n : Int) == r * c) = false := by simpa using h5
     clear h h5 hm
     go_enter Try.func29, Try.ntmps29
     go_wp2
     go_ret
     exact ⟨rfl, qa2 _ _⟩
    ·have g4 : decide (c ≤ 64) = false := by simpa using h4
     clear h
     go_enter Try.func29, Try.ntmps29
     go_wp2
     go_ret
     exact ⟨rfl, qa2 _ _⟩
   ·have g3 : decide (0 ≤ c) = false := by simpa using h3
    clear h
    go_enter Try.func29, Try.ntmps29
    go_wp2
    go_ret
    exact ⟨rfl, qa2 _ _⟩
  ·have g2 : decide (r ≤ 64) = false := by simpa using h2
   clear h
   go_enter Try.func29, Try.ntmps29
   go_wp2
   go_ret
   exact ⟨rfl, qa2 _ _⟩
 ·have g1 : decide (0 ≤ r) = false := by simpa using h1
  clear h
  go_enter Try.func29, Try.ntmps29
  go_wp2
  go_ret
  exact ⟨rfl, qa2 _ _⟩
theorem qcb (w : World) (r c n : Nat) (hr : r ≤ 64) (hc : c ≤ 64) (HN : Hid (r * c = n)) :
  Calls Try.prog 53 #[.int .i64 (r : Int), .int .i64 (c : Int)] w fun e w' => ∃ g, e = .returned (mv r c (some ⟨g, 0, none⟩) n n) ∧ RowAt w' g 5 n (fun _ => 0) ∧ w.heap.size ≤ g ∧ Below w.heap.size w w' := by
 obtain ⟨i0, hi, hz0, hz1, hz2⟩ := info_parts qbu
 have hn : n ≤ 4096 := by rw [← HN.out]; exact Nat.mul_le_mul hr hc
 have e1 : ((r : Int) * (c : Int)) = (n : Int) := by rw [← HN.out]; simp
 have hw : IntKind.i64.wrap (n : Int) = (n : Int) := by rw [IntKind.wrap_i64]; omega
 have hml : n ≤ maxLen := by unfold maxLen; omega
 go_enter Try.func53, Try.ntmps53
 go_wp2_with (first
  | (at_make; refine wpList_make_full _ rfl _ _ 22 rfl (w.heap.size + 1) 5 i0 (.int .u8 0) 1 Try.underlying22 hi hz0 hz1 .i64 .i64 _ _ n rfl rfl rfl rfl (by rw [hz2]; omega) hml (by simp) ?_; intro w1 hown hgrow; have HR : Hid (RowAt w1 (w.heap.size + 1) 5 n (fun _ => 0)) := by { show RowAt _ _ _ _ _; have := qem hown; simpa using this }; have HB : Hid (Below w.heap.size w w1) := qab (qa2 _ _) (qa7.mp hgrow); have HV : Hid (Vr w1 w.heap.size (.int .i64 0) (.int .i64 0) (.slice none 0 0)) := (Vr.new w _ _ _).later (qa7.mp hgrow); clear hown hgrow)
  | (refine qag rfl _ _ rfl w.heap.size _ _ _ (.int .i64 (r : Int)) (.int .i64 (c : Int)) (.slice (some ⟨w.heap.size + 1, 0, none⟩) n n) rfl rfl HV.out rfl rfl rfl ?_; intro w2 HV2 HG2))
 have c0 := HV2.out.c0
 have c1 := HV2.out.c1
 have c2 := HV2.out.c2
 refine bodyPost_ret (v := mv r c (some ⟨w.heap.size + 1, 0, none⟩) n n) (by simp [results, Try.results53, go_sem, c0, c1, c2, mv]) rfl ?_
 exact ⟨_, rfl, HR.out.kept HG2.out (by omega), by omega, qai HB.out HG2.out (Nat.le_refl _)⟩
/-- Where a piece of c elements begins that starts at place p. -/
def pc (a : Option Addr) (p c : Nat) : Option Addr := if c = 0 then a else a.map fun x => x.add p
theorem qew (w : World) (a : Option Addr) (n k c i p : Nat) (h0 : a = none → k = 0) (hk : n ≤ k) (hfit : p + c ≤ n) (hn : n ≤ 4096) (hi : i ≤ 4096) (HP : Hid (i * c = p)) (s : Option Addr) (HS : Hid (pc a p c = s)) :
  Calls Try.prog 57 #[.slice a n k, .int .i64 (c : Int), .int .i64 (i : Int)] w fun e w' => e = .returned (.slice s c c) ∧ w = w' := by
 have e1 : ((i : Int) * (c : Int)) = (p : Int) := by rw [← HP.out]; simp
 have e2 : (((i : Int) + 1) * (c : Int)) = ((p + c : Nat) : Int) := by rw [Int.add_mul, e1]; simp
 have w1 : IntKind.i64.wrap (p : Int) = (p : Int) := by rw [IntKind.wrap_i64]; omega
 have w3 : IntKind.i64.wrap ((i : Int) + 1) = (i : Int) + 1 := by rw [IntKind.wrap_i64]; omega
 obtain ⟨q, HQ⟩ : ∃ q, Hid (p + c = q) := ⟨_, rfl⟩
 rw [HQ.out] at e2
 have w2 : IntKind.i64.wrap (q : Int) = (q : Int) := by rw [IntKind.wrap_i64]; have := HQ.out; omega
 by_cases hc0 : c = 0
 ·subst hc0
  obtain rfl : p = q := by have := HQ.out; omega
  obtain rfl : a = s := by have := HS.out; simpa [pc] using this
  clear HS HQ
  go_enter Try.func57, Try.ntmps57
  go_wp2
  go_ret
  exact ⟨by simp, rfl⟩
 ·cases a with
  | none => have := h0 rfl; omega
  | some x =>
   obtain rfl : some (x.add p) = s := by have := HS.out; rw [← this]; unfold pc; rw [if_neg hc0]; rfl
   have hq := HQ.out
   have hpq : p < q := by omega
   have hqn : q ≤ k := by omega
   have hcq : q - p = c := by omega
   clear HS HQ h0
   go_enter Try.func57, Try.ntmps57
   go_wp2
   go_ret
   exact ⟨by simp, rfl⟩
end Go.Proofs.Ytkfnedpnkeacpaa
