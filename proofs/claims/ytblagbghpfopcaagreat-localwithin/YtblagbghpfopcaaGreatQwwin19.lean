/-
  The reference's Next: what its loop knows; of.
  Contract of the reference's Next.
  Contracts of the reference's Place and At.
  The reference's All; All's function value.
-/
import Derived.Test.YtblagbghpfopcaaGreatQwwin00
import Derived.Test.YtblagbghpfopcaaGreatQwwin18
import Derived.RangeFuncNested
import Derived.RangeFuncBound
import Derived.RangeFuncCalls
import Derived.RangeFuncLeaves
import Derived.Shelf.Abstract
import Derived.Shelf.RegionOpen
import Derived.WalkKit
import Derived.OwnWalkIn
import Derived.TacticsInMore
import Derived.LoopNIn
import Derived.LoopIn
set_option maxRecDepth 100000
set_option maxHeartbeats 16000000
namespace Go.Proofs.YtblagbghpfopcaaGreat
open Go.RowKit
theorem NxI.down {s n a c : Nat} : ∀ {b : Nat}, NxI s n b c → a ≤ b → b ≤ n → cn s a = cn s b → NxI s n a c := by
 intro b
 induction b with
 | zero => intro I h _ _; obtain rfl : a = 0 := (by omega); exact I
 | succ b ih =>
  intro I h hb e
  by_cases ha : a = b + 1
  ·rw [ha]; exact I
  ·have h1 := qbq (s := s) (show a ≤ b by omega)
   have h2 := qai b s
   have h3 : bt s b = 0 := by omega
   exact ih (I.skip (by omega) h3) (by omega) (by omega) (by omega)
/-- Behind the number at place j - 1. -/
def pj (s n j : Nat) : Nat := if j = 0 then 0 else lf s n (j - 1) + 1
theorem qhh {s n : Nat} (hs : s < 18446744073709551616) (hn : n ≤ 64) : s &&& (18446744073709551615 - (2 ^ n - 1)) = 2 ^ n * (s / 2 ^ n) := by
 have h1 := Nat.two_pow_pos n
 have h2 : (18446744073709551616 : Nat) = 2 ^ n * 2 ^ (64 - n) := by rw [← Nat.pow_add, show n + (64 - n) = 64 by omega]
 have h3 := Nat.two_pow_pos (64 - n)
 have h4 : 18446744073709551615 - (2 ^ n - 1) = 2 ^ n * (2 ^ (64 - n) - 1) := by
  rw [Nat.mul_sub, ← h2]
  omega
 have h5 := qg3 n s (18446744073709551615 - (2 ^ n - 1))
 rw [h4, Nat.mul_mod_right, Nat.and_zero, Nat.mul_div_cancel_left _ h1, Nat.and_two_pow_sub_one_eq_mod, Nat.zero_add] at h5
 rw [h4, h5, Nat.mod_eq_of_lt]
 rw [Nat.div_lt_iff_lt_mul h1, Nat.mul_comm, ← h2]
 exact hs
theorem qin {s n A : Nat} (hs : s < 18446744073709551616) (hn : n ≤ 64) (hA : 2 ^ n - 1 = A) : ∃ z : Nat, bits .andNot .u64 (s : Int) (A : Int) = (z : Int) ∧ (z = 0 ↔ s < 2 ^ n) := by
 have h1 := qem hn
 have h2 := Nat.two_pow_pos n
 refine ⟨2 ^ n * (s / 2 ^ n), ?_, ?_⟩
 ·rw [u64_andNot_nat s A hs (by omega), ← hA, qhh hs hn]
 ·constructor
  ·intro h
   rcases Nat.mul_eq_zero.1 h with h3 | h3
   ·omega
   ·apply Classical.byContradiction
    intro hn
    have := Nat.div_pos (Nat.le_of_not_lt hn) h2
    omega
  ·intro h
   rw [Nat.div_eq_of_lt h, Nat.mul_zero]
theorem qm8 {s n : Nat} (hn : n ≤ 64) (h : s < 2 ^ n) (t : Nat) : lf s 64 t = lf s n t := by
 have h1 := (qe7 (s := s) (i := n) (64 - n) h).2 t
 rwa [show n + (64 - n) = 64 by omega] at h1
open Go.RowKit
theorem Jo.set {w : World} {B n d g : Nat} {T : TypeId} {K : IntKind} {f : Nat → Nat} (h : Jo w B T K (.slice (some ⟨g, 0, none⟩) n d) n f) (j v : Nat) : Jo (w.setCell ⟨g, j, none⟩ (.int K (v : Int))) B T K (.slice (some ⟨g, 0, none⟩) n d) n (fun i => if i = j then v else f i) := by
 have := (World.ownsRow.stored h j (.int K (v : Int))).1
 unfold Jo
 rw [← qhx, Array.toList_setIfInBounds]
 exact this
open Go.RowKit
theorem qiy (n k : Int) (w : World) :
  Calls Tryz.prog 77 #[.int .i64 n, .int .i64 k] w fun e w' => e = .returned (.func (.func 94) #[] #[.pointer (some ⟨w.heap.size, 0, none⟩), .pointer (some ⟨w.heap.size + 1, 0, none⟩)]) ∧ w'.cell? ⟨w.heap.size, 0, none⟩ = some (.int .i64 n) ∧ w'.cell? ⟨w.heap.size + 1, 0, none⟩ = some (.int .i64 k) ∧ w'.heap.size = w.heap.size + 2 ∧ Below w.heap.size w w' := by
 go_enter Tryz.func77, Tryz.ntmps77
 go_wp2
 go_ret
 refine ⟨rfl, ?_, ?_, by simp, jtwo (jlow _ _) (jlow _ _)⟩
 ·rw [cell_of_row _ _ 0 _ _ _ (heap_alloc2_old w (.cells #[.int .i64 n] 3) (.cells #[.int .i64 k] 3))]; rfl
 ·rw [cell_of_row _ _ 0 _ _ _ (heap_alloc2_new w (.cells #[.int .i64 n] 3) (.cells #[.int .i64 k] 3))]; rfl
end Go.Proofs.YtblagbghpfopcaaGreat
