/-
  Contracts of the matrices' reference: Same, Copy.
  The laws' parameters in the contracts' words: slices of ints; a place where a list of ints leaves its bounds.
-/
import Derived.Test.YtblagbghpfopcaaGreatQwwin00
import Derived.Test.YtblagbghpfopcaaGreatQwwin10
import Derived.Test.YtblagbghpfopcaaGreatQwwin09
set_option maxRecDepth 100000
set_option maxHeartbeats 16000000
namespace Go.Proofs.YtblagbghpfopcaaGreat
open Go.RowKit
theorem Il.nat {w : World} {b : Option Addr} {m r : Nat} {q : Nat → Int} (h : Il w b m q) (hin : ∀ i, i < m → 0 ≤ q i ∧ q i < r) : ∃ z : Nat → Nat, Il w b m (fun i => (z i : Int)) ∧ ∀ i, i < m → z i < r := by
 refine ⟨fun i => (q i).toNat, fun i hi => ?_, fun i hi => by have := hin i hi; show (q i).toNat < r; omega⟩
 obtain ⟨x, o, e, hc⟩ := h i hi
 refine ⟨x, o, e, ?_⟩
 show _ = some (Value.int .i64 (((q i).toNat : Nat) : Int))
 rw [Int.toNat_of_nonneg (hin i hi).1]
 exact hc
theorem qdh {w : World} {base n d : Nat} {s : Option Addr} {f : Nat → Nat} (h : w.ownsRow base 5 1 (.slice s n d) n (row n f).toList) (hf : ∀ i, i < n → f i < 256) : Sl w s n f := by
 obtain ⟨a, c, e, hs, _⟩ := ql1 h hf
 cases e
 exact hs
theorem qfa {F z : Nat → Nat} {r c n m : Nat} (hF : ∀ i, i < n → F i < 256) (R : Rt r c n) (hz : ∀ i, i < m → z i < r) (p : Nat) (hp : p < m * c) : pkf F z c p < 256 := by
 have hc : 0 < c := by
  rcases Nat.eq_zero_or_pos c with rfl | h
  ·simp at hp
  ·exact h
 exact hF _ (R.at (hz _ (Nat.div_lt_of_lt_mul (by rw [Nat.mul_comm]; exact hp))) (Nat.mod_lt _ hc))
end Go.Proofs.YtblagbghpfopcaaGreat
