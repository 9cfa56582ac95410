/-
  The document's answer: codes by their numbers: plain, Reed, Cross.
  The document's answer: codes of portions.
-/
import Derived.Test.YtnfbbddoaeofgabGreatQlles00
import Derived.Test.YtnfbbddoaeofgabGreatQlles43
set_option maxRecDepth 100000
set_option maxHeartbeats 16000000
namespace Go.Proofs.YtnfbbddoaeofgabGreat
open Go.RowKit
theorem ptf_id {k l s q : Nat} {W X : Nat → Nat} (hq : q < k * k) : ptf k l s W X q = idf k q := if_pos hq
theorem qh6 {k l s p j : Nat} {W X : Nat → Nat} (hp : p < l) (hj : j < k) : ptf k l s W X ((k + p) * k + j) = if j / s = p then W j else 0 := by
 have h1 : k * k ≤ (k + p) * k := Nat.mul_le_mul_right k (by omega)
 have h2 : (k + p + 1) * k ≤ (k + l) * k := Nat.mul_le_mul_right k (by omega)
 rw [Nat.add_mul (k + p) 1 k, Nat.one_mul] at h2
 obtain ⟨e1, e2⟩ := qh0 (C := k) (q := (k + p) * k + j) (i := k + p) (by omega) (by omega) (by omega)
 unfold ptf
 rw [if_neg (by omega), if_pos (by omega), e1, e2, show (k + p) * k + j - (k + p) * k = j by omega, show k + p - k = p by omega]
theorem ptf_rest {k l s i j : Nat} {W X : Nat → Nat} : ptf k l s W X ((k + l) * k + i * k + j) = X (i * k + j) := by
 have h1 : k * k ≤ (k + l) * k := Nat.mul_le_mul_right k (by omega)
 unfold ptf
 rw [if_neg (by omega), if_neg (by omega)]
 congr 1
 omega
theorem qk7 (K : IntKind) (k : Nat) (f : Nat → Nat) : (jrow K k f).toList ++ [.int K (f k : Nat)] = (jrow K (k + 1) f).toList := by simp [jrow, List.range_succ]
theorem qg5 {w : World} {B g n : Nat} {T : TypeId} {s : Nat} {v : Value} {xs : List Value} (h : w.ownsRow B T s v n xs) (hg : g < B) : v.ownBlock = none ∨ v.ownBlock ≠ some g := by
 cases e : v.ownBlock with
 | none => exact .inl rfl
 | some x => exact .inr (fun e2 => by have := qaj h x e; cases e2; omega)
theorem Vq.lowB {w w' : World} {b B : Nat} {T : TypeId} {xs : Array Value} (h : Vq w b T xs) (hb : Below B w w') (hlt : b < B) : Vq w' b T xs := by unfold Vq; rw [hb.block b hlt]; exact h
end Go.Proofs.YtnfbbddoaeofgabGreat
