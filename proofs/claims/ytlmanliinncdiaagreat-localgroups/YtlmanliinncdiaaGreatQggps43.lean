/-
  The document's answer: codes by their numbers: plain, Reed, Cross.
  The document's answer: codes of portions.
-/
import Derived.Test.YtlmanliinncdiaaGreatQggps00
import Derived.Test.YtlmanliinncdiaaGreatQggps42
set_option maxRecDepth 100000
set_option maxHeartbeats 16000000
namespace Go.Proofs.YtlmanliinncdiaaGreat
open Go.RowKit
theorem qin (K : IntKind) (k : Nat) (f : Nat → Nat) : (jrow K k f).toList ++ [.int K (f k : Nat)] = (jrow K (k + 1) f).toList := by simp [jrow, List.range_succ]
theorem qf7 {w : World} {B g n : Nat} {T : TypeId} {s : Nat} {v : Value} {xs : List Value} (h : w.ownsRow B T s v n xs) (hg : g < B) : v.ownBlock = none ∨ v.ownBlock ≠ some g := by
 cases e : v.ownBlock with
 | none => exact .inl rfl
 | some x => exact .inr (fun e2 => by have := qaa h x e; cases e2; omega)
theorem Vq.lowB {w w' : World} {b B : Nat} {T : TypeId} {xs : Array Value} (h : Vq w b T xs) (hb : Below B w w') (hlt : b < B) : Vq w' b T xs := by unfold Vq; rw [hb.block b hlt]; exact h
end Go.Proofs.YtlmanliinncdiaaGreat
