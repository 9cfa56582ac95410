/-
  What echelon forms tell: of what is sent to b, of inverses, of the rows that are no combination of those above.
-/
import Derived.Test.YtnfbbddoaeofgaaGreatQssms00
import Derived.Test.YtnfbbddoaeofgaaGreatQssms27
import Derived.Test.YtnfbbddoaeofgaaGreatQssms29
set_option maxRecDepth 100000
set_option maxHeartbeats 16000000
namespace Go.Proofs.YtnfbbddoaeofgaaGreat
open Go.RowKit
/-- The matrix N beside M's first c columns. -/
def wd (M : Nat → Nat → Nat) (c : Nat) (N : Nat → Nat → Nat) (i j : Nat) : Nat := if j < c then M i j else N i (j - c)
theorem wd_el {M N : Nat → Nat → Nat} (hM : El2 M) (hN : El2 N) (c : Nat) : El2 (wd M c N) := fun i j => by unfold wd; split; exact hM _ _; exact hN _ _
theorem wd_l (M N : Nat → Nat → Nat) {c j : Nat} (i : Nat) (h : j < c) : wd M c N i j = M i j := if_pos h
theorem wd_r (M N : Nat → Nat → Nat) (c i j : Nat) : wd M c N i (c + j) = N i j := by unfold wd; rw [if_neg (by omega), Nat.add_sub_cancel_left]
/-- Reduced to the identity: what stood beside it is the inverse. -/
theorem qha {J M N : Nat → Nat → Nat} (_hJ : El2 J) (_hM : El2 M) {r : Nat} {p : Nat → Nat} (hN : ∀ i j, i < r → j < r → N i j = dl i j) (hS : SpEq J r (wd M r N) r) (hA : Asc J r r r p 0) : ∀ i j, i < r → j < r → pr M (fun t l => J t (r + l)) r i j = dl i j := by
 have hf := hA.rdf.full hA.ech.lt
 have hJd : ∀ t l, t < r → l < r → J t l = dl t l := fun t l ht hl => by rw [← qf0 J t hl]; exact hf t l ht hl
 intro i j hi hj
 obtain ⟨a, ha, e⟩ := hS.2 i hi
 have h1 : ∀ t, t < r → a t = M i t := fun t ht => by
  have := e t
  rw [wd_l M N i ht] at this
  rw [this]
  unfold lc
  rw [qas ht (fun s hs hne => by rw [hJd s t hs ht, qdi (fun e => hne e.symm), qaa]), hJd t t ht ht, qb6, qbh _ (ha t)]
 have h2 := e (r + j)
 rw [wd_r, hN i j hi hj] at h2
 rw [h2]
 exact qav (fun t ht => (h1 t ht).symm) (fun _ _ => rfl)
end Go.Proofs.YtnfbbddoaeofgaaGreat
