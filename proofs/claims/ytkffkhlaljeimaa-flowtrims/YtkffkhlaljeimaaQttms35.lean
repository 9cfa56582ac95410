/-
  Stage 21: numbers that have a property, in order; usedColumns.
-/
import Derived.Test.YtkffkhlaljeimaaQttms00
import Derived.Test.YtkffkhlaljeimaaQttms29
import Derived.Test.YtkffkhlaljeimaaQttms34
set_option maxRecDepth 100000
set_option maxHeartbeats 16000000
namespace Go.Proofs.Ytkffkhlaljeimaa
open Go.RowKit
/-- f lists the numbers below j that have P, in order; there are n. -/
structure En (P : Nat → Prop) (j n : Nat) (f : Nat → Nat) : Prop where
 lt : ∀ i, i < n → f i < j
 has : ∀ i, i < n → P (f i)
 up : ∀ i k, i < k → k < n → f i < f k
 all : ∀ x, x < j → P x → ∃ i, i < n ∧ f i = x
theorem En.nil (P : Nat → Prop) (f : Nat → Nat) : En P 0 0 f := ⟨fun i h => by omega, fun i h => by omega, fun i k _ h => by omega, fun x h => by omega⟩
theorem En.yes {P : Nat → Prop} {j n : Nat} {f : Nat → Nat} (h : En P j n f) (hj : P j) : En P (j + 1) (n + 1) (fun i => if i = n then j else f i) := by
 refine ⟨fun i hi => ?_, fun i hi => ?_, fun i k hik hk => ?_, fun x hx hP => ?_⟩
 ·show (if i = n then j else f i) < _
  by_cases e : i = n
  ·rw [if_pos e]; omega
  ·rw [if_neg e]; have := h.lt i (by omega); omega
 ·show P (if i = n then j else f i)
  by_cases e : i = n
  ·rw [if_pos e]; exact hj
  ·rw [if_neg e]; exact h.has i (by omega)
 ·show (if i = n then j else f i) < (if k = n then j else f k)
  rw [if_neg (by omega : ¬ i = n)]
  by_cases e : k = n
  ·rw [if_pos e]; exact h.lt i (by omega)
  ·rw [if_neg e]; exact h.up i k hik (by omega)
 ·by_cases e : x = j
  ·exact ⟨n, by omega, by show (if n = n then j else f n) = x; rw [if_pos rfl, e]⟩
  ·obtain ⟨i, hi, hf⟩ := h.all x (by omega) hP
   exact ⟨i, by omega, by show (if i = n then j else f i) = x; rw [if_neg (by omega), hf]⟩
theorem En.no {P : Nat → Prop} {j n : Nat} {f : Nat → Nat} (h : En P j n f) (hj : ¬ P j) : En P (j + 1) n f :=
 ⟨fun i hi => by have := h.lt i hi; omega, h.has, h.up, fun x hx hP => h.all x (by
  by_cases e : x = j
  ·exact absurd (e ▸ hP) hj
  ·omega) hP⟩
theorem En.congr {P : Nat → Prop} {j n : Nat} {f g : Nat → Nat} (h : En P j n f) (e : ∀ i, i < n → f i = g i) : En P j n g :=
 ⟨fun i hi => by rw [← e i hi]; exact h.lt i hi, fun i hi => by rw [← e i hi]; exact h.has i hi, fun i k hik hk => by rw [← e i (by omega), ← e k hk]; exact h.up i k hik hk, fun x hx hP => by
  obtain ⟨i, hi, hf⟩ := h.all x hx hP
  exact ⟨i, hi, by rw [← e i hi]; exact hf⟩⟩
theorem En.iff {P Q : Nat → Prop} {j n : Nat} {f : Nat → Nat} (h : En P j n f) (e : ∀ x, x < j → (P x ↔ Q x)) : En Q j n f :=
 ⟨h.lt, fun i hi => (e _ (h.lt i hi)).1 (h.has i hi), h.up, fun x hx hQ => h.all x hx ((e x hx).2 hQ)⟩
theorem En.ge {P : Nat → Prop} {j n : Nat} {f : Nat → Nat} (h : En P j n f) : ∀ i, i < n → i ≤ f i := by
 intro i
 induction i with
 | zero => intro _; omega
 | succ i ih => intro hi; have := ih (by omega); have := h.up i (i + 1) (by omega) hi; omega
theorem En.le {P : Nat → Prop} {j n : Nat} {f : Nat → Nat} (h : En P j n f) : n ≤ j := by
 by_cases h0 : n = 0
 ·omega
 ·have h1 := h.ge (n - 1) (by omega)
  have h2 := h.lt (n - 1) (by omega)
  omega
theorem En.same {P : Nat → Prop} {j n m : Nat} {f g : Nat → Nat} (h : En P j n f) (k : En P j m g) : ∀ i, i < n → i < m ∧ f i = g i := by
 intro i
 induction i using Nat.strongRecOn with
 | ind i ih =>
  intro hi
  obtain ⟨a, ha, ea⟩ := k.all (f i) (h.lt i hi) (h.has i hi)
  have hia : i ≤ a := by
   by_cases hlt : a < i
   ·have h1 := (ih a hlt (by omega)).2
    have h2 := h.up a i hlt hi
    omega
   ·omega
  have him : i < m := by omega
  refine ⟨him, ?_⟩
  obtain ⟨b, hb, eb⟩ := h.all (g i) (k.lt i him) (k.has i him)
  have hib : i ≤ b := by
   by_cases hlt : b < i
   ·have h1 := (ih b hlt (by omega)).2
    have h2 := k.up b i hlt him
    omega
   ·omega
  by_cases e1 : a = i
  ·rw [← ea, e1]
  ·have h1 := k.up i a (by omega) ha
   by_cases e2 : b = i
   ·rw [← eb, e2]
   ·have h2 := h.up i b (by omega) hb
    omega
theorem En.one {P : Nat → Prop} {j n m : Nat} {f g : Nat → Nat} (h : En P j n f) (k : En P j m g) : n = m ∧ ∀ i, i < n → f i = g i := by
 refine ⟨?_, fun i hi => (h.same k i hi).2⟩
 by_cases e : n < m
 ·have := (k.same h n e).1; omega
 ·by_cases e2 : m < n
  ·have := (h.same k m e2).1; omega
  ·omega
theorem qbp {w w2 : World} {B n : Nat} {T : TypeId} {K : IntKind} {v v' : Value} {f : Nat → Nat} {x : Nat} {o : Obj} (h : Jo w B T K v n f) (hB : B ≤ w.heap.size)
  (hown : w2.ownsRow B T 1 v' (n + 1) ((jrow K n f).toList ++ [.int K (x : Int)])) (hg : (w.alloc o).grownBy w2 v.ownBlock) : Jo w2 B T K v' (n + 1) (fun i => if i = n then x else f i) ∧ Below B w w2 := by
 refine ⟨?_, ?_⟩
 ·unfold Jo
  rw [← qbk]
  exact hown
 ·have h1 : Below B w (w.alloc o) := (jlow w o).mono hB
  exact h1.trans (jbelow hg (by have := (jlow w o).size; omega) (fun g hg' => (h.base hg').1))
end Go.Proofs.Ytkffkhlaljeimaa
