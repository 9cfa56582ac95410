/-
  Stage 21: multiple.
-/
import Derived.Test.YtkfnedpnkeacpaaQrrns00
import Derived.Test.YtkfnedpnkeacpaaQrrns35
import Derived.Test.YtkfnedpnkeacpaaQrrns13
set_option maxRecDepth 100000
set_option maxHeartbeats 16000000
namespace Go.Proofs.Ytkfnedpnkeacpaa
open Go.RowKit
/-- So many times a block: the block itself, or a new one. -/
def MuA (w0 w : World) (a : Option Addr) (n c : Nat) (h : Nat → Nat) (e : Ending) : Prop := ∃ s k, e = .returned (.slice s n k) ∧ Sl w s n (fun i => fm c (h i)) ∧ (s = a ∨ From w0.heap.size s)
theorem qcj (w : World) (a : Option Addr) (n c ca : Nat) (h : Nat → Nat) (hc : c < 256) (ha : Sl w a n h) (hn : n ≤ 140737488351232) :
  Calls Try.prog 59 #[.int .u8 (c : Int), .slice a n ca] w fun e w' => MuA w w' a n c h e ∧ Below w.heap.size w w' := by
 obtain ⟨Q, HQ⟩ : ∃ Q : World → Ending → Prop, Hid ((fun w2 e => MuA w w2 a n c h e) = Q) := ⟨_, rfl⟩
 have HQ2 : Hid (∀ (w2 : World) s k, Sl w2 s n (fun i => fm c (h i)) → (s = a ∨ From w.heap.size s) → Q w2 (.returned (.slice s n k))) := fun w2 s k hs hf => by
  rw [← HQ.out]; exact ⟨s, k, rfl, hs, hf⟩
 show Calls _ _ _ _ fun e w' => (fun w2 e => MuA w w2 a n c h e) w' e ∧ _
 rw [HQ.out]
 have HS := qa0 ha
 have HC := qa0 (qcy w a n c ca h hc ha hn)
 have HL := qa0 (fun i (_ : i < n) => qax c (h i) hc)
 by_cases h1 : c = 1
 ·have HE : Hid (Q w (.returned (.slice a n ca))) := HQ2.out w a ca (ha.congr (fun i hi => by rw [h1, qbn _ (ha.1 i hi)])) (.inl rfl)
  subst h1
  clear ha HS HC HQ HQ2 HL
  go_enter Try.func59, Try.ntmps59
  go_wp2
  go_ret
  exact ⟨HE.out, Below.refl _ _⟩
 ·have g1 : ¬ (c : Int) = 1 := by omega
  have g2 : decide ((c : Int) = 1) = false := decide_eq_false g1
  have g3 : ((c : Int) == 1) = false := beq_eq_false_iff_ne.2 g1
  clear ha HS HQ
  go_enter Try.func59, Try.ntmps59
  go_wp2_with (first
   | (go_at_call 60; refine HC.out.mono ?_; rintro e w2 ⟨rfl, hs2, hb2⟩; have HS2 : Hid (Sl w2 (some ⟨w.heap.size, 0, none⟩) n (fun i => fm c (h i))) := hs2.sl HL.out; have HB2 : Hid (Below w.heap.size w w2) := hb2; clear hs2 hb2))
  go_ret
  exact ⟨HQ2.out _ _ _ HS2.out (.inr fun x hx => by cases hx; exact Nat.le_refl _), HB2.out⟩
end Go.Proofs.Ytkfnedpnkeacpaa
