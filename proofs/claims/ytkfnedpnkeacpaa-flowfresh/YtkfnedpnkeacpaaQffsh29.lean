/-
  Stage 21: areEnough.
  Stage 21: multiple.
-/
import Derived.Test.YtkfnedpnkeacpaaQffsh00
import Derived.Test.YtkfnedpnkeacpaaQffsh18
import Derived.Test.YtkfnedpnkeacpaaQffsh04
set_option maxRecDepth 100000
set_option maxHeartbeats 16000000
namespace Go.Proofs.Ytkfnedpnkeacpaa
open Go.RowKit
/-- There is a block for each input. -/
def EnP (F : Fl) (n : Int) : Prop := F.ni = 0 ∨ F.inp (F.ni - 1) < n
theorem qd9 (w : World) (a b c : Option Addr) (p q r : Nat) (F : Fl) (h : FlR w a b c F) (n : Int) :
  Calls Try.prog 35 #[flv a F.ni p b F.nn q c F.no r, .int .i64 n] w fun e w' => AnsB e (EnP F n) ∧ Below w.heap.size w w' := by
 have hi := h.hi
 have HI := qa0 h.inp
 have HB := qa0 (jlow w (.cells #[.slice a F.ni p, .slice b F.nn q, .slice c F.no r] 28))
 obtain ⟨P, HP⟩ : ∃ P : Prop, Hid (EnP F n = P) := ⟨_, rfl⟩
 rw [HP.out]
 by_cases h0 : F.ni = 0
 ·have HE : Hid P := by rw [← HP.out]; exact .inl h0
  have g1 : decide ((F.ni : Int) = 0) = true := decide_eq_true (by omega)
  clear h HI HP
  obtain ⟨ni, inp, nn, nt, of, fc, no, out⟩ := F
  dsimp only at g1 HB hi h0 ⊢
  subst h0
  go_enter Try.func35, Try.ntmps35
  go_wp2
  go_ret
  exact ⟨AnsB.yes HE.out, HB.out⟩
 ·obtain ⟨x, o, rfl, hc⟩ := HI.out (F.ni - 1) (by omega)
  obtain ⟨k, HK⟩ : ∃ k, Hid (F.ni - 1 = k) := ⟨_, rfl⟩
  obtain ⟨z, HZ⟩ : ∃ z, Hid (F.inp k = z) := ⟨_, rfl⟩
  have g1 : ¬ (F.ni : Int) = 0 := by omega
  have g2 : decide ((F.ni : Int) = 0) = false := decide_eq_false g1
  have g4 : ((F.ni : Int) == 0) = false := beq_eq_false_iff_ne.2 g1
  have w1 : IntKind.i64.wrap ((F.ni : Int) - 1) = (k : Int) := by have := HK.out; rw [IntKind.wrap_i64]; omega
  have p0 : (0 : Int) ≤ (k : Int) := by omega
  have p1 : (k : Int) < (F.ni : Int) := by have := HK.out; omega
  rw [HK.out, HZ.out] at hc
  have hc2 := keepc (jlow w (.cells #[.slice (some ⟨x, o, none⟩) F.ni p, .slice b F.nn q, .slice c F.no r] 28)) hc
  by_cases hz : z < n
  ·have HE : Hid P := by rw [← HP.out]; exact .inr (by rw [HK.out, HZ.out]; exact hz)
   have g3 : decide (z < n) = true := decide_eq_true hz
   clear h HI HP HK HZ
   obtain ⟨ni, inp, nn, nt, of, fc, no, out⟩ := F
   dsimp only at g1 g2 g4 w1 p1 hc hc2 HB hi h0 ⊢
   go_enter Try.func35, Try.ntmps35
   go_wp2
   go_ret
   exact ⟨AnsB.yes HE.out, HB.out⟩
  ·have HE : Hid (¬ P) := by rw [← HP.out]; exact fun e => e.elim h0 (fun e => hz (by rw [HK.out, HZ.out] at e; exact e))
   have g3 : decide (z < n) = false := decide_eq_false hz
   clear h HI HP HK HZ
   obtain ⟨ni, inp, nn, nt, of, fc, no, out⟩ := F
   dsimp only at g1 g2 g4 w1 p1 hc hc2 HB hi h0 ⊢
   go_enter Try.func35, Try.ntmps35
   go_wp2
   go_ret
   exact ⟨AnsB.no HE.out, HB.out⟩
open Go.RowKit
/-- So many times a block: the block itself, or a new one. -/
def MuA (w0 w : World) (a : Option Addr) (n c : Nat) (h : Nat → Nat) (e : Ending) : Prop := ∃ s k, e = .returned (.slice s n k) ∧ Sl w s n (fun i => fm c (h i)) ∧ (s = a ∨ From w0.heap.size s)
theorem qeh (w : World) (a : Option Addr) (n c ca : Nat) (h : Nat → Nat) (hc : c < 256) (ha : Sl w a n h) (hn : n ≤ 140737488351232) :
  Calls Try.prog 59 #[.int .u8 (c : Int), .slice a n ca] w fun e w' => MuA w w' a n c h e ∧ Below w.heap.size w w' := by
 obtain ⟨Q, HQ⟩ : ∃ Q : World → Ending → Prop, Hid ((fun w2 e => MuA w w2 a n c h e) = Q) := ⟨_, rfl⟩
 have HQ2 : Hid (∀ (w2 : World) s k, Sl w2 s n (fun i => fm c (h i)) → (s = a ∨ From w.heap.size s) → Q w2 (.returned (.slice s n k))) := fun w2 s k hs hf => by
  rw [← HQ.out]; exact ⟨s, k, rfl, hs, hf⟩
 show Calls _ _ _ _ fun e w' => (fun w2 e => MuA w w2 a n c h e) w' e ∧ _
 rw [HQ.out]
 have HS := qa0 ha
 have HC := qa0 (qew w a n c ca h hc ha hn)
 have HL := qa0 (fun i (_ : i < n) => qch c (h i) hc)
 by_cases h1 : c = 1
 ·have HE : Hid (Q w (.returned (.slice a n ca))) := HQ2.out w a ca (ha.congr (fun i hi => by rw [h1, qdg _ (ha.1 i hi)])) (.inl rfl)
  subst h1
  clear ha HS HC HQ HQ2 HL
  go_enter Try.func59, Try.ntmps59
  go_wp2
  go_ret
  exact ⟨HE.out, Below.refl _ _⟩
 ·have g1 : ¬ (c : Int) = 1 := by omega
  have g2 : decide ((c : Int) = 1) = false := decide_eq_false g1
  have g3 : ((c : Int) == 1) = false := beq_eq_false_iff_ne.2 g1
  clear ha HS HQ
  go_enter Try.func59, Try.ntmps59
  go_wp2_with (first
   | (go_at_call 60; refine HC.out.mono ?_; rintro e w2 ⟨rfl, hs2, hb2⟩; have HS2 : Hid (Sl w2 (some ⟨w.heap.size, 0, none⟩) n (fun i => fm c (h i))) := hs2.sl HL.out; have HB2 : Hid (Below w.heap.size w w2) := hb2; clear hs2 hb2))
  go_ret
  exact ⟨HQ2.out _ _ _ HS2.out (.inr fun x hx => by cases hx; exact Nat.le_refl _), HB2.out⟩
end Go.Proofs.Ytkfnedpnkeacpaa
