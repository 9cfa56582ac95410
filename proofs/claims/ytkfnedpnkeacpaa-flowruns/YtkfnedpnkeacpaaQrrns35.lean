/-
  Stage 21: areEnough.
-/
import Derived.Test.YtkfnedpnkeacpaaQrrns00
import Derived.Test.YtkfnedpnkeacpaaQrrns27
set_option maxRecDepth 100000
set_option maxHeartbeats 16000000
namespace Go.Proofs.Ytkfnedpnkeacpaa
open Go.RowKit
/-- There is a block for each input. -/
def EnP (F : Fl) (n : Int) : Prop := F.ni = 0 ∨ F.inp (F.ni - 1) < n
theorem qbi (w : World) (a b c : Option Addr) (p q r : Nat) (F : Fl) (h : FlR w a b c F) (n : Int) :
  Calls Try.prog 35 #[flv a F.ni p b F.nn q c F.no r, .int .i64 n] w fun e w' => AnsB e (EnP F n) ∧ Below w.heap.size w w' := by
 have hi := h.hi
 have HI := qa0 h.inp
 have HB := qa0 (jlow w (.cells #[.slice a F.ni p, .slice b F.nn q, .slice c F.no r] 28))
 obtain ⟨P, HP⟩ : ∃ P : Prop, Hid (EnP F n = P) := ⟨_, rfl⟩
 rw [HP.out]
 by_cases h0 : F.ni = 0
 ·have HE : Hid P := by rw [← HP.out]; exact .inl h0
  have g1 : decide ((F.ni : Int) = 0) = true := decide_eq_true (by omega)
  clear h HI HP
  obtain ⟨ni, inp, nn, nt, of, fc, no, out⟩ := F
  dsimp only at g1 HB hi h0 ⊢
  subst h0
  go_enter Try.func35, Try.ntmps35
  go_wp2
  go_ret
  exact ⟨AnsB.yes HE.out, HB.out⟩
 ·obtain ⟨x, o, rfl, hc⟩ := HI.out (F.ni - 1) (by omega)
  obtain ⟨k, HK⟩ : ∃ k, Hid (F.ni - 1 = k) := ⟨_, rfl⟩
  obtain ⟨z, HZ⟩ : ∃ z, Hid (F.inp k = z) := ⟨_, rfl⟩
  have g1 : ¬ (F.ni : Int) = 0 := by omega
  have g2 : decide ((F.ni : Int) = 0) = false := decide_eq_false g1
  have g4 : ((F.ni : Int) == 0) = false := beq_eq_false_iff_ne.2 g1
  have w1 : IntKind.i64.wrap ((F.ni : Int) - 1) = (k : Int) := by have := HK.out; rw [IntKind.wrap_i64]; omega
  have p0 : (0 : Int) ≤ (k : Int) := by omega
  have p1 : (k : Int) < (F.ni : Int) := by have := HK.out; omega
  rw [HK.out, HZ.out] at hc
  have hc2 := keepc (jlow w (.cells #[.slice (some ⟨x, o, none⟩) F.ni p, .slice b F.nn q, .slice c F.no r] 28)) hc
  by_cases hz : z < n
  ·have HE : Hid P := by rw [← HP.out]; exact .inr (by rw [HK.out, HZ.out]; exact hz)
   have g3 : decide (z < n) = true := decide_eq_true hz
   clear h HI HP HK HZ
   obtain ⟨ni, inp, nn, nt, of, fc, no, out⟩ := F
   dsimp only at g1 g2 g4 w1 p1 hc hc2 HB hi h0 ⊢
   go_enter Try.func35, Try.ntmps35
   go_wp2
   go_ret
   exact ⟨AnsB.yes HE.out, HB.out⟩
  ·have HE : Hid (¬ P) := by rw [← HP.out]; exact fun e => e.elim h0 (fun e => hz (by rw [HK.out, HZ.out] at e; exact e))
   have g3 : decide (z < n) = false := decide_eq_false hz
   clear h HI HP HK HZ
   obtain ⟨ni, inp, nn, nt, of, fc, no, out⟩ := F
   dsimp only at g1 g2 g4 w1 p1 hc hc2 HB hi h0 ⊢
   go_enter Try.func35, Try.ntmps35
   go_wp2
   go_ret
   exact ⟨AnsB.no HE.out, HB.out⟩
end Go.Proofs.Ytkfnedpnkeacpaa
