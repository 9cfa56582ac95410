/-
  From what a law's shell tells of a slice that came in to what the contracts ask.
-/
import Derived.Test.YtkfnedpnkeacpaaQllss00
import Derived.Test.YtkfnedpnkeacpaaQllss08
set_option maxRecDepth 100000
set_option maxHeartbeats 16000000
namespace Go.Proofs.Ytkfnedpnkeacpaa
open Go.RowKit
theorem qen (w : World) (a : Option Addr) (len cap : Nat) (zs : List Int)
  (h : (a = none ∧ len = 0 ∧ cap = 0 ∧ zs = []) ∨ ∃ x, a = some x ∧ len ≤ cap ∧ cap ≤ 140737488351232 ∧ zs.length = cap ∧ (∀ i, i < zs.length → w.cell? (x.add i) = some (.int .u8 (zs.getD i 0))) ∧ ∀ n ∈ zs, (Lit.int .u8 n).wf = true) :
  ∃ f : Nat → Nat, Sl w a len f ∧ len ≤ 140737488351232 ∧ (a = none → len = 0 ∧ cap = 0) := by
 rcases h with ⟨rfl, rfl, rfl, rfl⟩ | ⟨x, rfl, hl, hm, hz, hcell, hwz⟩
 ·exact ⟨fun _ => 0, Sl.nil _ _ _, by omega, fun _ => ⟨rfl, rfl⟩⟩
 ·refine ⟨fun i => (zs.getD i 0).toNat, ⟨?_, ?_⟩, by omega, fun h => by cases h⟩
  ·intro i hi
   have hi' : i < zs.length := by omega
   have := byte_of_wf (hwz zs[i] (List.getElem_mem hi'))
   have hb := byte_toNat this
   simpa [List.getD, hi'] using hb
  ·intro i hi
   have hi' : i < zs.length := by omega
   have hc := hcell i hi'
   obtain ⟨b, off, spot⟩ := x
   have hspot : spot = none := by
    have h0 := hcell 0 (by omega)
    simpa [Addr.add] using World.cell?_spot h0
   subst hspot
   refine ⟨b, off, rfl, ?_⟩
   have hplain : (⟨b, off, none⟩ : Addr).add i = ⟨b, off + i, none⟩ := by unfold Addr.add; split <;> simp_all
   rw [hplain] at hc
   rw [hc]
   have hw := byte_of_wf (hwz zs[i] (List.getElem_mem hi'))
   have e : zs.getD i 0 = zs[i] := by simp [List.getD, hi']
   have hw0 := hw.1
   simp only [e]
   congr 2
   omega
/-! ### The calls, told by what their answers read as -/
theorem same_at (w : World) (a b : Option Addr) (n c d : Nat) (f : Nat → Nat) (ha : Sl w a n f) (hb : Sl w b n f) :
  Calls Try.prog 28 #[.slice a n c, .slice b n d] w fun e w' => e = .returned (.bool true) ∧ w = w' :=
 (qek w a b n c d f ha hb).mono fun _ _ h => ⟨h.1, h.2.symm⟩
end Go.Proofs.Ytkfnedpnkeacpaa
