/-
  The laws' parameters in the contracts' words: slices of ints; a place where a list of ints leaves its bounds.
-/
import Derived.Test.YtaoehildaenbnabSq
import Derived.Test.YtaoehildaenbnabSs
namespace Go.Proofs.Ytaoehildaenbnab
open Go.RowKit
theorem il_of_row (w : World) (a : Option Addr) (len cap : Nat) (zs : List Int)
    (h : (a = none ∧ len = 0 ∧ cap = 0 ∧ zs = []) ∨ ∃ x, a = some x ∧ len ≤ cap ∧ cap ≤ 140737488351232 ∧ zs.length = cap ∧ (∀ i, i < zs.length → w.cell? (x.add i) = some (.int .i64 (zs.getD i 0))) ∧ ∀ n ∈ zs, (Lit.int .i64 n).wf = true) :
    Il w a len (fun i => zs.getD i 0) ∧ len ≤ 140737488351232 := by
  rcases h with ⟨rfl, rfl, rfl, rfl⟩ | ⟨x, rfl, hl, hm, hz, hcell, _⟩
  · exact ⟨fun i hi => by omega, by omega⟩
  · refine ⟨?_, by omega⟩
    intro i hi
    have hc := hcell i (by omega)
    obtain ⟨b, off, spot⟩ := x
    have hspot : spot = none := by
      have h0 := hcell 0 (by omega)
      simpa [Addr.add] using World.cell?_spot h0
    subst hspot
    refine ⟨b, off, rfl, ?_⟩
    have hplain : (⟨b, off, none⟩ : Addr).add i = ⟨b, off + i, none⟩ := by unfold Addr.add; split <;> simp_all
    rw [hplain] at hc
    exact hc
/-- Either all of the first m keep P, or there is a first that does not. -/
theorem first_bad (P : Nat → Prop) (m : Nat) : (∀ i, i < m → P i) ∨ ∃ t, t < m ∧ (∀ i, i < t → P i) ∧ ¬ P t := by
  induction m with
  | zero => exact .inl fun i hi => by omega
  | succ k ih =>
    rcases ih with h | ⟨t, ht, h1, h2⟩
    · by_cases hk : P k
      · exact .inl fun i hi => by
          rcases Nat.lt_or_ge i k with h' | h'
          · exact h i h'
          · obtain rfl : i = k := by omega
            exact hk
      · exact .inr ⟨k, by omega, h, hk⟩
    · exact .inr ⟨t, by omega, h1, h2⟩
theorem Il.nat {w : World} {b : Option Addr} {m r : Nat} {q : Nat → Int} (h : Il w b m q) (hin : ∀ i, i < m → 0 ≤ q i ∧ q i < r) : ∃ z : Nat → Nat, Il w b m (fun i => (z i : Int)) ∧ ∀ i, i < m → z i < r := by
  refine ⟨fun i => (q i).toNat, fun i hi => ?_, fun i hi => by have := hin i hi; show (q i).toNat < r; omega⟩
  obtain ⟨x, o, e, hc⟩ := h i hi
  refine ⟨x, o, e, ?_⟩
  show _ = some (Value.int .i64 (((q i).toNat : Nat) : Int))
  rw [Int.toNat_of_nonneg (hin i hi).1]
  exact hc
theorem own_sl2 {w : World} {base n d : Nat} {s : Option Addr} {f : Nat → Nat} (h : w.ownsRow base 5 1 (.slice s n d) n (row n f).toList) (hf : ∀ i, i < n → f i < 256) : Sl w s n f := by
  obtain ⟨a, c, e, hs, _⟩ := own_sl h hf
  cases e
  exact hs
theorem pkf_lt {F z : Nat → Nat} {r c n m : Nat} (hF : ∀ i, i < n → F i < 256) (R : Rt r c n) (hz : ∀ i, i < m → z i < r) (p : Nat) (hp : p < m * c) : pkf F z c p < 256 := by
  have hc : 0 < c := by
    rcases Nat.eq_zero_or_pos c with rfl | h
    · simp at hp
    · exact h
  exact hF _ (R.at (hz _ (Nat.div_lt_of_lt_mul (by rw [Nat.mul_comm]; exact hp))) (Nat.mod_lt _ hc))
end Go.Proofs.Ytaoehildaenbnab
