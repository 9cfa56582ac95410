/-
  Words for the reference's wide: the elimination in place, of up to 65 columns.
  Contract of the reference: wide.
  Words for the reference's Solve.
  Contract of the reference: Solve.
  Contracts of the reference: Kernel's and Solve's errors; Solve where there is something, and where there is nothing; words for Combine.
  Contract of the reference: Combine.
  Contract of the reference: Inverse.
  Contracts of the reference: Inverse's and Combine's errors; the laws' ints.
-/
import Derived.Test.YtlmanliinncdiaaGreatQggps00
import Derived.Test.YtlmanliinncdiaaGreatQggps24
set_option maxRecDepth 100000
set_option maxHeartbeats 16000000
namespace Go.Proofs.YtlmanliinncdiaaGreat
open Go.RowKit
theorem qgq (F : Nat → Nat) {q : Nat → Nat} {r c t : Nat} (hq : ∀ u, u < t → q u < r) (j u : Nat) (hj : j < c) (hu : u < t) : m2 (trf (pkf F q c) t c) c t j u = m2 F r c (q u) j := by
 rw [qb6 _ hj hu, trf_at _ t c u j hu, qdk _ _ _ _ _ hj, qb6 _ (hq u hu) hj]
open Go.RowKit
theorem own_mt4 {w : World} {base n d : Nat} {s : Option Addr} {f : Nat → Nat} (h : w.ownsRow base 5 1 (.slice s n d) n (row n f).toList) (hf : ∀ i, i < n → f i < 256) : Mt w s n d f := by
 refine ⟨qcj h hf, ?_, qbq h⟩
 rcases h.2 with ⟨e, h0⟩ | ⟨g, cap, cur, e, _, _, hc, _⟩
 ·cases e; omega
 ·cases e; omega
open Go.RowKit
/-- As many rows as the rank: they are independent. -/
theorem Rk.ind {M : Nat → Nat → Nat} (hM : El2 M) {r : Nat} (h : Rk M r r) : Ind M r := by
 intro a ha hz i hi
 apply Classical.byContradiction
 intro hne
 obtain ⟨r, rfl⟩ : ∃ r', r = r' + 1 := ⟨r - 1, by omega⟩
 have hle : Le M (r + 1) (fun u => M (sk i u)) r := by
  have hE : El2 (fun u => M (sk i u)) := fun u j => hM _ j
  intro t ht
  by_cases e : t = i
  ·subst e
   have hv := qad (a t)
   refine (qas hv ⟨fun u => a (sk t u), fun u => ha _, fun _ => rfl⟩ : Spn (fun u => M (sk t u)) r (fun j => fm (finv (a t)) (lc (fun u => a (sk t u)) (fun u => M (sk t u)) r j))).congr (fun j => ?_)
   have e1 := hz j
   rw [qh8 (k := t) _ _ (by omega)] at e1
   have e2 := qh9 e1
   rw [← e2, ← qag _ _ _ hv (ha t), qac _ _ hv (ha t), qak _ (ha t) hne, qap _ (hM t j)]
  ·obtain ⟨u, hu, e2⟩ : ∃ u, u < r ∧ sk i u = t := by
    by_cases h1 : t < i
    ·exact ⟨t, by omega, by unfold sk; rw [if_pos h1]⟩
    ·exact ⟨t - 1, by omega, by unfold sk; rw [if_neg (by omega)]; omega⟩
   rw [← e2]
   exact qa6 hE hu
 have := h.le hle
 omega
end Go.Proofs.YtlmanliinncdiaaGreat
