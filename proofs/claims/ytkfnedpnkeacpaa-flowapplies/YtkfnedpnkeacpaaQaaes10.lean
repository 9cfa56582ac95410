/-
  Contracts of the reference's Copy and Spoil.
-/
import Derived.Test.YtkfnedpnkeacpaaQaaes00
import Derived.Test.YtkfnedpnkeacpaaQaaes09
import Derived.Laws.AppendOwnNone
set_option maxRecDepth 100000
set_option maxHeartbeats 16000000
namespace Go.Proofs.Ytkfnedpnkeacpaa
open Go.RowKit
theorem qbc {w w1 : World} {n : Nat} {f : Nat → Nat} {ad : Addr} (ha : Sl w (some ad) n f) (hb : Below w.heap.size w w1) : ∀ j u, (row n f).toList[j]? = some u → w1.cell? (ad.add j) = some u := by
 intro j v hj
 obtain ⟨hjn, rfl⟩ := qba n f j v hj
 obtain ⟨b', o', e', hc⟩ := (ha.later hb).2 j hjn
 cases e'
 have hplain : (⟨b', o', none⟩ : Addr).add j = ⟨b', o' + j, none⟩ := by unfold Addr.add; split <;> simp_all
 rw [hplain]
 exact hc
theorem qbd (n : Nat) (f : Nat → Nat) : ∀ u ∈ (row n f).toList, u.oneCell' = true := by
 intro v hv
 obtain ⟨j, hj⟩ := List.getElem?_of_mem hv
 rw [(qba n f j v hj).2]; rfl
/-- What stays behind a Spoil of another block. -/
theorem Sl.beside {w w' : World} {a : Option Addr} {n : Nat} {f : Nat → Nat} {g : Nat} (h : Sl w a n f) (hg : w.grownBy w' (some g)) (ho : 0 < n → Off g a) : Sl w' a n f := by
 by_cases hn : 0 < n
 ·exact h.kept hg (ho hn)
 ·obtain rfl : n = 0 := by omega
  exact Sl.nil _ _ _
theorem qaf {w w1 w2 : World} {g : Nat} (h : Below w.heap.size w w1) (hg : w1.grownBy w2 (some g)) (hb : w.heap.size ≤ g) : Below w.heap.size w w2 :=
 h.grown hg h.size (fun k hk => by cases hk; exact hb)
/-! Lists of the call's own. -/
theorem own_mono {w : World} {B B' n : Nat} {v : Value} {xs : List Value} (h : w.ownsRow B 5 1 v n xs) (hB : B' ≤ B) : w.ownsRow B' 5 1 v n xs := by
 refine ⟨h.1, ?_⟩
 rcases h.2 with h' | ⟨g, cap, cur, e, hb, r⟩
 ·exact .inl h'
 ·exact .inr ⟨g, cap, cur, e, by omega, r⟩
end Go.Proofs.Ytkfnedpnkeacpaa
