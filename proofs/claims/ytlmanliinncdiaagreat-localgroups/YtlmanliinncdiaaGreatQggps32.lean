/-
  What the program's gauss answers, in the forms that the laws' walks take (here over a scratch package that only calls the reference).
-/
import Derived.Test.YtlmanliinncdiaaGreatQggps00
import Derived.Test.YtlmanliinncdiaaGreatQggps25
import Derived.Test.YtlmanliinncdiaaGreatQggps31
set_option maxRecDepth 100000
set_option maxHeartbeats 16000000
namespace Go.Proofs.YtlmanliinncdiaaGreat
open Go.RowKit
/-- What Reduce answers of a right matrix. -/
def RedP (w w' : World) (e : Ending) (r c n : Nat) (F : Nat → Nat) : Prop := ∃ s d ps pd top p G, e = .returned (.tuple #[mv r c s n d, .slice ps top pd, .int .i64 0]) ∧ Mt w' s n d G ∧ Il w' ps top (fun i => (p i : Int)) ∧ Rdf (m2 G r c) r top p ∧ SpEq (m2 G r c) r (m2 F r c) r ∧ (∀ i, i < top → p i < c) ∧ Below w.heap.size w w'
theorem RedA.p {w w' : World} {e : Ending} {r c n : Nat} {F : Nat → Nat} (h : RedA w w' e r c n F) : RedP w w' e r c n F := by
 obtain ⟨s, d, ps, pd, top, p, G, he, ho, hi, hG, hr⟩ := h
 exact ⟨s, d, ps, pd, top, p, G, he, own_mt4 ho hG, hi.il, hr⟩
theorem RedP.later {w w1 w' : World} {e : Ending} {r c n : Nat} {F : Nat → Nat} (h : RedP w1 w' e r c n F) (hb : Below w.heap.size w w1) : RedP w w' e r c n F := by
 obtain ⟨s, d, ps, pd, top, p, G, he, hm, hi, hr, hs, hp, hb2⟩ := h
 exact ⟨s, d, ps, pd, top, p, G, he, hm, hi, hr, hs, hp, qa0 hb hb2⟩
theorem Il.congr {w : World} {b : Option Addr} {m : Nat} {q q' : Nat → Int} (h : Il w b m q) (e : ∀ i, i < m → q i = q' i) : Il w b m q' := fun i hi => by
 obtain ⟨x, o, ea, hc⟩ := h i hi
 exact ⟨x, o, ea, by rw [← e i hi]; exact hc⟩
/-- What Kernel answers of a right matrix. -/
def KerP (w w' : World) (e : Ending) (r c : Nat) (F : Nat → Nat) : Prop := ∃ s d kr top p G H, e = .returned (.tuple #[mv (kr : Nat) c s (kr * c) d, .int .i64 0]) ∧ Mt w' s (kr * c) d H ∧ Rdf (m2 G r c) r top p ∧ SpEq (m2 G r c) r (m2 F r c) r ∧ (∀ i, i < top → p i < c) ∧ kr = cnt (fre p top) c ∧ (∀ u l, u < kr → l < c → H (u * c + l) = kv (m2 G r c) p top (nth (fre p top) c u) l) ∧ Below w.heap.size w w'
end Go.Proofs.YtlmanliinncdiaaGreat
