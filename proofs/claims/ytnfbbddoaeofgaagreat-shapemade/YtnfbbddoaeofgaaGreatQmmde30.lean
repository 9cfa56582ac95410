/-
  What the program's gauss answers, in the forms that the laws' walks take (here over a scratch package that only calls the reference).
-/
import Derived.Test.YtnfbbddoaeofgaaGreatQmmde00
import Derived.Test.YtnfbbddoaeofgaaGreatQmmde21
import Derived.Test.YtnfbbddoaeofgaaGreatQmmde28
set_option maxRecDepth 100000
set_option maxHeartbeats 16000000
namespace Go.Proofs.YtnfbbddoaeofgaaGreat
open Go.RowKit
/-- What Reduce answers of a right matrix. -/
def RedP (w w' : World) (e : Ending) (r c n : Nat) (F : Nat → Nat) : Prop := ∃ s d ps pd top p G, e = .returned (.tuple #[mv r c s n d, .slice ps top pd, .int .i64 0]) ∧ Mt w' s n d G ∧ Il w' ps top (fun i => (p i : Int)) ∧ Rdf (m2 G r c) r top p ∧ SpEq (m2 G r c) r (m2 F r c) r ∧ (∀ i, i < top → p i < c) ∧ Below w.heap.size w w'
theorem RedA.p {w w' : World} {e : Ending} {r c n : Nat} {F : Nat → Nat} (h : RedA w w' e r c n F) : RedP w w' e r c n F := by
 obtain ⟨s, d, ps, pd, top, p, G, he, ho, hi, hG, hr⟩ := h
 exact ⟨s, d, ps, pd, top, p, G, he, qef ho hG, hi.il, hr⟩
theorem RedP.later {w w1 w' : World} {e : Ending} {r c n : Nat} {F : Nat → Nat} (h : RedP w1 w' e r c n F) (hb : Below w.heap.size w w1) : RedP w w' e r c n F := by
 obtain ⟨s, d, ps, pd, top, p, G, he, hm, hi, hr, hs, hp, hb2⟩ := h
 exact ⟨s, d, ps, pd, top, p, G, he, hm, hi, hr, hs, hp, qa1 hb hb2⟩
theorem Il.congr {w : World} {b : Option Addr} {m : Nat} {q q' : Nat → Int} (h : Il w b m q) (e : ∀ i, i < m → q i = q' i) : Il w b m q' := fun i hi => by
 obtain ⟨x, o, ea, hc⟩ := h i hi
 exact ⟨x, o, ea, by rw [← e i hi]; exact hc⟩
/-- What Inverse answers is one. -/
theorem inv_one {F O P : Nat → Nat} {r n : Nat} (hF : ∀ i, i < n → F i < 256) (hO : ∀ i, i < n → O i < 256) (hP : ∀ i, i < n → P i < 256) (R : Rt r r n) (hk : Rk (m2 F r r) r r) (h1 : ∀ i j, i < r → j < r → pr (m2 F r r) (m2 O r r) r i j = dl i j) (h2 : ∀ i j, i < r → j < r → pr (m2 F r r) (m2 P r r) r i j = dl i j) : ∀ x, x < n → O x = P x := by
 have hM := qbu hF R
 obtain ⟨A, hA, hL, _⟩ := qke hM (fun i j _ h => qar F h) hk
 intro x hx
 obtain ⟨i, j, hi, hj, rfl⟩ := place_of R hx
 have e1 := qh9 hA hM (qbu hO R) hL h1 i j hi hj
 have e2 := qh9 hA hM (qbu hP R) hL h2 i j hi hj
 rw [qaw _ hi hj] at e1 e2
 rw [← e1, e2]
end Go.Proofs.YtnfbbddoaeofgaaGreat
