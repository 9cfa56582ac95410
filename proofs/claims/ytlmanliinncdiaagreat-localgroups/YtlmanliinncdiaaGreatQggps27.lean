/-
  What a check's rows tell.
-/
import Derived.Test.YtlmanliinncdiaaGreatQggps00
import Derived.Test.YtlmanliinncdiaaGreatQggps10
import Derived.Test.YtlmanliinncdiaaGreatQggps26
set_option maxRecDepth 100000
set_option maxHeartbeats 16000000
namespace Go.Proofs.YtlmanliinncdiaaGreat
theorem dt_dl {k j : Nat} (hj : j < k) {x : Nat → Nat} (hx : El x) : dt (dl j) x k = x j := by
 have : dt (dl j) x k = fm (dl j j) (x j) := qba hj (fun t _ hne => by show fm (dl j t) (x t) = 0; rw [qdy hne, qab])
 rw [this, qb2, qap _ (hx j)]
/-- What all of the kernel's rows send to nothing is a combination of the rows. -/
theorem chk_span {R : Nat → Nat → Nat} (hR : El2 R) {r k c : Nat} {p : Nat → Nat} (h : Rdf R r k p) (hc : ∀ i, i < k → p i < c) (hcut : ∀ i j, i < r → c ≤ j → R i j = 0) {y : Nat → Nat} (hy : El y) (h0 : ∀ j, c ≤ j → y j = 0) (hk : ∀ f, f < c → pvt p k f = false → dt (kv R p k f) y c = 0) : Spn R r y := by
 refine ⟨fun t => if t < k then y (p t) else 0, fun t => ite_lt _ _ (hy _), fun j => ?_⟩
 rw [h.short]
 have e : lc (fun t => if t < k then y (p t) else 0) R k j = lc (fun t => y (p t)) R k j := qb3 (fun i hi => if_pos hi) (fun _ _ => rfl)
 rw [e]
 by_cases hj : c ≤ j
 ·rw [h0 j hj]
  exact (qaf (fun i hi => by rw [hcut i j (by have := h.kr; omega) hj, qa7])).symm
 ·cases hp : pvt p k j with
  | true =>
   obtain ⟨t, ht, rfl⟩ := (qbg p k j).mp hp
   exact (h.coord (fun _ => hy _) ht).symm
  | false =>
   have e1 := hk j (by omega) hp
   have e2 : dt (kv R p k j) y c = y j ^^^ dt (pp p k (fun i => R i j)) y c := by
    have : ∀ l, l < c → fm (kv R p k j l) (y l) = fm (dl j l) (y l) ^^^ fm (pp p k (fun i => R i j) l) (y l) := fun l _ => by
     unfold kv
     by_cases el : l = j
     ·subst el
      rw [if_pos rfl, qb2, qhd _ hp, qab, Nat.xor_zero]
     ·rw [if_neg el, qdy el, qab, Nat.zero_xor]
    unfold dt
    rw [qa5 this, qei]
    congr 1
    exact dt_dl (by omega) hy
   rw [e2] at e1
   have e3 := (qbl _ _).mp e1
   rw [e3]
   have e4 : dt (pp p k (fun i => R i j)) y c = dt y (pp p k (fun i => R i j)) c := qa5 (fun l _ => qac _ _ (pp_el p k (fun i => hR i j) l) (hy l))
   rw [e4, dt_pp hy hc]
   rfl
theorem qi2 {R : Nat → Nat → Nat} (hR : El2 R) {r k c : Nat} {p : Nat → Nat} (h : Rdf R r k p) (hc : ∀ i, i < k → p i < c) {y : Nat → Nat} (hy : Spn R r y) {f : Nat} (hf : f < c) (hp : pvt p k f = false) : dt (kv R p k f) y c = 0 := by
 have e : dt (kv R p k f) y c = dt y (kv R p k f) c := qa5 (fun l _ => qac _ _ (qhe hR p k f l) (hy.el l))
 rw [e]
 exact qf2 hR hy (h.kv hR hc hp hf)
end Go.Proofs.YtlmanliinncdiaaGreat
