/-
  The program's gauss and the reference's, together.
  The checks' own anchors.
  Ranks: of the matrix transposed, of the reduced one, and the free columns.
-/
import Derived.Test.YtblfldjlehjnbaaGj
import Derived.Test.YtblfldjlehjnbaaGn
import Derived.Test.YtblfldjlehjnbaaGc
namespace Go.Proofs.Ytblfldjlehjnbaa
open Go.RowKit
def one1 (a : Nat) (_ : Nat) : Nat := a
theorem one1_lt {a : Nat} (h : a < 256) (i : Nat) : one1 a i < 256 := h
theorem one_row (w : World) (a : Nat) : RowAt (w.alloc (.cells #[.int .u8 (a : Int)] 5)) w.heap.size 5 1 (one1 a) := by
  unfold RowAt
  rw [new_at]
  kernel_rfl
theorem rt11 : Rt 1 1 1 := ⟨by omega, by omega, rfl⟩
theorem two_rk : Rk (m2 (one1 2) 1 1) 1 1 := by
  have hE : El2 (m2 (one1 2) 1 1) := m2_el (fun i _ => one1_lt (by decide) i) rt11
  refine (Rk.zero (m2 (one1 2) 1 1)).more hE (fun ⟨a, _, h⟩ => ?_)
  have := h 0
  exact absurd this (by show ¬ (2 = 0); decide)
theorem two_inv {O : Nat → Nat} (hO : O 0 < 256) (h : ∀ i j, i < 1 → j < 1 → pr (m2 (one1 2) 1 1) (m2 O 1 1) 1 i j = dl i j) : ∀ i, i < 1 → O i = one1 142 i := by
  refine inv_one (F := one1 2) (r := 1) (n := 1) (fun i _ => one1_lt (by decide) i) (fun i hi => by rw [show i = 0 by omega]; exact hO) (fun i _ => one1_lt (by decide) i) rt11 two_rk h ?_
  intro i j hi hj
  obtain rfl : i = 0 := by omega
  obtain rfl : j = 0 := by omega
  kernel_rfl
theorem four_rk : Rk (m2 (four 1 2 2 4) 2 2) 2 1 := by
  have hE : El2 (m2 (four 1 2 2 4) 2 2) := m2_el (fun i _ => four_lt (by decide) (by decide) (by decide) (by decide) i) rt22
  refine ((Rk.zero (m2 (four 1 2 2 4) 2 2)).more hE (fun ⟨a, _, h⟩ => ?_)).same hE ⟨one1 2, one1_lt (by decide), fun j => ?_⟩
  · have := h 0
    exact absurd this (by show ¬ (1 = 0); decide)
  · rcases (by omega : j = 0 ∨ j = 1 ∨ 2 ≤ j) with rfl | rfl | hj
    · kernel_rfl
    · kernel_rfl
    · show m2 _ 2 2 1 j = 0 ^^^ fm 2 (m2 _ 2 2 0 j)
      rw [m2_cut _ hj, m2_cut _ hj]
      kernel_rfl
end Go.Proofs.Ytblfldjlehjnbaa

namespace Go.Proofs.Ytblfldjlehjnbaa
open Go.RowKit
theorem trf_el4 {F : Nat → Nat} {r c n : Nat} (hF : ∀ i, i < n → F i < 256) (R : Rt r c n) : ∀ p, p < n → trf F r c p < 256 := by
  intro p hp
  have R2 : Rt c r n := ⟨R.c64, R.r64, by rw [Nat.mul_comm]; exact R.len⟩
  obtain ⟨j, i, hj, hi, rfl⟩ := place_of R2 hp
  rw [trf_at F r c i j hi]
  exact hF _ (R.at hi hj)
theorem rtrans_p (w : World) (r c n k : Nat) (a : Option Addr) (F : Nat → Nat) (ha : Mt w a n k F) (R : Rt r c n) : Calls Try.prog 35 #[mv r c a n k] w fun e w' => ∃ s d T, e = .returned (.tuple #[mv c r s n d, .int .i64 0]) ∧ Mt w' s n d T ∧ (∀ k l, Rk (m2 F r c) r k → Rk (m2 T c r) c l → k = l) ∧ Below w.heap.size w w' :=
  (rtrans_ok w r c n k a F ha.sl R).mono fun _ _ ⟨s, d, he, ho, hb⟩ => ⟨s, d, _, he, own_mt4 ho (trf_el4 ha.sl.1 R), fun k l hk hl => by
    refine rk_tpo (fun i j _ hj => m2_cut F hj) hk (hl.at (fun i j hi => ?_))
    unfold tpo
    by_cases hj : j < r
    · rw [if_pos hj]; dsimp only; rw [m2_at _ hj hi, m2_at _ hi hj, trf_at F r c j i hj]
    · rw [if_neg hj, m2_cut _ (by omega)], hb⟩
theorem red_rk {r c n t : Nat} {F G p : Nat → Nat} (hG : ∀ i, i < n → G i < 256) (R : Rt r c n) (hR : Rdf (m2 G r c) r t p) (hS : SpEq (m2 G r c) r (m2 F r c) r) : Rk (m2 F r c) r t := (hR.rk (m2_el hG R)).span hS
theorem rk_one {F : Nat → Nat} {r c n k l : Nat} (hF : ∀ i, i < n → F i < 256) (R : Rt r c n) (h : Rk (m2 F r c) r k) (g : Rk (m2 F r c) r l) : k = l := h.unique g (SpEq.refl (m2_el hF R) r)
theorem ker_cnt {r c n t t2 kr : Nat} {F G G2 p p2 : Nat → Nat} (R : Rt r c n) (hR : Rdf (m2 G r c) r t p) (hS : SpEq (m2 G r c) r (m2 F r c) r) (hR2 : Rdf (m2 G2 r c) r t2 p2) (hS2 : SpEq (m2 G2 r c) r (m2 F r c) r) (hp : ∀ i, i < t2 → p2 i < c) (hk : kr = cnt (fre p2 t2) c) : t + kr = c := by
  obtain ⟨e, _, _⟩ := red_same R hR hS hR2 hS2
  rw [e, hk]
  exact cnt_free hR2.up hp
end Go.Proofs.Ytblfldjlehjnbaa
