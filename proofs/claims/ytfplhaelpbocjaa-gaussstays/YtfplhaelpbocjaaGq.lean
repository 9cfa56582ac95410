/-
  A row, times a factor, is put to another row of a copy.
-/
import Derived.Test.YtfplhaelpbocjaaGp
namespace Go.Proofs.Ytfplhaelpbocjaa
open Go.RowKit
/-- Row i, times k, put to row j in its first l places. -/
def ptr (F : Nat → Nat) (c i j k l p : Nat) : Nat := if j * c ≤ p ∧ p < j * c + l then fm k (F (i * c + (p - j * c))) ^^^ F p else F p
theorem ptr_zero (F : Nat → Nat) (c i j k p : Nat) : ptr F c i j k 0 p = F p := if_neg (by omega)
theorem ptr_step (F : Nat → Nat) (c i j k l p : Nat) : (if p = j * c + l then fm k (F (i * c + l)) ^^^ F (j * c + l) else ptr F c i j k l p) = ptr F c i j k (l + 1) p := by
  unfold ptr
  by_cases e : p = j * c + l
  · subst e
    rw [if_pos rfl, if_pos (by omega), show j * c + l - j * c = l by omega]
  · rw [if_neg e]
    by_cases h : j * c ≤ p ∧ p < j * c + l
    · rw [if_pos h, if_pos (by omega)]
    · rw [if_neg h, if_neg (by omega)]
theorem ptr_m2 {F : Nat → Nat} {r c i j k : Nat} (hi : i < r) (hj : j < r) : m2 (ptr F c i j k c) r c = ad1 (m2 F r c) j k i := by
  funext a b
  unfold ad1
  by_cases ha : a < r
  · by_cases hb : b < c
    · rw [m2_at _ ha hb]
      by_cases e : a = j
      · subst e
        rw [rw1_at, m2_at _ ha hb, m2_at _ hi hb]
        unfold ptr
        rw [if_pos ⟨by omega, by omega⟩, show a * c + b - a * c = b by omega, Nat.xor_comm]
      · rw [rw1_ne _ _ _ e, m2_at _ ha hb]
        unfold ptr
        refine if_neg (fun h => ?_)
        rcases Nat.lt_or_gt_of_ne e with h1 | h1
        · have := Nat.mul_le_mul_right c (show a + 1 ≤ j by omega)
          rw [Nat.add_mul, Nat.one_mul] at this
          omega
        · have := Nat.mul_le_mul_right c (show j + 1 ≤ a by omega)
          rw [Nat.add_mul, Nat.one_mul] at this
          omega
    · rw [m2_cut _ (by omega)]
      by_cases e : a = j
      · subst e
        rw [rw1_at, m2_cut _ (by omega), m2_cut _ (by omega), fm_zero]
        rfl
      · rw [rw1_ne _ _ _ e, m2_cut _ (by omega)]
  · rw [m2_low _ (by omega), rw1_ne _ _ _ (by omega), m2_low _ (by omega)]
theorem ptr_lt {F : Nat → Nat} {c i j k l n : Nat} (hF : ∀ p, p < n → F p < 256) (hk : k < 256) : ∀ p, p < n → ptr F c i j k l p < 256 := fun p hp => by
  unfold ptr
  split
  · exact xor_lt _ _ (fm_lt _ _ hk) (hF p hp)
  · exact hF p hp
/-- What is done to rows leaves the reduced form. -/
theorem stays_row {r c n t u i j k : Nat} {p q F G H : Nat → Nat} (hF : ∀ p, p < n → F p < 256) (R : Rt r c n) (hi : i < r) (hj : j < r) (hij : i ≠ j) (hk : k < 256) (hR : Rdf (m2 G r c) r t p) (hS : SpEq (m2 G r c) r (m2 F r c) r) (hR2 : Rdf (m2 H r c) r u q) (hS2 : SpEq (m2 H r c) r (m2 (ptr F c i j k c) r c) r) : ∀ x, x < n → H x = G x := by
  have h1 : SpEq (m2 (ptr F c i j k c) r c) r (m2 F r c) r := by
    rw [ptr_m2 hi hj]
    exact spEq_add (m2_el hF R) hi (fun e => hij e.symm) hk
  exact (red_same R hR2 (hS2.trans h1) hR hS).2.2
theorem stays_self {r c n t u : Nat} {p q F G H : Nat → Nat} (R : Rt r c n) (hR : Rdf (m2 G r c) r t p) (hS : SpEq (m2 G r c) r (m2 F r c) r) (hR2 : Rdf (m2 H r c) r u q) (hS2 : SpEq (m2 H r c) r (m2 G r c) r) : ∀ x, x < n → G x = H x :=
  (red_same R hR hS hR2 (hS2.trans hS)).2.2
/-- The copy while its row is written. -/
structure Cpi (wB wk : World) (bo r c n d : Nat) (s : Option Addr) (G : Nat → Nat) : Prop where
  vo : Vr wk bo (.int .i64 (r : Int)) (.int .i64 (c : Int)) (.slice s n d)
  data : Ob wk wB.heap.size (.slice s n d) n G
  low : wB.heap.size ≤ bo
  bel : Below wB.heap.size wB wk
theorem Cpi.later {wB wk w' : World} {bo r c n d : Nat} {s : Option Addr} {G : Nat → Nat} (I : Cpi wB wk bo r c n d s G) (hb : Below wk.heap.size wk w') : Cpi wB w' bo r c n d s G := ⟨I.vo.later hb, I.data.later hb, I.low, two_below I.bel hb⟩
theorem Cpi.congr {wB wk : World} {bo r c n d : Nat} {s : Option Addr} {G G' : Nat → Nat} (I : Cpi wB wk bo r c n d s G) (e : ∀ q, q < n → G q = G' q) : Cpi wB wk bo r c n d s G' := ⟨I.vo, I.data.congr e, I.low, I.bel⟩
theorem Cpi.set {wB wk : World} {bo r c n d gd q x : Nat} {G : Nat → Nat} (I : Cpi wB wk bo r c n d (some ⟨gd, 0, none⟩) G) : Cpi wB (wk.setCell ⟨gd, q, none⟩ (.int .u8 (x : Int))) bo r c n d (some ⟨gd, 0, none⟩) (fun i => if i = q then x else G i) := by
  have hg := grown_setCell wk gd q (.int .u8 (x : Int))
  have hb : (Value.slice (some ⟨gd, 0, none⟩) n d).ownBlock = some gd := rfl
  have h1 : bo ≠ gd := fun e => ob_ne_vr I.data I.vo (by rw [hb, e])
  exact ⟨I.vo.kept hg h1, I.data.set q x, I.low, below_row I.bel hg (I.data.base hb).1⟩
theorem Cpi.mt {wB wk : World} {bo r c n d : Nat} {s : Option Addr} {G : Nat → Nat} (I : Cpi wB wk bo r c n d s G) (hG : ∀ q, q < n → G q < 256) : Mt wk s n d G := own_mt4 I.data hG
end Go.Proofs.Ytfplhaelpbocjaa
