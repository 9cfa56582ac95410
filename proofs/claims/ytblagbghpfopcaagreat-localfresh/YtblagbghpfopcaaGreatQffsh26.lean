/-
  Words for the reference's Solve.
-/
import Derived.Test.YtblagbghpfopcaaGreatQffsh00
import Derived.Test.YtblagbghpfopcaaGreatQffsh25
set_option maxRecDepth 100000
set_option maxHeartbeats 16000000
namespace Go.Proofs.YtblagbghpfopcaaGreat
open Go.RowKit
/-- The list of the matrix with a further column. -/
def auf (F X : Nat → Nat) (c p : Nat) : Nat := if p % (c + 1) = c then X (p / (c + 1)) else F (p / (c + 1) * c + p % (c + 1))
theorem auf_at (F X : Nat → Nat) {c i j : Nat} (hj : j < c) : auf F X c (i * (c + 1) + j) = F (i * c + j) := by
 unfold auf
 rw [dm1 (by omega), dm2 (by omega), if_neg (by omega)]
theorem qiv (F X : Nat → Nat) (c i : Nat) : auf F X c (i * (c + 1) + c) = X i := by
 unfold auf
 rw [dm1 (by omega), dm2 (by omega), if_pos rfl]
def ext0 (X : Nat → Nat) (r i : Nat) : Nat := if i < r then X i else 0
theorem qg8 {X : Nat → Nat} {r : Nat} (h : ∀ i, i < r → X i < 256) : El (ext0 X r) := fun i => by unfold ext0; split; exact h _ (by assumption); decide
theorem qlr (F X : Nat → Nat) (r c : Nat) : ∀ i j, i < r → m2 (auf F X c) r (c + 1) i j = aug (m2 F r c) c (ext0 X r) i j := by
 intro i j hi
 unfold aug
 by_cases e : j = c
 ·subst e
  rw [qan _ hi (by omega), qiv, if_pos rfl]
  unfold ext0
  rw [if_pos hi]
 ·rw [if_neg e]
  by_cases hj : j < c
  ·rw [qan _ hi (by omega), auf_at _ _ hj, qan _ hi hj]
  ·rw [qad _ (by omega), qad _ (by omega)]
theorem auf_lt {F X : Nat → Nat} {r c n : Nat} (hF : ∀ i, i < n → F i < 256) (hX : ∀ i, i < r → X i < 256) (R : Rt r c n) : ∀ q, q < r * (c + 1) → auf F X c q < 256 := by
 intro q hq
 have h1 : q / (c + 1) < r := (Nat.div_lt_iff_lt_mul (by omega)).2 hq
 have h2 : q % (c + 1) < c + 1 := Nat.mod_lt _ (by omega)
 unfold auf
 split
 ·exact hX _ h1
 ·exact hF _ (R.at h1 (by omega))
/-- What Solve answers: what is sent to b, with 0 at the free columns. -/
def SolA (F X : Nat → Nat) (r c : Nat) (x : Nat → Nat) : Prop := El x ∧ Sol (m2 F r c) r c (ext0 X r) x ∧ ∃ R k p, El2 R ∧ Rdf R r k p ∧ SpEq R r (m2 F r c) r ∧ (∀ i, i < k → p i < c) ∧ ∀ j, j < c → pvt p k j = false → x j = 0
theorem sol_yes {F X G : Nat → Nat} {r c n top : Nat} {p : Nat → Nat} (hF : ∀ i, i < n → F i < 256) (hX : ∀ i, i < r → X i < 256) (R : Rt r c n) (hG : ∀ q, q < r * (c + 1) → G q < 256) (hR : Rdf (m2 G r (c + 1)) r top p) (hS : SpEq (m2 G r (c + 1)) r (m2 (auf F X c) r (c + 1)) r) (hp : ∀ i, i < top → p i < c) :
  SolA F X r c (pp p top (fun t => m2 G r (c + 1) t c)) := by
 have W : Wt r (c + 1) (r * (c + 1)) := ⟨R.r64, by have := R.c64; omega, rfl⟩
 have hE := qlp hG W
 have hM := qax hF R
 have hXe := qg8 hX
 have hv : El (fun t => m2 G r (c + 1) t c) := fun t => hE t c
 -- the first columns
 have hN : ∀ i j, i < r → (fun i j => if j < c then m2 G r (c + 1) i j else 0) i j = if j < c then m2 G r (c + 1) i j else 0 := fun _ _ _ => rfl
 have hNE : El2 (fun i j => if j < c then m2 G r (c + 1) i j else 0) := fun i j => qku _ _ (hE i j)
 have hRd : Rdf (fun i j => if j < c then m2 G r (c + 1) i j else 0) r top p := hR.first hp hN
 have hMa : ∀ i j, i < r → m2 F r c i j = if j < c then m2 (auf F X c) r (c + 1) i j else 0 := fun i j hi => by
  by_cases hj : j < c
  ·rw [if_pos hj, qlr F X r c i j hi, qky _ _ _ hj]
  ·rw [if_neg hj, qad _ (by omega)]
 have hSp : SpEq (fun i j => if j < c then m2 G r (c + 1) i j else 0) r (m2 F r c) r :=
  ⟨fun i hi => (hS.1 i hi).first hMa (fun j => rfl), fun i hi => (hS.2 i hi).first hN (fun j => hMa i j hi)⟩
 refine ⟨qgt p top hv, ?_, _, top, p, hNE, hRd, hSp, hp, fun j _ hf => qen _ hf⟩
 have s1 : Sol (fun i j => if j < c then m2 G r (c + 1) i j else 0) r c (fun t => m2 G r (c + 1) t c) (pp p top (fun t => m2 G r (c + 1) t c)) := hRd.sends hNE hp hv (fun i h1 h2 => hR.nul i c h1 h2)
 refine qg0 hNE hv hXe ?_ s1
 have e2 : ∀ i j, i < r → m2 G r (c + 1) i j = aug (fun i j => if j < c then m2 G r (c + 1) i j else 0) c (fun t => m2 G r (c + 1) t c) i j := fun i j _ => by
  unfold aug
  by_cases e : j = c
  ·rw [if_pos e, e]
  ·rw [if_neg e]
   show _ = if j < c then m2 G r (c + 1) i j else 0
   by_cases hj : j < c
   ·rw [if_pos hj]
   ·rw [if_neg hj, qad _ (by omega)]
 exact (hS.2.rows (fun i j hi => (qlr F X r c i j hi).symm)).rows2 e2
theorem sol_no {F X G : Nat → Nat} {r c n top i : Nat} {p : Nat → Nat} (hF : ∀ i, i < n → F i < 256) (hX : ∀ i, i < r → X i < 256) (R : Rt r c n) (hR : Rdf (m2 G r (c + 1)) r top p) (hS : SpEq (m2 G r (c + 1)) r (m2 (auf F X c) r (c + 1)) r) (hi : i < top) (hp : p i = c) (x : Nat → Nat) : ¬ Sol (m2 F r c) r c (ext0 X r) x :=
 no_sol (qax hF R) (qg8 hX) hR (hS.1.rows2 (qlr F X r c)) hi hp x
theorem qdp {p : Nat → Nat} {k i : Nat} (up : ∀ i t, i < t → t < k → p i < p t) (hi : i < k) (v : Nat → Nat) (j : Nat) : (if j = p i then v i else pp p i v j) = pp p (i + 1) v j := by
 by_cases e : j = p i
 ·rw [if_pos e, e]
  exact (pp_at (fun a b h1 h2 => up a b h1 (by omega)) _ (by omega)).symm
 ·rw [if_neg e]
  show _ = pp p i v j ^^^ (if p i = j then v i else 0)
  rw [if_neg (fun h => e h.symm), Nat.xor_zero]
/-- What Solve's first loop keeps. -/
structure SInv (w wr : World) (ba r c n k i : Nat) (a so : Option Addr) (dd : Nat) (H : Nat → Nat) : Prop where
 va : Vr wr w.heap.size (.int .i64 (r : Int)) (.int .i64 (c : Int)) (.slice a n k)
 vb : Vr wr ba (.int .i64 (r : Int)) (.int .i64 ((c : Int) + 1)) (.slice so (i * (c + 1)) dd)
 out : Ob wr (w.heap.size + 1) (.slice so (i * (c + 1)) dd) (i * (c + 1)) H
 low : w.heap.size < ba
 below : Below w.heap.size w wr
theorem SInv.later {w wr w' : World} {ba r c n k i dd : Nat} {a so : Option Addr} {H : Nat → Nat} (I : SInv w wr ba r c n k i a so dd H) (hb : Below wr.heap.size wr w') : SInv w w' ba r c n k i a so dd H :=
 ⟨I.va.later hb, I.vb.later hb, I.out.later hb, I.low, qa1 I.below hb⟩
theorem qls (F X : Nat → Nat) (c i : Nat) : (row (i * (c + 1)) (auf F X c)).toList ++ (row c (fun j => F (i * c + j))).toList ++ (row 1 (fun _ => X i)).toList = (row ((i + 1) * (c + 1)) (auf F X c)).toList := by
 have e : (i + 1) * (c + 1) = i * (c + 1) + c + 1 := by rw [Nat.add_mul, Nat.one_mul]; omega
 rw [qhq, qhq, e]
 congr 1
 refine qd6 _ _ _ (fun q hq => ?_)
 unfold stf
 by_cases h1 : q < i * (c + 1) + c
 ·rw [if_pos h1]
  by_cases h2 : q < i * (c + 1)
  ·rw [if_pos h2]
  ·rw [if_neg h2]
   obtain ⟨j, rfl⟩ : ∃ j, q = i * (c + 1) + j := ⟨q - i * (c + 1), by omega⟩
   rw [Nat.add_sub_cancel_left, auf_at _ _ (by omega)]
 ·rw [if_neg h1]
  obtain rfl : q = i * (c + 1) + c := by omega
  rw [qiv]
end Go.Proofs.YtblagbghpfopcaaGreat
