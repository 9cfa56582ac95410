/-
  Contract of the generators' reference: Vandermonde.
  Contracts of the generators' reference: Vandermonde's error, top.
  Contracts of the generators' reference: Systematic, Check.
  Contract of the generators' reference: Check.
  Contract of the generators' reference: Cauchy.
  Contracts of the generators' reference: Cauchy's errors.
  Matrices that send nothing but nothing to nothing: Vandermonde's, Cauchy's, and the identity above Cauchy's.
  Divisors of polynomials, and the greatest common one: no Go in sight.
  Lagrange's polynomials: no Go in sight.
  Any k rows of the generators; what a check's rows tell.
  Contracts of the generators' reference: fits, Reed.
  Contract of the generators' reference: Cross.
-/
import Derived.Test.YtnfbbddoaeofgaaGreatQssms00
import Derived.Test.YtnfbbddoaeofgaaGreatQssms16
import Derived.Test.YtnfbbddoaeofgaaGreatQssms17
import Derived.Test.YtnfbbddoaeofgaaGreatQssms19
import Derived.Test.YtnfbbddoaeofgaaGreatQssms20
import Derived.Test.YtnfbbddoaeofgaaGreatQssms15
import Derived.Test.YtnfbbddoaeofgaaGreatQssms21
import Derived.Test.YtnfbbddoaeofgaaGreatQssms22
set_option maxRecDepth 100000
set_option maxHeartbeats 16000000
namespace Go.Proofs.YtnfbbddoaeofgaaGreat
open Go.RowKit
/-- The first q entries are written. -/
def upt (F : Nat → Nat) (q p : Nat) : Nat := if p < q then F p else 0
theorem upt_step (F : Nat → Nat) (q t : Nat) : (if t = q then F q else upt F q t) = upt F (q + 1) t := by
 unfold upt
 by_cases e : t = q
 ·subst e; rw [if_pos rfl, if_pos (by omega)]
 ·rw [if_neg e]
  by_cases h : t < q
  ·rw [if_pos h, if_pos (by omega)]
  ·rw [if_neg h, if_neg (by omega)]
theorem qia (F : Nat → Nat) {q t : Nat} (h : t < q) : upt F q t = F t := if_pos h
/-- The entries of Vandermonde's matrix with c columns. -/
def vdf (c p : Nat) : Nat := fpow (p / c) (p % c)
theorem vdf_lt (c p : Nat) : vdf c p < 256 := qb5 _ _
theorem vdf_at {c i j : Nat} (hj : j < c) : vdf c (i * c + j) = fpow i j := by unfold vdf; rw [dm1 hj, dm2 hj]
/-- A matrix under way in its variable. -/
structure ZInv (w w1 wr : World) (g r c m : Nat) (f : Nat → Nat) : Prop where
 row : RowAt wr g 5 m f
 vm : Vr wr w1.heap.size (.int .i64 (r : Int)) (.int .i64 (c : Int)) (.slice (some ⟨g, 0, none⟩) m m)
 vr : Vr wr w.heap.size (.int .i64 0) (.int .i64 0) (.slice none 0 0)
 below : Below w.heap.size w wr
 lo : w.heap.size < g
 hi : g < w1.heap.size
theorem ZInv.later {w w1 wr w' : World} {g r c m : Nat} {f : Nat → Nat} (I : ZInv w w1 wr g r c m f) (hb : Below wr.heap.size wr w') : ZInv w w1 w' g r c m f := ⟨I.row.later hb, I.vm.later hb, I.vr.later hb, qa2 I.below hb, I.lo, I.hi⟩
theorem ZInv.congr {w w1 wr : World} {g r c m : Nat} {f f' : Nat → Nat} (I : ZInv w w1 wr g r c m f) (e : ∀ i, i < m → f i = f' i) : ZInv w w1 wr g r c m f' := ⟨I.row.congr e, I.vm, I.vr, I.below, I.lo, I.hi⟩
theorem ZInv.set {w w1 wr : World} {g r c m p x : Nat} {f : Nat → Nat} (I : ZInv w w1 wr g r c m f) : ZInv w w1 (wr.setCell ⟨g, p, none⟩ (.int .u8 (x : Int))) g r c m (fun i => if i = p then x else f i) :=
 ⟨I.row.set p x, I.vm.kept (qa3 _ _ _ _) (by have := I.hi; omega), I.vr.kept (qa3 _ _ _ _) (by have := I.lo; omega), qa4 I.below (qa3 _ _ _ _) (by have := I.lo; omega), I.lo, I.hi⟩
open Go.RowKit
/-- All of both lists are unlike. -/
def Dst (X : Nat → Nat) (n : Nat) (Y : Nat → Nat) (m : Nat) : Prop := ∀ i j, i < n + m → j < i → stf X Y n i ≠ stf X Y n j
def cauf (X Y : Nat → Nat) (c p : Nat) : Nat := finv (X (p / c) ^^^ Y (p % c))
theorem cauf_at {X Y : Nat → Nat} {c i j : Nat} (hj : j < c) : cauf X Y c (i * c + j) = finv (X i ^^^ Y j) := by unfold cauf; rw [dm1 hj, dm2 hj]
theorem stf_lt6 {X Y : Nat → Nat} {n m : Nat} (hX : ∀ i, i < n → X i < 256) (hY : ∀ i, i < m → Y i < 256) : ∀ p, p < n + m → stf X Y n p < 256 := fun p hp => by
 unfold stf
 split
 ·exact hX _ (by omega)
 ·exact hY _ (by omega)
/-- A matrix that sends nothing else to nothing has rank as many as columns. -/
theorem qid {N : Nat → Nat → Nat} (hN : El2 N) {r c : Nat} (hc : ∀ i j, i < r → c ≤ j → N i j = 0) (h : ∀ x, El x → (∀ i, i < r → dt (N i) x c = 0) → ∀ j, j < c → x j = 0) : Rk N r c := by
 have hT : Rk (tpo N r) c c := by
  refine ⟨tpo N r, tpo_el hN r, fun a ha hz j hj => ?_, SpEq.refl (tpo_el hN r) c⟩
  refine h a ha (fun i hi => ?_) j hj
  rw [← hz i]
  exact qa6 (fun t ht => by unfold tpo; rw [if_pos hi, qac _ _ (hN i t) (ha t)])
 obtain ⟨k, hk⟩ := rk_ex hN r
 have := rk_tpo hc hk hT
 subst this
 exact hk
/-- Powers of unlike elements. -/
theorem vdm_ker {q : Nat → Nat} {k : Nat} (hq : ∀ i, i < k → q i < 256) (hi : ∀ i j, i < k → j < k → q i = q j → i = j) {x : Nat → Nat} (hx : El x) (h : ∀ i, i < k → dt (fpow (q i)) x k = 0) : ∀ j, j < k → x j = 0 := fun j hj => by
 have hp : El (fun j => if j < k then x j else 0) := fun j => qen _ _ (hx j)
 have := qh5 k (fun j => if j < k then x j else 0) q hp (fun i hi => if_neg (by omega)) hq hi (fun i hik => by
  rw [← h i hik]
  exact qa6 (fun t ht => by dsimp only; rw [if_pos ht, qac _ _ (hx t) (qb5 _ _)])) j
 simpa [hj] using this
/-- A constant. -/
def kc (c i : Nat) : Nat := if i = 0 then c else 0
open Go.RowKit
theorem vdf_m2 {r k i : Nat} (hi : i < r) {x : Nat → Nat} : dt (m2 (vdf k) r k i) x k = dt (fpow i) x k := qfv (fun j hj => by rw [qdk _ hi hj, vdf_at hj])
/-- The first k rows of Vandermonde's matrix have an inverse. -/
theorem vdf_top {k : Nat} (hk : k ≤ 64) : Rk (m2 (vdf k) k k) k k :=
 qid (qci (n := k * k) (fun p _ => vdf_lt k p) ⟨hk, hk, rfl⟩) (fun i j _ hj => qc9 _ hj) (fun x hx h => vdm_ker (q := fun i => i) (fun i hi => by show i < 256; omega) (fun i j _ _ e => e) hx (fun i hi => by rw [← h i hi]; exact (vdf_m2 hi).symm))
open Go.RowKit
/-- Cross's entries. -/
def crf (k : Nat) : Nat → Nat := stf (idf k) (cauf (fun p => k + p) (fun p => p) k) (k * k)
theorem dst_crs (k m : Nat) : Dst (fun p => k + p) m (fun p => p) k := fun i j hi hj => by
 unfold stf
 by_cases h1 : i < m
 ·rw [if_pos h1, if_pos (by omega)]; intro e; dsimp only at e; omega
 ·rw [if_neg h1]
  by_cases h2 : j < m
  ·rw [if_pos h2]; intro e; dsimp only at e; omega
  ·rw [if_neg h2]; intro e; dsimp only at e; omega
end Go.Proofs.YtnfbbddoaeofgaaGreat
