/-
  Contract of the generators' reference: Vandermonde.
  Contracts of the generators' reference: Vandermonde's error, top.
  Contracts of the generators' reference: Systematic, Check.
  Contract of the generators' reference: Check.
  Contract of the generators' reference: Cauchy.
  Contracts of the generators' reference: Cauchy's errors.
  Degrees, values, roots and divisors of polynomials: no Go in sight.
  Matrices that send nothing but nothing to nothing: Vandermonde's, Cauchy's, and the identity above Cauchy's.
  Divisors of polynomials, and the greatest common one: no Go in sight.
  Lagrange's polynomials: no Go in sight.
  What a check's rows tell.
  Any k rows of the generators; what a check's rows tell.
  Contracts of the generators' reference: fits, Reed.
  Contract of the generators' reference: Cross.
-/
import Derived.Test.YtmgfeepnkahkmaaGreatQggid00
import Derived.Test.YtmgfeepnkahkmaaGreatQggid18
import Derived.Test.YtmgfeepnkahkmaaGreatQggid19
import Derived.Test.YtmgfeepnkahkmaaGreatQggid21
import Derived.Test.YtmgfeepnkahkmaaGreatQggid03
import Derived.Test.YtmgfeepnkahkmaaGreatQggid17
set_option maxRecDepth 100000
set_option maxHeartbeats 16000000
namespace Go.Proofs.YtmgfeepnkahkmaaGreat
open Go.RowKit
/-- The first q entries are written. -/
def upt (F : Nat → Nat) (q p : Nat) : Nat := if p < q then F p else 0
theorem upt_step (F : Nat → Nat) (q t : Nat) : (if t = q then F q else upt F q t) = upt F (q + 1) t := by
 unfold upt
 by_cases e : t = q
 ·subst e; rw [if_pos rfl, if_pos (by omega)]
 ·rw [if_neg e]
  by_cases h : t < q
  ·rw [if_pos h, if_pos (by omega)]
  ·rw [if_neg h, if_neg (by omega)]
theorem upt_all (F : Nat → Nat) {q t : Nat} (h : t < q) : upt F q t = F t := if_pos h
/-- A matrix under way in its variable. -/
structure ZInv (w w1 wr : World) (g r c m : Nat) (f : Nat → Nat) : Prop where
 row : RowAt wr g 5 m f
 vm : Vr wr w1.heap.size (.int .i64 (r : Int)) (.int .i64 (c : Int)) (.slice (some ⟨g, 0, none⟩) m m)
 vr : Vr wr w.heap.size (.int .i64 0) (.int .i64 0) (.slice none 0 0)
 below : Below w.heap.size w wr
 lo : w.heap.size < g
 hi : g < w1.heap.size
theorem ZInv.later {w w1 wr w' : World} {g r c m : Nat} {f : Nat → Nat} (I : ZInv w w1 wr g r c m f) (hb : Below wr.heap.size wr w') : ZInv w w1 w' g r c m f := ⟨I.row.later hb, I.vm.later hb, I.vr.later hb, qa0 I.below hb, I.lo, I.hi⟩
theorem ZInv.congr {w w1 wr : World} {g r c m : Nat} {f f' : Nat → Nat} (I : ZInv w w1 wr g r c m f) (e : ∀ i, i < m → f i = f' i) : ZInv w w1 wr g r c m f' := ⟨I.row.congr e, I.vm, I.vr, I.below, I.lo, I.hi⟩
theorem ZInv.set {w w1 wr : World} {g r c m p x : Nat} {f : Nat → Nat} (I : ZInv w w1 wr g r c m f) : ZInv w w1 (wr.setCell ⟨g, p, none⟩ (.int .u8 (x : Int))) g r c m (fun i => if i = p then x else f i) :=
 ⟨I.row.set p x, I.vm.kept (qa2 _ _ _ _) (by have := I.hi; omega), I.vr.kept (qa2 _ _ _ _) (by have := I.lo; omega), qa3 I.below (qa2 _ _ _ _) (by have := I.lo; omega), I.lo, I.hi⟩
open Go.RowKit
/-- All of both lists are unlike. -/
def Dst (X : Nat → Nat) (n : Nat) (Y : Nat → Nat) (m : Nat) : Prop := ∀ i j, i < n + m → j < i → stf X Y n i ≠ stf X Y n j
def cauf (X Y : Nat → Nat) (c p : Nat) : Nat := finv (X (p / c) ^^^ Y (p % c))
theorem cauf_at {X Y : Nat → Nat} {c i j : Nat} (hj : j < c) : cauf X Y c (i * c + j) = finv (X i ^^^ Y j) := by unfold cauf; rw [dm1 hj, dm2 hj]
theorem stf_lt6 {X Y : Nat → Nat} {n m : Nat} (hX : ∀ i, i < n → X i < 256) (hY : ∀ i, i < m → Y i < 256) : ∀ p, p < n + m → stf X Y n p < 256 := fun p hp => by
 unfold stf
 split
 ·exact hX _ (by omega)
 ·exact hY _ (by omega)

/-- No coefficient from n on. -/
def Above (n : Nat) (p : Nat → Nat) : Prop := ∀ i, n ≤ i → p i = 0
theorem Above.mono {n m : Nat} {p : Nat → Nat} (h : Above n p) (hnm : n ≤ m) : Above m p := fun i hi => h i (by omega)
theorem Above.pa {n : Nat} {p q : Nat → Nat} (hp : Above n p) (hq : Above n q) : Above n (pa p q) := fun i hi => by
 show p i ^^^ q i = 0
 rw [hp i hi, hq i hi]; rfl
theorem pm_above {n m : Nat} {p q : Nat → Nat} (hp : Above n p) (hq : Above m q) (i : Nat) (hi : n + m ≤ i + 1) : pm p q i = 0 := by
 refine qaj (fun k _ => ?_)
 by_cases h : n ≤ k
 ·rw [hp k h, qad]
 ·rw [hq (i - k) (by omega), qa9]
theorem Above.pm {n m : Nat} {p q : Nat → Nat} (hp : Above n p) (hq : Above m q) : Above (n + m) (pm p q) := fun i hi => pm_above hp hq i (by omega)
theorem qc0 (a b : Nat) : a ^^^ b = 0 ↔ a = b := by
 constructor
 ·intro h
  have : a ^^^ b ^^^ b = 0 ^^^ b := by rw [h]
  rw [Nat.xor_assoc, Nat.xor_self, Nat.xor_zero, Nat.zero_xor] at this
  exact this
 ·rintro rfl; exact Nat.xor_self a
/-! ### Values -/
/-- The value of a polynomial of n coefficients at x. -/
def ev (p : Nat → Nat) (n x : Nat) : Nat := xs (fun i => fm (p i) (fpow x i)) n
/-! ### Roots -/
/-- x and r. -/
def lin (r : Nat) (i : Nat) : Nat := if i = 0 then r else if i = 1 then 1 else 0
theorem qjl (r : Nat) : Above 2 (lin r) := fun i hi => by unfold lin; rw [if_neg (by omega), if_neg (by omega)]
theorem lin_pm (r : Nat) (q : Nat → Nat) (hq : El q) : (∀ i, pm (lin r) q (i + 1) = fm r (q (i + 1)) ^^^ q i) ∧ pm (lin r) q 0 = fm r (q 0) := by
 constructor
 ·intro i
  have z : xs (fun k => fm (lin r (k + 1 + 1)) (q (i + 1 - (k + 1 + 1)))) i = 0 := qaj (fun k _ => by
   rw [show lin r (k + 1 + 1) = 0 from qjl r _ (by omega), qad])
  unfold pm
  rw [qeq, qeq, z, Nat.xor_zero]
  show fm (lin r 0) (q (i + 1 - 0)) ^^^ fm (lin r 1) (q (i + 1 - 1)) = _
  rw [show lin r 0 = r from rfl, show lin r 1 = 1 from rfl, Nat.sub_zero, Nat.add_sub_cancel, qay _ (hq i)]
 ·simp only [pm, xs, Nat.zero_xor]
  rfl
/-- A root splits off a factor. -/
theorem factor {n : Nat} {p : Nat → Nat} {r : Nat} (hp : El p) (hr : r < 256) (hn : Above (n + 1) p) (h0 : ev p (n + 1) r = 0) : ∃ q, El q ∧ Above n q ∧ ∀ i, p i = pm (lin r) q i := by
 -- q i: the sum of p (i + 1 + j) times r to the power j
 refine ⟨fun i => xs (fun j => fm (p (i + 1 + j)) (fpow r j)) (n - i), fun i => qep (fun k _ => qai _ _ (hp _)), fun i hi => by show xs _ (n - i) = 0; rw [show n - i = 0 by omega]; rfl, ?_⟩
 have hel : El (fun i => xs (fun j => fm (p (i + 1 + j)) (fpow r j)) (n - i)) := fun i => qep (fun k _ => qai _ _ (hp _))
 have step : ∀ i k, fm r (xs (fun j => fm (p (i + 1 + j)) (fpow r j)) k) = xs (fun j => fm (p (i + 1 + j)) (fpow r (j + 1))) k := by
  intro i k
  rw [qca]
  refine qa7 (fun j _ => ?_)
  simp only [fpow]
  rw [← qah r _ _ hr (hp _), qaf r _ hr (hp _), qah _ _ _ (hp _) hr, qaf r _ hr (fpow_lt r j)]
 have head : ∀ i k, xs (fun j => fm (p (i + j)) (fpow r j)) (k + 1) = p i ^^^ xs (fun j => fm (p (i + 1 + j)) (fpow r (j + 1))) k := by
  intro i k
  rw [qeq]
  show fm (p (i + 0)) (fpow r 0) ^^^ _ = _
  rw [show fpow r 0 = 1 from rfl, Nat.add_zero, qbs _ (hp i)]
  congr 1
  refine qa7 (fun j _ => ?_)
  rw [show i + (j + 1) = i + 1 + j by omega]
 intro i
 cases i with
 | zero =>
  rw [(lin_pm r _ hel).2]
  show p 0 = fm r (xs (fun j => fm (p (0 + 1 + j)) (fpow r j)) (n - 0))
  rw [step, Nat.sub_zero]
  have e := head 0 n
  have e2 : xs (fun j => fm (p (0 + j)) (fpow r j)) (n + 1) = 0 := by
   exact (qa7 (fun k _ => by rw [Nat.zero_add])).trans h0
  rw [e2] at e
  exact (qc0 _ _).mp e.symm
 | succ i =>
  rw [(lin_pm r _ hel).1 i]
  show p (i + 1) = fm r (xs (fun j => fm (p (i + 1 + 1 + j)) (fpow r j)) (n - (i + 1))) ^^^ xs (fun j => fm (p (i + 1 + j)) (fpow r j)) (n - i)
  rw [step]
  by_cases h : i < n
  ·rw [show n - i = n - (i + 1) + 1 by omega, head (i + 1) (n - (i + 1)), Nat.xor_comm (p (i + 1)), ← Nat.xor_assoc, Nat.xor_self, Nat.zero_xor]
  ·rw [show n - (i + 1) = 0 by omega, show n - i = 0 by omega, hn (i + 1) (by omega)]
   simp [xs]
theorem dt_dl {k j : Nat} (hj : j < k) {x : Nat → Nat} (hx : El x) : dt (dl j) x k = x j := by
 have : dt (dl j) x k = fm (dl j j) (x j) := qbu hj (fun t _ hne => by show fm (dl j t) (x t) = 0; rw [qes hne, qad])
 rw [this, qbk, qay _ (hx j)]
/-- What all of the kernel's rows send to nothing is a combination of the rows. -/
theorem chk_span {R : Nat → Nat → Nat} (hR : El2 R) {r k c : Nat} {p : Nat → Nat} (h : Rdf R r k p) (hc : ∀ i, i < k → p i < c) (hcut : ∀ i j, i < r → c ≤ j → R i j = 0) {y : Nat → Nat} (hy : El y) (h0 : ∀ j, c ≤ j → y j = 0) (hk : ∀ f, f < c → pvt p k f = false → dt (kv R p k f) y c = 0) : Spn R r y := by
 refine ⟨fun t => if t < k then y (p t) else 0, fun t => ite_lt _ _ (hy _), fun j => ?_⟩
 rw [h.short]
 have e : lc (fun t => if t < k then y (p t) else 0) R k j = lc (fun t => y (p t)) R k j := qbl (fun i hi => if_pos hi) (fun _ _ => rfl)
 rw [e]
 by_cases hj : c ≤ j
 ·rw [h0 j hj]
  exact (qaj (fun i hi => by rw [hcut i j (by have := h.kr; omega) hj, qa9])).symm
 ·cases hp : pvt p k j with
  | true =>
   obtain ⟨t, ht, rfl⟩ := (qbx p k j).mp hp
   exact (h.coord (fun _ => hy _) ht).symm
  | false =>
   have e1 := hk j (by omega) hp
   have e2 : dt (kv R p k j) y c = y j ^^^ dt (pp p k (fun i => R i j)) y c := by
    have : ∀ l, l < c → fm (kv R p k j l) (y l) = fm (dl j l) (y l) ^^^ fm (pp p k (fun i => R i j) l) (y l) := fun l _ => by
     unfold kv
     by_cases el : l = j
     ·subst el
      rw [if_pos rfl, qbk, qj1 _ hp, qad, Nat.xor_zero]
     ·rw [if_neg el, qes el, qad, Nat.zero_xor]
    unfold dt
    rw [qa7 this, qfg]
    congr 1
    exact dt_dl (by omega) hy
   rw [e2] at e1
   have e3 := (qc0 _ _).mp e1
   rw [e3]
   have e4 : dt (pp p k (fun i => R i j)) y c = dt y (pp p k (fun i => R i j)) c := qa7 (fun l _ => qaf _ _ (pp_el p k (fun i => hR i j) l) (hy l))
   rw [e4, dt_pp hy hc]
   rfl
theorem qjm {R : Nat → Nat → Nat} (hR : El2 R) {r k c : Nat} {p : Nat → Nat} (h : Rdf R r k p) (hc : ∀ i, i < k → p i < c) {y : Nat → Nat} (hy : Spn R r y) {f : Nat} (hf : f < c) (hp : pvt p k f = false) : dt (kv R p k f) y c = 0 := by
 have e : dt (kv R p k f) y c = dt y (kv R p k f) c := qa7 (fun l _ => qaf _ _ (qj2 hR p k f l) (hy.el l))
 rw [e]
 exact qga hR hy (h.kv hR hc hp hf)
open Go.RowKit
/-- Cross's entries. -/
def crf (k : Nat) : Nat → Nat := stf (idf k) (cauf (fun p => k + p) (fun p => p) k) (k * k)
theorem dst_crs (k m : Nat) : Dst (fun p => k + p) m (fun p => p) k := fun i j hi hj => by
 unfold stf
 by_cases h1 : i < m
 ·rw [if_pos h1, if_pos (by omega)]; intro e; dsimp only at e; omega
 ·rw [if_neg h1]
  by_cases h2 : j < m
  ·rw [if_pos h2]; intro e; dsimp only at e; omega
  ·rw [if_neg h2]; intro e; dsimp only at e; omega
end Go.Proofs.YtmgfeepnkahkmaaGreat
