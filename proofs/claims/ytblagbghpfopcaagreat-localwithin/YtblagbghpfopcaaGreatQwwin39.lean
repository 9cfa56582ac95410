/-
  Contract of the generators' reference: Vandermonde.
  Contracts of the generators' reference: Vandermonde's error, top.
  Contracts of the generators' reference: Systematic, Check.
  Contract of the generators' reference: Check.
  Contract of the generators' reference: Cauchy.
  Contracts of the generators' reference: Cauchy's errors.
  Degrees, values, roots and divisors of polynomials: no Go in sight.
  Matrices that send nothing but nothing to nothing: Vandermonde's, Cauchy's, and the identity above Cauchy's.
  Divisors of polynomials, and the greatest common one: no Go in sight.
  Lagrange's polynomials: no Go in sight.
  What a check's rows tell.
  Any k rows of the generators; what a check's rows tell.
  Contracts of the generators' reference: fits, Reed.
  Contract of the generators' reference: Cross.
  Codes of portions: the entries of their generators and their groups, as numbers.
  Contracts of the program's build: numbers, elements, isTall, areCounts.
  Contracts of the program's build: writePowers, Vandermonde.
  Contracts of the program's build: anyTwice.
  Contracts of the program's build: Cauchy.
  Contracts of the program's build: Systematic.
  Contracts of the program's build: Vandermonde.
  Contracts of the program's build: Reed, Cross, Check.
  The program's gauss and the reference's, together.
  The checks' own anchors.
  Ranks: of the matrix transposed, of the reduced one, and the free columns.
  Contracts of the program's build: Check.
  What the laws about generators ask: two answers are alike; the program's answers and the document's, in pairs.
  Rows of a code: a row as it stands, noughts, counts that are too many, a piece copied into a greater one.
  bytes.Repeat of one byte.
  Rows laid into greater ones; the last rows of a matrix.
  A group's blocks, moved to where they stand.
  Codes of portions, made.
  Codes by their numbers: Reed, Cross, Local, Pyramid, and what fails of the numbers.
  The document's answer: codes by their numbers: plain, Reed, Cross.
  The document's answer: codes of portions.
-/
import Derived.Test.YtblagbghpfopcaaGreatQwwin00
import Derived.Test.YtblagbghpfopcaaGreatQwwin14
import Derived.Test.YtblagbghpfopcaaGreatQwwin15
import Derived.Test.YtblagbghpfopcaaGreatQwwin29
import Derived.Test.YtblagbghpfopcaaGreatQwwin06
import Derived.Test.YtblagbghpfopcaaGreatQwwin07
import Derived.Test.YtblagbghpfopcaaGreatQwwin18
import Derived.Test.YtblagbghpfopcaaGreatQwwin38
import Derived.Test.YtblagbghpfopcaaGreatQwwin34
import Derived.Test.YtblagbghpfopcaaGreatQwwin09
import Derived.Laws.Bits64b
import Derived.Laws.Externs
import Derived.Lib.MakeNoZero
import Derived.Lib.SlBuf
import Derived.Lib.MinMax
import Derived.Deep.RegionHeld3
set_option maxRecDepth 100000
set_option maxHeartbeats 16000000
namespace Go.Proofs.YtblagbghpfopcaaGreat

/-- No coefficient from n on. -/
def Above (n : Nat) (p : Nat → Nat) : Prop := ∀ i, n ≤ i → p i = 0
theorem Above.mono {n m : Nat} {p : Nat → Nat} (h : Above n p) (hnm : n ≤ m) : Above m p := fun i hi => h i (by omega)
theorem Above.pa {n : Nat} {p q : Nat → Nat} (hp : Above n p) (hq : Above n q) : Above n (pa p q) := fun i hi => by
 show p i ^^^ q i = 0
 rw [hp i hi, hq i hi]; rfl
theorem pm_above {n m : Nat} {p q : Nat → Nat} (hp : Above n p) (hq : Above m q) (i : Nat) (hi : n + m ≤ i + 1) : pm p q i = 0 := by
 refine qad (fun k _ => ?_)
 by_cases h : n ≤ k
 ·rw [hp k h, qaa]
 ·rw [hq (i - k) (by omega), qa7]
theorem Above.pm {n m : Nat} {p q : Nat → Nat} (hp : Above n p) (hq : Above m q) : Above (n + m) (pm p q) := fun i hi => pm_above hp hq i (by omega)
theorem qce (a b : Nat) : a ^^^ b = 0 ↔ a = b := by
 constructor
 ·intro h
  have : a ^^^ b ^^^ b = 0 ^^^ b := by rw [h]
  rw [Nat.xor_assoc, Nat.xor_self, Nat.xor_zero, Nat.zero_xor] at this
  exact this
 ·rintro rfl; exact Nat.xor_self a
/-! ### Values -/
/-- The value of a polynomial of n coefficients at x. -/
def ev (p : Nat → Nat) (n x : Nat) : Nat := xs (fun i => fm (p i) (fpow x i)) n
/-! ### Roots -/
/-- x and r. -/
def lin (r : Nat) (i : Nat) : Nat := if i = 0 then r else if i = 1 then 1 else 0
theorem qlh (r : Nat) : Above 2 (lin r) := fun i hi => by unfold lin; rw [if_neg (by omega), if_neg (by omega)]
theorem lin_pm (r : Nat) (q : Nat → Nat) (hq : El q) : (∀ i, pm (lin r) q (i + 1) = fm r (q (i + 1)) ^^^ q i) ∧ pm (lin r) q 0 = fm r (q 0) := by
 constructor
 ·intro i
  have z : xs (fun k => fm (lin r (k + 1 + 1)) (q (i + 1 - (k + 1 + 1)))) i = 0 := qad (fun k _ => by
   rw [show lin r (k + 1 + 1) = 0 from qlh r _ (by omega), qaa])
  unfold pm
  rw [qfp, qfp, z, Nat.xor_zero]
  show fm (lin r 0) (q (i + 1 - 0)) ^^^ fm (lin r 1) (q (i + 1 - 1)) = _
  rw [show lin r 0 = r from rfl, show lin r 1 = 1 from rfl, Nat.sub_zero, Nat.add_sub_cancel, qaz _ (hq i)]
 ·simp only [pm, xs, Nat.zero_xor]
  rfl
/-- A root splits off a factor. -/
theorem factor {n : Nat} {p : Nat → Nat} {r : Nat} (hp : El p) (hr : r < 256) (hn : Above (n + 1) p) (h0 : ev p (n + 1) r = 0) : ∃ q, El q ∧ Above n q ∧ ∀ i, p i = pm (lin r) q i := by
 -- q i: the sum of p (i + 1 + j) times r to the power j
 refine ⟨fun i => xs (fun j => fm (p (i + 1 + j)) (fpow r j)) (n - i), fun i => qh5 (fun k _ => qat _ _ (hp _)), fun i hi => by show xs _ (n - i) = 0; rw [show n - i = 0 by omega]; rfl, ?_⟩
 have hel : El (fun i => xs (fun j => fm (p (i + 1 + j)) (fpow r j)) (n - i)) := fun i => qh5 (fun k _ => qat _ _ (hp _))
 have step : ∀ i k, fm r (xs (fun j => fm (p (i + 1 + j)) (fpow r j)) k) = xs (fun j => fm (p (i + 1 + j)) (fpow r (j + 1))) k := by
  intro i k
  rw [qd0]
  refine qa4 (fun j _ => ?_)
  simp only [fpow]
  rw [← qam r _ _ hr (hp _), qac r _ hr (hp _), qam _ _ _ (hp _) hr, qac r _ hr (fpow_lt r j)]
 have head : ∀ i k, xs (fun j => fm (p (i + j)) (fpow r j)) (k + 1) = p i ^^^ xs (fun j => fm (p (i + 1 + j)) (fpow r (j + 1))) k := by
  intro i k
  rw [qfp]
  show fm (p (i + 0)) (fpow r 0) ^^^ _ = _
  rw [show fpow r 0 = 1 from rfl, Nat.add_zero, qb6 _ (hp i)]
  congr 1
  refine qa4 (fun j _ => ?_)
  rw [show i + (j + 1) = i + 1 + j by omega]
 intro i
 cases i with
 | zero =>
  rw [(lin_pm r _ hel).2]
  show p 0 = fm r (xs (fun j => fm (p (0 + 1 + j)) (fpow r j)) (n - 0))
  rw [step, Nat.sub_zero]
  have e := head 0 n
  have e2 : xs (fun j => fm (p (0 + j)) (fpow r j)) (n + 1) = 0 := by
   exact (qa4 (fun k _ => by rw [Nat.zero_add])).trans h0
  rw [e2] at e
  exact (qce _ _).mp e.symm
 | succ i =>
  rw [(lin_pm r _ hel).1 i]
  show p (i + 1) = fm r (xs (fun j => fm (p (i + 1 + 1 + j)) (fpow r j)) (n - (i + 1))) ^^^ xs (fun j => fm (p (i + 1 + j)) (fpow r j)) (n - i)
  rw [step]
  by_cases h : i < n
  ·rw [show n - i = n - (i + 1) + 1 by omega, head (i + 1) (n - (i + 1)), Nat.xor_comm (p (i + 1)), ← Nat.xor_assoc, Nat.xor_self, Nat.zero_xor]
  ·rw [show n - (i + 1) = 0 by omega, show n - i = 0 by omega, hn (i + 1) (by omega)]
   simp [xs]
/-- A constant. -/
def kc (c i : Nat) : Nat := if i = 0 then c else 0
theorem dt_dl {k j : Nat} (hj : j < k) {x : Nat → Nat} (hx : El x) : dt (dl j) x k = x j := by
 have : dt (dl j) x k = fm (dl j j) (x j) := qbe hj (fun t _ hne => by show fm (dl j t) (x t) = 0; rw [qfr hne, qaa])
 rw [this, qbs, qaz _ (hx j)]
/-- What all of the kernel's rows send to nothing is a combination of the rows. -/
theorem chk_span {R : Nat → Nat → Nat} (hR : El2 R) {r k c : Nat} {p : Nat → Nat} (h : Rdf R r k p) (hc : ∀ i, i < k → p i < c) (hcut : ∀ i j, i < r → c ≤ j → R i j = 0) {y : Nat → Nat} (hy : El y) (h0 : ∀ j, c ≤ j → y j = 0) (hk : ∀ f, f < c → pvt p k f = false → dt (kv R p k f) y c = 0) : Spn R r y := by
 refine ⟨fun t => if t < k then y (p t) else 0, fun t => ite_lt _ _ (hy _), fun j => ?_⟩
 rw [h.short]
 have e : lc (fun t => if t < k then y (p t) else 0) R k j = lc (fun t => y (p t)) R k j := qb2 (fun i hi => if_pos hi) (fun _ _ => rfl)
 rw [e]
 by_cases hj : c ≤ j
 ·rw [h0 j hj]
  exact (qad (fun i hi => by rw [hcut i j (by have := h.kr; omega) hj, qa7])).symm
 ·cases hp : pvt p k j with
  | true =>
   obtain ⟨t, ht, rfl⟩ := (qbu p k j).mp hp
   exact (h.coord (fun _ => hy _) ht).symm
  | false =>
   have e1 := hk j (by omega) hp
   have e2 : dt (kv R p k j) y c = y j ^^^ dt (pp p k (fun i => R i j)) y c := by
    have : ∀ l, l < c → fm (kv R p k j l) (y l) = fm (dl j l) (y l) ^^^ fm (pp p k (fun i => R i j) l) (y l) := fun l _ => by
     unfold kv
     by_cases el : l = j
     ·subst el
      rw [if_pos rfl, qbs, qha _ hp, qaa, Nat.xor_zero]
     ·rw [if_neg el, qfr el, qaa, Nat.zero_xor]
    unfold dt
    rw [qa4 this, qgk]
    congr 1
    exact dt_dl (by omega) hy
   rw [e2] at e1
   have e3 := (qce _ _).mp e1
   rw [e3]
   have e4 : dt (pp p k (fun i => R i j)) y c = dt y (pp p k (fun i => R i j)) c := qa4 (fun l _ => qac _ _ (qkr p k (fun i => hR i j) l) (hy l))
   rw [e4, dt_pp hy hc]
   rfl
theorem qli {R : Nat → Nat → Nat} (hR : El2 R) {r k c : Nat} {p : Nat → Nat} (h : Rdf R r k p) (hc : ∀ i, i < k → p i < c) {y : Nat → Nat} (hy : Spn R r y) {f : Nat} (hf : f < c) (hp : pvt p k f = false) : dt (kv R p k f) y c = 0 := by
 have e : dt (kv R p k f) y c = dt y (kv R p k f) c := qa4 (fun l _ => qac _ _ (qhb hR p k f l) (hy.el l))
 rw [e]
 exact qdg hR hy (h.kv hR hc hp hf)
open Go.RowKit
theorem Mt.congr {w : World} {a : Option Addr} {n k : Nat} {F G : Nat → Nat} (h : Mt w a n k F) (e : ∀ i, i < n → F i = G i) : Mt w a n k G := ⟨h.sl.congr e, h.room, h.nil⟩
theorem Rk.uniq {A : Nat → Nat → Nat} {r s t : Nat} (h : Rk A r s) (hA : El2 A) (h2 : Rk A r t) : s = t := h.unique h2 (SpEq.refl hA r)
open Go.RowKit
/-- A variable of several cells. -/
def Vq (w : World) (b : Nat) (T : TypeId) (xs : Array Value) : Prop := w.heap[b]? = some (.cells xs T (0, 0))
theorem Vq.new (w : World) (T : TypeId) (xs : Array Value) : Vq (w.alloc (.cells xs T)) w.heap.size T xs := qbz w _
theorem Vq.lt {w : World} {b : Nat} {T : TypeId} {xs : Array Value} (h : Vq w b T xs) : b < w.heap.size := lt_of_block h
theorem Vq.later {w w' : World} {b : Nat} {T : TypeId} {xs : Array Value} (h : Vq w b T xs) (hb : Below w.heap.size w w') : Vq w' b T xs := by unfold Vq; rw [hb.block b h.lt]; exact h
theorem Vq.kept {w w' : World} {b g : Nat} {T : TypeId} {xs : Array Value} (h : Vq w b T xs) (hg : w.grownBy w' (some g)) (hne : b ≠ g) : Vq w' b T xs := by unfold Vq; rw [hg.block b h.lt (by simpa using hne)]; exact h
theorem Vq.cell {w : World} {b : Nat} {T : TypeId} {xs : Array Value} (h : Vq w b T xs) (i : Nat) (v : Value) (hv : xs[i]? = some v) : w.cell? ⟨b, i, none⟩ = some v := by rw [cell_of_row w b i _ _ _ h]; exact hv
theorem Vq.free {w : World} {b : Nat} {T : TypeId} {xs : Array Value} (h : Vq w b T xs) (i : Nat) : w.frozen? ⟨b, i, none⟩ = false := by
 unfold Vq at h
 simp [World.frozen?, h]
theorem Vq.row {w : World} {b : Nat} {T : TypeId} {xs : Array Value} (h : Vq w b T xs) (ys : Array Value) : Vq (w.setRow b ys) b T ys := setRow_heap w b _ _ _ (0, 0) h
theorem qe0 (w : World) (o : Obj) : (w.alloc o).heap.size = w.heap.size + 1 := by simp
theorem Vq.new1 (w : World) (o : Obj) (T : TypeId) (xs : Array Value) : Vq ((w.alloc o).alloc (.cells xs T)) (w.heap.size + 1) T xs := by
 have := Vq.new (w.alloc o) T xs
 rwa [qe0] at this
theorem Vq.new2 (w : World) (o o2 : Obj) (T : TypeId) (xs : Array Value) : Vq (((w.alloc o).alloc o2).alloc (.cells xs T)) (w.heap.size + 2) T xs := by
 have := Vq.new1 (w.alloc o) o2 T xs
 rwa [qe0] at this
theorem Vq.new3 (w : World) (o o2 o3 : Obj) (T : TypeId) (xs : Array Value) : Vq ((((w.alloc o).alloc o2).alloc o3).alloc (.cells xs T)) (w.heap.size + 3) T xs := by
 have := Vq.new2 (w.alloc o) o2 o3 T xs
 rwa [qe0] at this
theorem qim (w : World) : Below w.heap.size w w.drew := ⟨rfl, rfl, rfl, Nat.le_refl _, fun _ _ => rfl⟩
/-- A code as a value. -/
abbrev cv (r c : Int) (a : Option Addr) (n k : Nat) (b : Option Addr) (m d : Nat) : Value := .agg #[.int .i64 r, .int .i64 c, .slice a n k, .slice b m d]
theorem row16 (w : World) (r : Int) (c n k i p : Nat) (a s : Option Addr) (h0 : a = none → n = 0 ∧ k = 0) (hk : n ≤ k) (hfit : p + c ≤ n) (hn : n ≤ 4096) (hi : i ≤ 4096) (HP : Hid (i * c = p)) (HS : Hid (pc a p c = s)) :
  Calls Tryz.prog 135 #[mv r c a n k, .int .i64 (i : Int)] w fun e w' => e = .returned (.slice s c c) ∧ Below w.heap.size w w' := by
 have e1 : ((i : Int) * (c : Int)) = (p : Int) := by rw [← HP.out]; simp
 have e2 : (((i : Int) + 1) * (c : Int)) = ((p + c : Nat) : Int) := by rw [Int.add_mul, e1]; simp
 have w1 : IntKind.i64.wrap (p : Int) = (p : Int) := by rw [IntKind.wrap_i64]; omega
 have w3 : IntKind.i64.wrap ((i : Int) + 1) = (i : Int) + 1 := by rw [IntKind.wrap_i64]; omega
 obtain ⟨q, HQ⟩ : ∃ q, Hid (p + c = q) := ⟨_, rfl⟩
 rw [HQ.out] at e2
 have w2 : IntKind.i64.wrap (q : Int) = (q : Int) := by rw [IntKind.wrap_i64]; have := HQ.out; omega
 have y0 := (Vq.new w 114 #[.int .i64 r, .int .i64 (c : Int), .slice a n k]).cell 1 (.int .i64 (c : Int)) rfl
 by_cases hc0 : c = 0
 ·subst hc0
  obtain rfl : p = q := by have := HQ.out; omega
  obtain rfl : a = s := by have := HS.out; simpa [pc] using this
  clear HS HQ h0
  go_enter Tryz.func135, Tryz.ntmps135
  go_wp2
  go_region
  go_wp2
  go_ret
  exact ⟨by simp, qa0 (qa1 _ _) (qim _)⟩
 ·cases a with
  | none => have := (h0 rfl).1; omega
  | some x =>
   obtain rfl : some (x.add p) = s := by have := HS.out; rw [← this]; unfold pc; rw [if_neg hc0]; rfl
   have hq := HQ.out
   have hpq : p < q := by omega
   have hqn : q ≤ k := by omega
   have hcq : q - p = c := by omega
   clear HS HQ h0
   go_enter Tryz.func135, Tryz.ntmps135
   go_wp2
   go_region
   go_wp2
   go_ret
   exact ⟨by simp, qa0 (qa1 _ _) (qim _)⟩
open Go.RowKit
theorem Jo.set16 {w : World} {B n d g : Nat} {T : TypeId} {K : IntKind} {f : Nat → Nat} (h : Jo w B T K (.slice (some ⟨g, 0, none⟩) n d) n f) (j v : Nat) : Jo (w.setCell ⟨g, j, none⟩ (.int K (v : Int))) B T K (.slice (some ⟨g, 0, none⟩) n d) n (fun i => if i = j then v else f i) := by
 have := (World.ownsRow.stored h j (.int K (v : Int))).1
 unfold Jo
 rw [← qhx, Array.toList_setIfInBounds]
 exact this
open Go.RowKit
theorem Vq.set {w : World} {b : Nat} {T : TypeId} {xs : Array Value} (h : Vq w b T xs) (i : Nat) (v : Value) : Vq (w.setCell ⟨b, i, none⟩ v) b T (xs.setIfInBounds i v) := by
 unfold Vq at *
 rw [setCell_eq_setRow w b i _ _ (0, 0) _ h, setRow_heap w b _ _ _ (0, 0) h]
open Go.RowKit
theorem qm6 (K : IntKind) (k : Nat) (f : Nat → Nat) : (jrow K k f).toList ++ [.int K (f k : Nat)] = (jrow K (k + 1) f).toList := by simp [jrow, List.range_succ]
theorem qhg {w : World} {B g n : Nat} {T : TypeId} {s : Nat} {v : Value} {xs : List Value} (h : w.ownsRow B T s v n xs) (hg : g < B) : v.ownBlock = none ∨ v.ownBlock ≠ some g := by
 cases e : v.ownBlock with
 | none => exact .inl rfl
 | some x => exact .inr (fun e2 => by have := qag h x e; cases e2; omega)
theorem Vq.lowB {w w' : World} {b B : Nat} {T : TypeId} {xs : Array Value} (h : Vq w b T xs) (hb : Below B w w') (hlt : b < B) : Vq w' b T xs := by unfold Vq; rw [hb.block b hlt]; exact h
end Go.Proofs.YtblagbghpfopcaaGreat
