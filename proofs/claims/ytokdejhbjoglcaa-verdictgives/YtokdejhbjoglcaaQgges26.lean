/-
  Contracts of the reference: First.
  Contract of the reference: Kernel.
  Contract of the reference: Kernel.
  Words for the reference's wide: the elimination in place, of up to 65 columns.
  Contract of the reference: wide.
  Words for the reference's Solve.
  Contract of the reference: Solve.
  Contracts of the reference: Kernel's and Solve's errors; Solve where there is something, and where there is nothing; words for Combine.
  Contract of the reference: Combine.
  Contract of the reference: Inverse.
  Contracts of the reference: Inverse's and Combine's errors; the laws' ints.
  Contracts of the program's matrices: ofRows, Of.
  Contracts of the program's matrices: Of.
  Contracts of the program's matrices: rowsOf.
  Contracts of the program's matrices: Stack.
  Contracts of the program's matrices: fillMultiples, Kron.
  The program's answers and the reference's, told alike: for each function what both answer.
  One product that the document fixes; what follows for products of matrices (grouped, transposed, applied, laid together); the program's answers by cases.
  What the program's gauss answers, in the forms that the laws' walks take (here over a scratch package that only calls the reference).
-/
import Derived.Test.YtokdejhbjoglcaaQgges00
import Derived.Test.YtokdejhbjoglcaaQgges22
import Derived.Test.YtokdejhbjoglcaaQgges25
import Derived.Test.YtokdejhbjoglcaaQgges09
set_option maxRecDepth 100000
set_option maxHeartbeats 16000000
namespace Go.Proofs.Ytokdejhbjoglcaa
open Go.RowKit
/-- The places below r of the rows that are no combinations of those above, rising. -/
structure FstL (M : Nat → Nat → Nat) (r t : Nat) (q : Nat → Nat) : Prop where
 up : ∀ i j, i < j → j < t → q i < q j
 lt : ∀ i, i < t → q i < r
 is : ∀ i, i < t → Fst M (q i)
 all : ∀ i, i < r → Fst M i → ∃ u, u < t ∧ q u = i
theorem FstL.same {M : Nat → Nat → Nat} {r t : Nat} {q : Nat → Nat} (h : FstL M r t q) (hs : Spn M r (M r)) : FstL M (r + 1) t q :=
 ⟨h.up, fun i hi => by have := h.lt i hi; omega, h.is, fun i hi hf => by
  by_cases e : i = r
  ·subst e; exact absurd hs hf
  ·exact h.all i (by omega) hf⟩
theorem FstL.more {M : Nat → Nat → Nat} {r t : Nat} {q : Nat → Nat} (h : FstL M r t q) (hs : ¬ Spn M r (M r)) : FstL M (r + 1) (t + 1) (fun i => if i = t then r else q i) := by
 refine ⟨fun i j hij hj => ?_, fun i hi => ?_, fun i hi => ?_, fun i hi hf => ?_⟩
 ·show (if i = t then r else q i) < (if j = t then r else q j)
  rw [if_neg (by omega)]
  split
  ·exact h.lt i (by omega)
  ·exact h.up i j hij (by omega)
 ·show (if i = t then r else q i) < r + 1
  split
  ·omega
  ·have := h.lt i (by omega); omega
 ·show Fst M (if i = t then r else q i)
  split
  ·exact hs
  ·exact h.is i (by omega)
 ·by_cases e : i = r
  ·exact ⟨t, by omega, by rw [if_pos rfl, e]⟩
  ·obtain ⟨u, hu, e2⟩ := h.all i (by omega) hf
   exact ⟨u, by omega, by rw [if_neg (by omega)]; exact e2⟩
theorem FstL.unique {M : Nat → Nat → Nat} {r t u : Nat} {p q : Nat → Nat} (h : FstL M r t p) (g : FstL M r u q) : t = u ∧ ∀ i, i < t → p i = q i :=
 qd5 h.up g.up (fun i hi => by obtain ⟨v, hv, e⟩ := g.all _ (h.lt i hi) (h.is i hi); exact ⟨v, hv, e.symm⟩) (fun i hi => by obtain ⟨v, hv, e⟩ := h.all _ (g.lt i hi) (g.is i hi); exact ⟨v, hv, e.symm⟩)
open Go.RowKit
theorem own_mt4 {w : World} {base n d : Nat} {s : Option Addr} {f : Nat → Nat} (h : w.ownsRow base 5 1 (.slice s n d) n (row n f).toList) (hf : ∀ i, i < n → f i < 256) : Mt w s n d f := by
 refine ⟨qcf h hf, ?_, qbw h⟩
 rcases h.2 with ⟨e, h0⟩ | ⟨g, cap, cur, e, _, _, hc, _⟩
 ·cases e; omega
 ·cases e; omega
open Go.RowKit
/-- As many rows as the rank: they are independent. -/
theorem Rk.ind {M : Nat → Nat → Nat} (hM : El2 M) {r : Nat} (h : Rk M r r) : Ind M r := by
 intro a ha hz i hi
 apply Classical.byContradiction
 intro hne
 obtain ⟨r, rfl⟩ : ∃ r', r = r' + 1 := ⟨r - 1, by omega⟩
 have hle : Le M (r + 1) (fun u => M (sk i u)) r := by
  have hE : El2 (fun u => M (sk i u)) := fun u j => hM _ j
  intro t ht
  by_cases e : t = i
  ·subst e
   have hv := qaj (a t)
   refine (qbe hv ⟨fun u => a (sk t u), fun u => ha _, fun _ => rfl⟩ : Spn (fun u => M (sk t u)) r (fun j => fm (finv (a t)) (lc (fun u => a (sk t u)) (fun u => M (sk t u)) r j))).congr (fun j => ?_)
   have e1 := hz j
   rw [qia (k := t) _ _ (by omega)] at e1
   have e2 := qg9 e1
   rw [← e2, ← qan _ _ _ hv (ha t), qag _ _ hv (ha t), qav _ (ha t) hne, qaz _ (hM t j)]
  ·obtain ⟨u, hu, e2⟩ : ∃ u, u < r ∧ sk i u = t := by
    by_cases h1 : t < i
    ·exact ⟨t, by omega, by unfold sk; rw [if_pos h1]⟩
    ·exact ⟨t - 1, by omega, by unfold sk; rw [if_neg (by omega)]; omega⟩
   rw [← e2]
   exact qa8 hE hu
 have := h.le hle
 omega
/-- A matrix of full rank has an inverse. -/
theorem inv_ex {M : Nat → Nat → Nat} (hM : El2 M) {r : Nat} (hc : ∀ i j, i < r → r ≤ j → M i j = 0) (h : Rk M r r) : ∃ A, El2 A ∧ (∀ i j, i < r → j < r → pr A M r i j = dl i j) ∧ ∀ i j, i < r → j < r → pr M A r i j = dl i j := by
 have hI := h.ind hM
 -- each unit row is a combination
 have hu : ∀ i, i < r → Spn M r (dl i) := by
  intro i hi
  apply Classical.byContradiction
  intro hno
  -- M with dl i behind it
  have hE : El2 (fun t => if t < r then M t else dl i) := fun t j => by
   show (if t < r then M t else dl i) j < 256
   split
   ·exact hM t j
   ·exact qf3 i j
  have h1 : Rk (fun t => if t < r then M t else dl i) r r := h.at (fun t j ht => by show (if t < r then M t else dl i) j = _; rw [if_pos ht])
  have h2 := h1.more hE (fun hs => hno (by
   rw [if_neg (Nat.lt_irrefl r)] at hs
   exact hs.rows (fun t j ht => by show (if t < r then M t else dl i) j = _; rw [if_pos ht])))
  have hD : El2 dl := fun t j => qf3 t j
  have hle : Le (fun t => if t < r then M t else dl i) (r + 1) dl r := by
   intro t _
   have key : ∀ y : Nat → Nat, El y → (∀ j, r ≤ j → y j = 0) → Spn dl r y := fun y hy hz => ⟨y, hy, fun j => by
    unfold lc
    by_cases hj : j < r
    ·rw [qb0 hj (fun t _ hne => by rw [qcd (Ne.symm hne), qa7]), qb1, qai _ (hy j)]
    ·rw [hz j (by omega)]
     exact (qad (fun t ht => by rw [qcd (by omega), qa7])).symm⟩
   by_cases ht : t < r
   ·have e : (fun t => if t < r then M t else dl i) t = M t := if_pos ht
    rw [e]
    exact key (M t) (hM t) (fun j hj => hc t j ht hj)
   ·have e : (fun t => if t < r then M t else dl i) t = dl i := if_neg ht
    rw [e]
    exact key (dl i) (qf3 i) (fun j hj => qcd (by omega))
  have := h2.le hle
  omega
 obtain ⟨A, hA, eA⟩ := (show Le dl r M r from hu).factors
 have hL : ∀ i j, i < r → pr A M r i j = dl i j := fun i j hi => (eA i hi j).symm
 refine ⟨A, hA, fun i j hi _ => hL i j hi, fun i j hi hj => ?_⟩
 -- (M A - I) M = 0
 have hd : El (fun t => pr M A r i t ^^^ dl i t) := fun t => qb6 _ _ (pr_el hM A r i t) (qf3 i t)
 have hz : ∀ l, lc (fun t => pr M A r i t ^^^ dl i t) M r l = 0 := fun l => by
  rw [lc_add (pr_el hM A r i) (qf3 i), lc_dl hM hi]
  have e1 : lc (pr M A r i) M r l = lc (M i) (fun t j => lc (A t) M r j) r l := (qfs (hM i) hA M r r l).symm
  have e2 : lc (M i) (fun t j => lc (A t) M r j) r l = M i l := by
   have : lc (M i) (fun t j => lc (A t) M r j) r l = xs (fun t => fm (M i t) (dl t l)) r := qa6 (fun t ht => by
    show fm (M i t) (pr A M r t l) = _
    rw [hL t l ht])
   rw [this]
   by_cases hl : l < r
   ·rw [qb0 hl (fun t _ hne => by rw [qcd (Ne.symm hne), qa7]), qb1, qai _ (hM i l)]
   ·rw [hc i l hi (by omega)]
    exact qad (fun t ht => by rw [qcd (by omega), qa7])
  rw [e1, e2, Nat.xor_self]
 exact qg9 (hI _ hd hz j hj)
open Go.RowKit
/-- A row of values. -/
def vrow (n : Nat) (v : Nat → Value) : Array Value := (Array.range n).map v
theorem qdq (n : Nat) (v : Nat → Value) : (vrow n v).size = n := by simp [vrow]
theorem vrow_get (n : Nat) (v : Nat → Value) (i : Nat) (h : i < n) : (vrow n v)[i]? = some (v i) := by simp [vrow, h]
theorem vrow_set (n : Nat) (v : Nat → Value) (i : Nat) (x : Value) : (vrow n v).setIfInBounds i x = vrow n (fun j => if j = i then x else v j) := by
 apply Array.ext
 ·simp [vrow]
 ·intro j h1 h2
  by_cases e : i = j
  ·subst e; simp [vrow]
  ·rw [Array.getElem_setIfInBounds_ne (by simpa using h1) e]; simp [vrow, Ne.symm e]
/-- A row of lists. -/
def VAt (w : World) (g n : Nat) (v : Nat → Value) : Prop := w.heap[g]? = some (.cells (vrow n v) 22 (0, 0))
theorem VAt.lt {w : World} {g n : Nat} {v : Nat → Value} (h : VAt w g n v) : g < w.heap.size := lt_of_block h
theorem VAt.cell {w : World} {g n : Nat} {v : Nat → Value} (h : VAt w g n v) (i : Nat) (hi : i < n) : w.cell? ⟨g, i, none⟩ = some (v i) := by rw [cell_of_row w g i _ _ _ h, vrow_get n v i hi]
theorem VAt.free {w : World} {g n : Nat} {v : Nat → Value} (h : VAt w g n v) (i : Nat) : w.frozen? ⟨g, i, none⟩ = false := by
 unfold VAt at h
 simp [World.frozen?, h]
theorem VAt.later {w w' : World} {g n : Nat} {v : Nat → Value} (h : VAt w g n v) (hb : Below w.heap.size w w') : VAt w' g n v := by unfold VAt; rw [hb.block g h.lt]; exact h
theorem VAt.congr {w : World} {g n : Nat} {v v' : Nat → Value} (h : VAt w g n v) (e : ∀ i, i < n → v i = v' i) : VAt w g n v' := by
 unfold VAt at *
 rw [h]
 congr 2
 apply Array.ext
 ·simp [vrow]
 ·intro i h1 h2
  simp [vrow]
  exact e i (by simpa [vrow] using h1)
theorem VAt.set {w : World} {g n : Nat} {v : Nat → Value} (h : VAt w g n v) (i : Nat) (x : Value) : VAt (w.setCell ⟨g, i, none⟩ x) g n (fun j => if j = i then x else v j) := by
 unfold VAt at *
 rw [setCell_eq_setRow w g i _ _ (0, 0) _ h, setRow_heap w g _ _ _ (0, 0) h, vrow_set]
theorem vmade_at {w1 : World} {base g n : Nat} (h : w1.ownsRow base 22 1 (.slice (some ⟨g, 0, none⟩) n n) n (madeCells (Value.slice none 0 0).cells (n * 1)).toList) : VAt w1 g n (fun _ => .slice none 0 0) := by
 rcases h.2 with ⟨h', _⟩ | ⟨g', cap', cur, h', _, hg, _, _, hs, htake⟩
 ·simp at h'
 ·simp only [Value.slice.injEq, Option.some.injEq, Addr.mk.injEq, and_true, true_and] at h'
  obtain ⟨rfl, rfl⟩ := h'
  unfold VAt
  rw [hg]
  congr 2
  apply Array.toList_inj.mp
  rw [List.take_of_length_le (by simp; omega)] at htake
  rw [htake, Nat.mul_one]
  show (madeCells #[Value.slice none 0 0] n).toList = _
  rw [toList_madeCells_one]
  apply List.ext_getElem
  ·simp [vrow]
  ·intro i h1 h2; simp [vrow]
theorem VAt.own {w : World} {g n B : Nat} {v : Nat → Value} (h : VAt w g n v) (hb : B ≤ g) (hn : n ≤ maxLen) : w.ownsRow B 22 1 (.slice (some ⟨g, 0, none⟩) n n) n (vrow n v).toList :=
 ⟨by simp [qdq], .inr ⟨g, n, vrow n v, rfl, hb, h, Nat.le_refl _, hn, by simp [qdq], List.take_of_length_le (by simp [qdq])⟩⟩
theorem info22 : (Try.prog.info? 22).map (fun i => (i.zero, i.size, i.bytes)) = some (some (.slice none 0 0), 1, 24) := by kernel_rfl
open Go.RowKit
theorem apf_lt {F : Nat → Nat} (X : Nat → Nat) {r c n : Nat} (hF : ∀ i, i < n → F i < 256) (R : Rt r c n) : ∀ i, i < r → apf F X c i < 256 := fun _ hi => qe1 fun _ ht => qah _ _ (hF _ (R.at hi ht))
open Go.RowKit
/-- The numbers of a list of four. -/
def four (a b c d i : Nat) : Nat := if i = 0 then a else if i = 1 then b else if i = 2 then c else d
/-- Every place of a matrix is a row and a column. -/
theorem place_of {r c n p : Nat} (R : Rt r c n) (hp : p < n) : ∃ i j, i < r ∧ j < c ∧ p = i * c + j := by
 have hl := R.len
 have hc : 0 < c := by
  rcases Nat.eq_zero_or_pos c with rfl | h
  ·omega
  ·exact h
 refine ⟨p / c, p % c, (Nat.div_lt_iff_lt_mul hc).2 (by rw [hl]; exact hp), Nat.mod_lt p hc, ?_⟩
 have := Nat.div_add_mod p c
 rw [Nat.mul_comm] at this
 exact this.symm
open Go.RowKit
/-- What Reduce answers of a right matrix. -/
def RedP (w w' : World) (e : Ending) (r c n : Nat) (F : Nat → Nat) : Prop := ∃ s d ps pd top p G, e = .returned (.tuple #[mv r c s n d, .slice ps top pd, .int .i64 0]) ∧ Mt w' s n d G ∧ Il w' ps top (fun i => (p i : Int)) ∧ Rdf (m2 G r c) r top p ∧ SpEq (m2 G r c) r (m2 F r c) r ∧ (∀ i, i < top → p i < c) ∧ Below w.heap.size w w'
theorem RedA.p {w w' : World} {e : Ending} {r c n : Nat} {F : Nat → Nat} (h : RedA w w' e r c n F) : RedP w w' e r c n F := by
 obtain ⟨s, d, ps, pd, top, p, G, he, ho, hi, hG, hr⟩ := h
 exact ⟨s, d, ps, pd, top, p, G, he, own_mt4 ho hG, hi.il, hr⟩
theorem RedP.later {w w1 w' : World} {e : Ending} {r c n : Nat} {F : Nat → Nat} (h : RedP w1 w' e r c n F) (hb : Below w.heap.size w w1) : RedP w w' e r c n F := by
 obtain ⟨s, d, ps, pd, top, p, G, he, hm, hi, hr, hs, hp, hb2⟩ := h
 exact ⟨s, d, ps, pd, top, p, G, he, hm, hi, hr, hs, hp, qa0 hb hb2⟩
theorem Il.congr {w : World} {b : Option Addr} {m : Nat} {q q' : Nat → Int} (h : Il w b m q) (e : ∀ i, i < m → q i = q' i) : Il w b m q' := fun i hi => by
 obtain ⟨x, o, ea, hc⟩ := h i hi
 exact ⟨x, o, ea, by rw [← e i hi]; exact hc⟩
end Go.Proofs.Ytokdejhbjoglcaa
