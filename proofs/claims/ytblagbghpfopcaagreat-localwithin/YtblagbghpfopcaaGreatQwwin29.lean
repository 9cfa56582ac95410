/-
  Contracts of the reference: First.
  Contract of the reference: Kernel.
  Contract of the reference: Kernel.
  Words for the reference's wide: the elimination in place, of up to 65 columns.
  Contract of the reference: wide.
  Words for the reference's Solve.
  Contract of the reference: Solve.
  Contracts of the reference: Kernel's and Solve's errors; Solve where there is something, and where there is nothing; words for Combine.
  Contract of the reference: Combine.
  Contract of the reference: Inverse.
  Contracts of the reference: Inverse's and Combine's errors; the laws' ints.
  Contracts of the program's matrices: ofRows, Of.
  Contracts of the program's matrices: Of.
  Contracts of the program's matrices: rowsOf.
  Contracts of the program's matrices: Stack.
  Contracts of the program's matrices: fillMultiples, Kron.
  The program's answers and the reference's, told alike: for each function what both answer.
  One product that the document fixes; what follows for products of matrices (grouped, transposed, applied, laid together); the program's answers by cases.
  What the program's gauss answers, in the forms that the laws' walks take (here over a scratch package that only calls the reference).
-/
import Derived.Test.YtblagbghpfopcaaGreatQwwin00
import Derived.Test.YtblagbghpfopcaaGreatQwwin16
import Derived.Test.YtblagbghpfopcaaGreatQwwin27
import Derived.Test.YtblagbghpfopcaaGreatQwwin08
set_option maxRecDepth 100000
set_option maxHeartbeats 16000000
namespace Go.Proofs.YtblagbghpfopcaaGreat
open Go.RowKit
/-- Column j is free. -/
def fre (p : Nat → Nat) (k j : Nat) : Bool := !pvt p k j
/-- The list of a free column f, as far as pivot i. -/
def kvp (R : Nat → Nat → Nat) (p : Nat → Nat) (f i j : Nat) : Nat := if j = f then 1 else pp p i (fun t => R t f) j
theorem kvp_zero (R : Nat → Nat → Nat) (p : Nat → Nat) (f j : Nat) : kvp R p f 0 j = if j = f then 1 else 0 := rfl
theorem kvp_step {R : Nat → Nat → Nat} {p : Nat → Nat} {k f i : Nat} (up : ∀ i t, i < t → t < k → p i < p t) (hi : i < k) (hf : p i ≠ f) (j : Nat) : (if j = p i then R i f else kvp R p f i j) = kvp R p f (i + 1) j := by
 unfold kvp
 by_cases e : j = p i
 ·rw [if_pos e, if_neg (by omega)]
  have h1 : pp p (i + 1) (fun t => R t f) j = R i f := by rw [e]; exact pp_at (fun a b h1 h2 => up a b h1 (by omega)) _ (by omega)
  rw [h1]
 ·rw [if_neg e]
  by_cases e2 : j = f
  ·rw [if_pos e2, if_pos e2]
  ·rw [if_neg e2, if_neg e2]
   show _ = pp p i (fun t => R t f) j ^^^ (if p i = j then R i f else 0)
   rw [if_neg (fun h => e h.symm), Nat.xor_zero]
open Go.RowKit
def ext0 (X : Nat → Nat) (r i : Nat) : Nat := if i < r then X i else 0
theorem qlg {X : Nat → Nat} {r : Nat} (h : ∀ i, i < r → X i < 256) : El (ext0 X r) := fun i => by unfold ext0; split; exact h _ (by assumption); decide
/-- What Solve answers: what is sent to b, with 0 at the free columns. -/
def SolA (F X : Nat → Nat) (r c : Nat) (x : Nat → Nat) : Prop := El x ∧ Sol (m2 F r c) r c (ext0 X r) x ∧ ∃ R k p, El2 R ∧ Rdf R r k p ∧ SpEq R r (m2 F r c) r ∧ (∀ i, i < k → p i < c) ∧ ∀ j, j < c → pvt p k j = false → x j = 0
theorem qhe {p : Nat → Nat} {k i : Nat} (up : ∀ i t, i < t → t < k → p i < p t) (hi : i < k) (v : Nat → Nat) (j : Nat) : (if j = p i then v i else pp p i v j) = pp p (i + 1) v j := by
 by_cases e : j = p i
 ·rw [if_pos e, e]
  exact (pp_at (fun a b h1 h2 => up a b h1 (by omega)) _ (by omega)).symm
 ·rw [if_neg e]
  show _ = pp p i v j ^^^ (if p i = j then v i else 0)
  rw [if_neg (fun h => e h.symm), Nat.xor_zero]
open Go.RowKit
theorem qjk (F : Nat → Nat) {q : Nat → Nat} {r c t : Nat} (hq : ∀ u, u < t → q u < r) (j u : Nat) (hj : j < c) (hu : u < t) : m2 (trf (pkf F q c) t c) c t j u = m2 F r c (q u) j := by
 rw [qb1 _ hj hu, qf8 _ t c u j hu, qf9 _ _ _ _ _ hj, qb1 _ (hq u hu) hj]
/-- What Combine answers. -/
def CmbA (F Y : Nat → Nat) (r c : Nat) (x : Nat → Nat) : Prop := OnF (m2 F r c) r x ∧ ∀ j, ext0 Y c j = lc x (m2 F r c) r j
open Go.RowKit
theorem own_mt4 {w : World} {base n d : Nat} {s : Option Addr} {f : Nat → Nat} (h : w.ownsRow base 5 1 (.slice s n d) n (row n f).toList) (hf : ∀ i, i < n → f i < 256) : Mt w s n d f := by
 refine ⟨qdh h hf, ?_, qcl h⟩
 rcases h.2 with ⟨e, h0⟩ | ⟨g, cap, cur, e, _, _, hc, _⟩
 ·cases e; omega
 ·cases e; omega
theorem qg1 {F : Nat → Nat} {r c n : Nat} (hF : ∀ i, i < n → F i < 256) (R : Rt r c n) : ∀ p, p < n → trf F r c p < 256 := by
 intro p hp
 have hl := R.len
 have hr : 0 < r := by
  rcases Nat.eq_zero_or_pos r with rfl | h
  ·omega
  ·exact h
 unfold trf
 exact hF _ (R.at (Nat.mod_lt p hr) ((Nat.div_lt_iff_lt_mul hr).2 (by rw [Nat.mul_comm, hl]; exact hp)))
open Go.RowKit
/-- As many rows as the rank: they are independent. -/
theorem Rk.ind {M : Nat → Nat → Nat} (hM : El2 M) {r : Nat} (h : Rk M r r) : Ind M r := by
 intro a ha hz i hi
 apply Classical.byContradiction
 intro hne
 obtain ⟨r, rfl⟩ : ∃ r', r = r' + 1 := ⟨r - 1, by omega⟩
 have hle : Le M (r + 1) (fun u => M (sk i u)) r := by
  have hE : El2 (fun u => M (sk i u)) := fun u j => hM _ j
  intro t ht
  by_cases e : t = i
  ·subst e
   have hv := qae (a t)
   refine (qb4 hv ⟨fun u => a (sk t u), fun u => ha _, fun _ => rfl⟩ : Spn (fun u => M (sk t u)) r (fun j => fm (finv (a t)) (lc (fun u => a (sk t u)) (fun u => M (sk t u)) r j))).congr (fun j => ?_)
   have e1 := hz j
   rw [qkm (k := t) _ _ (by omega)] at e1
   have e2 := qe9 e1
   rw [← e2, ← qam _ _ _ hv (ha t), qac _ _ hv (ha t), qau _ (ha t) hne, qaz _ (hM t j)]
  ·obtain ⟨u, hu, e2⟩ : ∃ u, u < r ∧ sk i u = t := by
    by_cases h1 : t < i
    ·exact ⟨t, by omega, by unfold sk; rw [if_pos h1]⟩
    ·exact ⟨t - 1, by omega, by unfold sk; rw [if_neg (by omega)]; omega⟩
   rw [← e2]
   exact qab hE hu
 have := h.le hle
 omega
open Go.RowKit
/-- A row of values. -/
def vrow (n : Nat) (v : Nat → Value) : Array Value := (Array.range n).map v
theorem qen (n : Nat) (v : Nat → Value) : (vrow n v).size = n := by simp [vrow]
theorem qij (n : Nat) (v : Nat → Value) (i : Nat) (h : i < n) : (vrow n v)[i]? = some (v i) := by simp [vrow, h]
theorem vrow_set (n : Nat) (v : Nat → Value) (i : Nat) (x : Value) : (vrow n v).setIfInBounds i x = vrow n (fun j => if j = i then x else v j) := by
 apply Array.ext
 ·simp [vrow]
 ·intro j h1 h2
  by_cases e : i = j
  ·subst e; simp [vrow]
  ·rw [Array.getElem_setIfInBounds_ne (by simpa using h1) e]; simp [vrow, Ne.symm e]
/-- A row of lists. -/
def VAt (w : World) (g n : Nat) (v : Nat → Value) : Prop := w.heap[g]? = some (.cells (vrow n v) 22 (0, 0))
theorem VAt.lt {w : World} {g n : Nat} {v : Nat → Value} (h : VAt w g n v) : g < w.heap.size := lt_of_block h
theorem VAt.cell {w : World} {g n : Nat} {v : Nat → Value} (h : VAt w g n v) (i : Nat) (hi : i < n) : w.cell? ⟨g, i, none⟩ = some (v i) := by rw [cell_of_row w g i _ _ _ h, qij n v i hi]
theorem VAt.free {w : World} {g n : Nat} {v : Nat → Value} (h : VAt w g n v) (i : Nat) : w.frozen? ⟨g, i, none⟩ = false := by
 unfold VAt at h
 simp [World.frozen?, h]
theorem VAt.later {w w' : World} {g n : Nat} {v : Nat → Value} (h : VAt w g n v) (hb : Below w.heap.size w w') : VAt w' g n v := by unfold VAt; rw [hb.block g h.lt]; exact h
theorem VAt.congr {w : World} {g n : Nat} {v v' : Nat → Value} (h : VAt w g n v) (e : ∀ i, i < n → v i = v' i) : VAt w g n v' := by
 unfold VAt at *
 rw [h]
 congr 2
 apply Array.ext
 ·simp [vrow]
 ·intro i h1 h2
  simp [vrow]
  exact e i (by simpa [vrow] using h1)
theorem VAt.set {w : World} {g n : Nat} {v : Nat → Value} (h : VAt w g n v) (i : Nat) (x : Value) : VAt (w.setCell ⟨g, i, none⟩ x) g n (fun j => if j = i then x else v j) := by
 unfold VAt at *
 rw [setCell_eq_setRow w g i _ _ (0, 0) _ h, setRow_heap w g _ _ _ (0, 0) h, vrow_set]
theorem vmade_at {w1 : World} {base g n : Nat} (h : w1.ownsRow base 22 1 (.slice (some ⟨g, 0, none⟩) n n) n (madeCells (Value.slice none 0 0).cells (n * 1)).toList) : VAt w1 g n (fun _ => .slice none 0 0) := by
 rcases h.2 with ⟨h', _⟩ | ⟨g', cap', cur, h', _, hg, _, _, hs, htake⟩
 ·simp at h'
 ·simp only [Value.slice.injEq, Option.some.injEq, Addr.mk.injEq, and_true, true_and] at h'
  obtain ⟨rfl, rfl⟩ := h'
  unfold VAt
  rw [hg]
  congr 2
  apply Array.toList_inj.mp
  rw [List.take_of_length_le (by simp; omega)] at htake
  rw [htake, Nat.mul_one]
  show (madeCells #[Value.slice none 0 0] n).toList = _
  rw [toList_madeCells_one]
  apply List.ext_getElem
  ·simp [vrow]
  ·intro i h1 h2; simp [vrow]
theorem VAt.own {w : World} {g n B : Nat} {v : Nat → Value} (h : VAt w g n v) (hb : B ≤ g) (hn : n ≤ maxLen) : w.ownsRow B 22 1 (.slice (some ⟨g, 0, none⟩) n n) n (vrow n v).toList :=
 ⟨by simp [qen], .inr ⟨g, n, vrow n v, rfl, hb, h, Nat.le_refl _, hn, by simp [qen], List.take_of_length_le (by simp [qen])⟩⟩
theorem info22 : (Tryz.prog.info? 22).map (fun i => (i.zero, i.size, i.bytes)) = some (some (.slice none 0 0), 1, 24) := by kernel_rfl
open Go.RowKit
theorem trf_all {F : Nat → Nat} {r c n : Nat} (hF : ∀ i, i < n → F i < 256) (R : Rt r c n) : ∀ p, p < n → trf F r c p < 256 := by
 intro p hp
 have hl := R.len
 have hr : 0 < r := by
  rcases Nat.eq_zero_or_pos r with rfl | h
  ·omega
  ·exact h
 unfold trf
 exact hF _ (R.at (Nat.mod_lt p hr) ((Nat.div_lt_iff_lt_mul hr).2 (by rw [Nat.mul_comm, hl]; exact hp)))
open Go.RowKit
/-- Every place of a matrix is a row and a column. -/
theorem place_of {r c n p : Nat} (R : Rt r c n) (hp : p < n) : ∃ i j, i < r ∧ j < c ∧ p = i * c + j := by
 have hl := R.len
 have hc : 0 < c := by
  rcases Nat.eq_zero_or_pos c with rfl | h
  ·omega
  ·exact h
 refine ⟨p / c, p % c, (Nat.div_lt_iff_lt_mul hc).2 (by rw [hl]; exact hp), Nat.mod_lt p hc, ?_⟩
 have := Nat.div_add_mod p c
 rw [Nat.mul_comm] at this
 exact this.symm
open Go.RowKit
/-- What Reduce answers of a right matrix. -/
def RedP (w w' : World) (e : Ending) (r c n : Nat) (F : Nat → Nat) : Prop := ∃ s d ps pd top p G, e = .returned (.tuple #[mv r c s n d, .slice ps top pd, .int .i64 0]) ∧ Mt w' s n d G ∧ Il w' ps top (fun i => (p i : Int)) ∧ Rdf (m2 G r c) r top p ∧ SpEq (m2 G r c) r (m2 F r c) r ∧ (∀ i, i < top → p i < c) ∧ Below w.heap.size w w'
theorem RedA.p {w w' : World} {e : Ending} {r c n : Nat} {F : Nat → Nat} (h : RedA w w' e r c n F) : RedP w w' e r c n F := by
 obtain ⟨s, d, ps, pd, top, p, G, he, ho, hi, hG, hr⟩ := h
 exact ⟨s, d, ps, pd, top, p, G, he, own_mt4 ho hG, hi.il, hr⟩
theorem RedP.later {w w1 w' : World} {e : Ending} {r c n : Nat} {F : Nat → Nat} (h : RedP w1 w' e r c n F) (hb : Below w.heap.size w w1) : RedP w w' e r c n F := by
 obtain ⟨s, d, ps, pd, top, p, G, he, hm, hi, hr, hs, hp, hb2⟩ := h
 exact ⟨s, d, ps, pd, top, p, G, he, hm, hi, hr, hs, hp, qa0 hb hb2⟩
theorem Il.congr {w : World} {b : Option Addr} {m : Nat} {q q' : Nat → Int} (h : Il w b m q) (e : ∀ i, i < m → q i = q' i) : Il w b m q' := fun i hi => by
 obtain ⟨x, o, ea, hc⟩ := h i hi
 exact ⟨x, o, ea, by rw [← e i hi]; exact hc⟩
/-- What Kernel answers of a right matrix. -/
def KerP (w w' : World) (e : Ending) (r c : Nat) (F : Nat → Nat) : Prop := ∃ s d kr top p G H, e = .returned (.tuple #[mv (kr : Nat) c s (kr * c) d, .int .i64 0]) ∧ Mt w' s (kr * c) d H ∧ Rdf (m2 G r c) r top p ∧ SpEq (m2 G r c) r (m2 F r c) r ∧ (∀ i, i < top → p i < c) ∧ kr = cnt (fre p top) c ∧ (∀ u l, u < kr → l < c → H (u * c + l) = kv (m2 G r c) p top (nth (fre p top) c u) l) ∧ Below w.heap.size w w'
end Go.Proofs.YtblagbghpfopcaaGreat
