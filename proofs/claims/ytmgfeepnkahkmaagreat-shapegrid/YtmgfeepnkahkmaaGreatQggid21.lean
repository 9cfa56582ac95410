/-
  Contracts of the reference: First.
  Contract of the reference: Kernel.
  Contract of the reference: Kernel.
  Words for the reference's wide: the elimination in place, of up to 65 columns.
  Contract of the reference: wide.
  Words for the reference's Solve.
  Contract of the reference: Solve.
  Contracts of the reference: Kernel's and Solve's errors; Solve where there is something, and where there is nothing; words for Combine.
  Contract of the reference: Combine.
  Contract of the reference: Inverse.
  Contracts of the reference: Inverse's and Combine's errors; the laws' ints.
  What the program's gauss answers, in the forms that the laws' walks take (here over a scratch package that only calls the reference).
-/
import Derived.Test.YtmgfeepnkahkmaaGreatQggid00
import Derived.Test.YtmgfeepnkahkmaaGreatQggid20
import Derived.Test.YtmgfeepnkahkmaaGreatQggid16
set_option maxRecDepth 100000
set_option maxHeartbeats 16000000
namespace Go.Proofs.YtmgfeepnkahkmaaGreat
open Go.RowKit
/-- Column j is free. -/
def fre (p : Nat → Nat) (k j : Nat) : Bool := !pvt p k j
/-- The list of a free column f, as far as pivot i. -/
def kvp (R : Nat → Nat → Nat) (p : Nat → Nat) (f i j : Nat) : Nat := if j = f then 1 else pp p i (fun t => R t f) j
theorem kvp_zero (R : Nat → Nat → Nat) (p : Nat → Nat) (f j : Nat) : kvp R p f 0 j = if j = f then 1 else 0 := rfl
theorem kvp_step {R : Nat → Nat → Nat} {p : Nat → Nat} {k f i : Nat} (up : ∀ i t, i < t → t < k → p i < p t) (hi : i < k) (hf : p i ≠ f) (j : Nat) : (if j = p i then R i f else kvp R p f i j) = kvp R p f (i + 1) j := by
 unfold kvp
 by_cases e : j = p i
 ·rw [if_pos e, if_neg (by omega)]
  have h1 : pp p (i + 1) (fun t => R t f) j = R i f := by rw [e]; exact pp_at (fun a b h1 h2 => up a b h1 (by omega)) _ (by omega)
  rw [h1]
 ·rw [if_neg e]
  by_cases e2 : j = f
  ·rw [if_pos e2, if_pos e2]
  ·rw [if_neg e2, if_neg e2]
   show _ = pp p i (fun t => R t f) j ^^^ (if p i = j then R i f else 0)
   rw [if_neg (fun h => e h.symm), Nat.xor_zero]
open Go.RowKit
theorem qia (F : Nat → Nat) {q : Nat → Nat} {r c t : Nat} (hq : ∀ u, u < t → q u < r) (j u : Nat) (hj : j < c) (hu : u < t) : m2 (trf (pkf F q c) t c) c t j u = m2 F r c (q u) j := by
 rw [qb9 _ hj hu, trf_at _ t c u j hu, qed _ _ _ _ _ hj, qb9 _ (hq u hu) hj]
open Go.RowKit
theorem qjk {w : World} {base n d : Nat} {s : Option Addr} {f : Nat → Nat} (h : w.ownsRow base 5 1 (.slice s n d) n (row n f).toList) (hf : ∀ i, i < n → f i < 256) : Mt w s n d f := by
 refine ⟨qd4 h hf, ?_, qcc h⟩
 rcases h.2 with ⟨e, h0⟩ | ⟨g, cap, cur, e, _, _, hc, _⟩
 ·cases e; omega
 ·cases e; omega
open Go.RowKit
/-- As many rows as the rank: they are independent. -/
theorem Rk.ind {M : Nat → Nat → Nat} (hM : El2 M) {r : Nat} (h : Rk M r r) : Ind M r := by
 intro a ha hz i hi
 apply Classical.byContradiction
 intro hne
 obtain ⟨r, rfl⟩ : ∃ r', r = r' + 1 := ⟨r - 1, by omega⟩
 have hle : Le M (r + 1) (fun u => M (sk i u)) r := by
  have hE : El2 (fun u => M (sk i u)) := fun u j => hM _ j
  intro t ht
  by_cases e : t = i
  ·subst e
   have hv := qac (a t)
   refine (qb1 hv ⟨fun u => a (sk t u), fun u => ha _, fun _ => rfl⟩ : Spn (fun u => M (sk t u)) r (fun j => fm (finv (a t)) (lc (fun u => a (sk t u)) (fun u => M (sk t u)) r j))).congr (fun j => ?_)
   have e1 := hz j
   rw [qiw (k := t) _ _ (by omega)] at e1
   have e2 := qix e1
   rw [← e2, ← qah _ _ _ hv (ha t), qaf _ _ hv (ha t), qav _ (ha t) hne, qay _ (hM t j)]
  ·obtain ⟨u, hu, e2⟩ : ∃ u, u < r ∧ sk i u = t := by
    by_cases h1 : t < i
    ·exact ⟨t, by omega, by unfold sk; rw [if_pos h1]⟩
    ·exact ⟨t - 1, by omega, by unfold sk; rw [if_neg (by omega)]; omega⟩
   rw [← e2]
   exact qa8 hE hu
 have := h.le hle
 omega
open Go.RowKit
/-- What Reduce answers of a right matrix. -/
def RedP (w w' : World) (e : Ending) (r c n : Nat) (F : Nat → Nat) : Prop := ∃ s d ps pd top p G, e = .returned (.tuple #[mv r c s n d, .slice ps top pd, .int .i64 0]) ∧ Mt w' s n d G ∧ Il w' ps top (fun i => (p i : Int)) ∧ Rdf (m2 G r c) r top p ∧ SpEq (m2 G r c) r (m2 F r c) r ∧ (∀ i, i < top → p i < c) ∧ Below w.heap.size w w'
theorem RedA.p {w w' : World} {e : Ending} {r c n : Nat} {F : Nat → Nat} (h : RedA w w' e r c n F) : RedP w w' e r c n F := by
 obtain ⟨s, d, ps, pd, top, p, G, he, ho, hi, hG, hr⟩ := h
 exact ⟨s, d, ps, pd, top, p, G, he, qjk ho hG, hi.il, hr⟩
theorem RedP.later {w w1 w' : World} {e : Ending} {r c n : Nat} {F : Nat → Nat} (h : RedP w1 w' e r c n F) (hb : Below w.heap.size w w1) : RedP w w' e r c n F := by
 obtain ⟨s, d, ps, pd, top, p, G, he, hm, hi, hr, hs, hp, hb2⟩ := h
 exact ⟨s, d, ps, pd, top, p, G, he, hm, hi, hr, hs, hp, qa0 hb hb2⟩
theorem Il.congr {w : World} {b : Option Addr} {m : Nat} {q q' : Nat → Int} (h : Il w b m q) (e : ∀ i, i < m → q i = q' i) : Il w b m q' := fun i hi => by
 obtain ⟨x, o, ea, hc⟩ := h i hi
 exact ⟨x, o, ea, by rw [← e i hi]; exact hc⟩
/-- What Kernel answers of a right matrix. -/
def KerP (w w' : World) (e : Ending) (r c : Nat) (F : Nat → Nat) : Prop := ∃ s d kr top p G H, e = .returned (.tuple #[mv (kr : Nat) c s (kr * c) d, .int .i64 0]) ∧ Mt w' s (kr * c) d H ∧ Rdf (m2 G r c) r top p ∧ SpEq (m2 G r c) r (m2 F r c) r ∧ (∀ i, i < top → p i < c) ∧ kr = cnt (fre p top) c ∧ (∀ u l, u < kr → l < c → H (u * c + l) = kv (m2 G r c) p top (nth (fre p top) c u) l) ∧ Below w.heap.size w w'
end Go.Proofs.YtmgfeepnkahkmaaGreat
