/-
  Contracts of the reference: First.
  Contract of the reference: Kernel.
-/
import Derived.Test.YtokdejhbjoglcaaQffal00
import Derived.Test.YtokdejhbjoglcaaQffal21
set_option maxRecDepth 100000
set_option maxHeartbeats 16000000
namespace Go.Proofs.Ytokdejhbjoglcaa
open Go.RowKit
/-- The places below r of the rows that are no combinations of those above, rising. -/
structure FstL (M : Nat → Nat → Nat) (r t : Nat) (q : Nat → Nat) : Prop where
 up : ∀ i j, i < j → j < t → q i < q j
 lt : ∀ i, i < t → q i < r
 is : ∀ i, i < t → Fst M (q i)
 all : ∀ i, i < r → Fst M i → ∃ u, u < t ∧ q u = i
theorem FstL.same {M : Nat → Nat → Nat} {r t : Nat} {q : Nat → Nat} (h : FstL M r t q) (hs : Spn M r (M r)) : FstL M (r + 1) t q :=
 ⟨h.up, fun i hi => by have := h.lt i hi; omega, h.is, fun i hi hf => by
  by_cases e : i = r
  ·subst e; exact absurd hs hf
  ·exact h.all i (by omega) hf⟩
theorem FstL.more {M : Nat → Nat → Nat} {r t : Nat} {q : Nat → Nat} (h : FstL M r t q) (hs : ¬ Spn M r (M r)) : FstL M (r + 1) (t + 1) (fun i => if i = t then r else q i) := by
 refine ⟨fun i j hij hj => ?_, fun i hi => ?_, fun i hi => ?_, fun i hi hf => ?_⟩
 ·show (if i = t then r else q i) < (if j = t then r else q j)
  rw [if_neg (by omega)]
  split
  ·exact h.lt i (by omega)
  ·exact h.up i j hij (by omega)
 ·show (if i = t then r else q i) < r + 1
  split
  ·omega
  ·have := h.lt i (by omega); omega
 ·show Fst M (if i = t then r else q i)
  split
  ·exact hs
  ·exact h.is i (by omega)
 ·by_cases e : i = r
  ·exact ⟨t, by omega, by rw [if_pos rfl, e]⟩
  ·obtain ⟨u, hu, e2⟩ := h.all i (by omega) hf
   exact ⟨u, by omega, by rw [if_neg (by omega)]; exact e2⟩
theorem FstL.unique {M : Nat → Nat → Nat} {r t u : Nat} {p q : Nat → Nat} (h : FstL M r t p) (g : FstL M r u q) : t = u ∧ ∀ i, i < t → p i = q i :=
 qd0 h.up g.up (fun i hi => by obtain ⟨v, hv, e⟩ := g.all _ (h.lt i hi) (h.is i hi); exact ⟨v, hv, e.symm⟩) (fun i hi => by obtain ⟨v, hv, e⟩ := h.all _ (g.lt i hi) (g.is i hi); exact ⟨v, hv, e.symm⟩)
open Go.RowKit
/-- Column j is free. -/
def fre (p : Nat → Nat) (k j : Nat) : Bool := !pvt p k j
/-- The list of a free column f, as far as pivot i. -/
def kvp (R : Nat → Nat → Nat) (p : Nat → Nat) (f i j : Nat) : Nat := if j = f then 1 else pp p i (fun t => R t f) j
theorem qgf {R : Nat → Nat → Nat} {p : Nat → Nat} {k f i : Nat} (up : ∀ i t, i < t → t < k → p i < p t) (hi : i < k) (hf : p i ≠ f) (j : Nat) : (if j = p i then R i f else kvp R p f i j) = kvp R p f (i + 1) j := by
 unfold kvp
 by_cases e : j = p i
 ·rw [if_pos e, if_neg (by omega)]
  have h1 : pp p (i + 1) (fun t => R t f) j = R i f := by rw [e]; exact pp_at (fun a b h1 h2 => up a b h1 (by omega)) _ (by omega)
  rw [h1]
 ·rw [if_neg e]
  by_cases e2 : j = f
  ·rw [if_pos e2, if_pos e2]
  ·rw [if_neg e2, if_neg e2]
   show _ = pp p i (fun t => R t f) j ^^^ (if p i = j then R i f else 0)
   rw [if_neg (fun h => e h.symm), Nat.xor_zero]
theorem qiw {R : Nat → Nat → Nat} (hR : El2 R) (p : Nat → Nat) (f i j : Nat) : kvp R p f i j < 256 := by
 unfold kvp
 split
 ·decide
 ·exact pp_el p i (fun t => hR t f) j
/-- What Kernel's loop keeps. -/
structure NuInv (w wr : World) (B br bo r c n k top j : Nat) (p : Nat → Nat) (a s : Option Addr) (d : Nat) (v : Value) (so : Option Addr) (dd : Nat) (G H : Nat → Nat) : Prop where
 va : Vr wr w.heap.size (.int .i64 (r : Int)) (.int .i64 (c : Int)) (.slice a n k)
 vz : Vr wr (w.heap.size + 1) (.int .i64 0) (.int .i64 0) (.slice none 0 0)
 vr : Vr wr br (.int .i64 (r : Int)) (.int .i64 (c : Int)) (.slice s n d)
 vo : Vr wr bo (.int .i64 ((cnt (fre p top) j : Nat) : Int)) (.int .i64 (c : Int)) (.slice so (cnt (fre p top) j * c) dd)
 data : Ob wr w.heap.size (.slice s n d) n G
 piv : Oi wr w.heap.size v top p
 out : Ob wr B (.slice so (cnt (fre p top) j * c) dd) (cnt (fre p top) j * c) H
 off : ∀ g, (Value.slice s n d).ownBlock = some g → g < B
 rows : ∀ u l, u < cnt (fre p top) j → l < c → H (u * c + l) = kv (m2 G r c) p top (nth (fre p top) c u) l
 lt : ∀ q, q < cnt (fre p top) j * c → H q < 256
 ne : br ≠ bo
 low : w.heap.size + 1 < br
 lowo : w.heap.size + 1 < bo
 hB : w.heap.size + 1 < B
 below : Below w.heap.size w wr
theorem NuInv.later {w wr w' : World} {B br bo r c n k top j d dd : Nat} {p : Nat → Nat} {a s so : Option Addr} {v : Value} {G H : Nat → Nat} (I : NuInv w wr B br bo r c n k top j p a s d v so dd G H) (hb : Below wr.heap.size wr w') : NuInv w w' B br bo r c n k top j p a s d v so dd G H :=
 ⟨I.va.later hb, I.vz.later hb, I.vr.later hb, I.vo.later hb, I.data.later hb, I.piv.later hb, I.out.later hb, I.off, I.rows, I.lt, I.ne, I.low, I.lowo, I.hB, qa0 I.below hb⟩
/-- A block that none of these has is written. -/
theorem NuInv.kept {w wr w' : World} {B br bo r c n k top j d dd g : Nat} {p : Nat → Nat} {a s so : Option Addr} {v : Value} {G H : Nat → Nat} (I : NuInv w wr B br bo r c n k top j p a s d v so dd G H) (hg : wr.grownBy w' (some g)) (h1 : w.heap.size + 1 < g) (h2 : br ≠ g) (h3 : bo ≠ g) (h4 : (Value.slice s n d).ownBlock ≠ some g) (h5 : v.ownBlock ≠ some g) (h6 : (Value.slice so (cnt (fre p top) j * c) dd).ownBlock ≠ some g) : NuInv w w' B br bo r c n k top j p a s d v so dd G H :=
 ⟨I.va.kept hg (by omega), I.vz.kept hg (by omega), I.vr.kept hg h2, I.vo.kept hg h3, I.data.kept hg (.inr h4), I.piv.kept hg (.inr h5), I.out.kept hg (.inr h6), I.off, I.rows, I.lt, I.ne, I.low, I.lowo, I.hB, qa5 I.below hg (by omega)⟩
theorem NuInv.skip {w wr : World} {B br bo r c n k top j d dd : Nat} {p : Nat → Nat} {a s so : Option Addr} {v : Value} {G H : Nat → Nat} (I : NuInv w wr B br bo r c n k top j p a s d v so dd G H) (h : fre p top j = false) : NuInv w wr B br bo r c n k top (j + 1) p a s d v so dd G H := by
 have e := qe0 (P := fre p top) h
 exact ⟨I.va, I.vz, I.vr, by rw [e]; exact I.vo, I.data, I.piv, by rw [e]; exact I.out, I.off, by rw [e]; exact I.rows, by rw [e]; exact I.lt, I.ne, I.low, I.lowo, I.hB, I.below⟩
/-- The next row is put behind. -/
theorem NuInv.more {w wr w1 w2 w3 : World} {B br bo r c n k top j d dd : Nat} {p : Nat → Nat} {a s so so' : Option Addr} {dd' : Nat} {v : Value} {G H : Nat → Nat} (I : NuInv w wr B br bo r c n k top j p a s d v so dd G H) (hM : El2 (m2 G r c)) (h : fre p top j = true) (hj : j < c)
  (e1 : w1 = wr.setCell ⟨bo, 0, none⟩ (.int .i64 ((cnt (fre p top) (j + 1) : Nat) : Int))) (ho : w2.ownsRow B 5 1 (.slice so' (cnt (fre p top) j * c + c) dd') (cnt (fre p top) j * c + c) ((row (cnt (fre p top) j * c) H).toList ++ (row c (kvp (m2 G r c) p j top)).toList)) (hg : w1.grownBy w2 (Value.slice so (cnt (fre p top) j * c) dd).ownBlock)
  (e3 : w3 = w2.setCell ⟨bo, 2, none⟩ (.slice so' (cnt (fre p top) j * c + c) dd')) :
  NuInv w w3 B br bo r c n k top (j + 1) p a s d v so' dd' G (stf H (kvp (m2 G r c) p j top) (cnt (fre p top) j * c)) := by
 have ec := qbq (P := fre p top) h
 have eN : cnt (fre p top) (j + 1) * c = cnt (fre p top) j * c + c := by rw [ec, Nat.add_mul, Nat.one_mul]
 have g1 : wr.grownBy w1 (some bo) := by rw [e1]; exact qa2 _ _ _ _
 have g3 : w2.grownBy w3 (some bo) := by rw [e3]; exact qa2 _ _ _ _
 rw [qio] at ho
 have ho2 : Ob w2 B (.slice so' (cnt (fre p top) j * c + c) dd') (cnt (fre p top) j * c + c) (stf H (kvp (m2 G r c) p j top) (cnt (fre p top) j * c)) := ho
 have n0 := qaa I.out I.va
 have n1 := qaa I.out I.vz
 have n2 := qaa I.out I.vr
 have n3 := qaa I.out I.vo
 have vo1 : Vr w1 bo (.int .i64 ((cnt (fre p top) (j + 1) : Nat) : Int)) (.int .i64 (c : Int)) (.slice so (cnt (fre p top) j * c) dd) := by rw [e1]; exact I.vo.set0 _
 have vo2 := vo1.grown hg n3
 have hlo := I.lowo
 have hlr := I.low
 have hB := I.hB
 have d1 : (Value.slice s n d).ownBlock = none ∨ (Value.slice s n d).ownBlock ≠ (Value.slice so (cnt (fre p top) j * c) dd).ownBlock := by
  cases hs : (Value.slice s n d).ownBlock with
  | none => exact .inl rfl
  | some g =>
   refine .inr (fun e => ?_)
   have h1 := I.off g hs
   have h2 := (I.out.base e.symm).1
   omega
 have d2 : v.ownBlock = none ∨ v.ownBlock ≠ (Value.slice so (cnt (fre p top) j * c) dd).ownBlock := by
  cases hs : v.ownBlock with
  | none => exact .inl rfl
  | some g => exact .inr (fun e => qd3 I.out I.piv e.symm hs)
 refine ⟨((I.va.kept g1 (by omega)).grown hg n0).kept g3 (by omega), ((I.vz.kept g1 (by omega)).grown hg n1).kept g3 (by omega), ((I.vr.kept g1 I.ne).grown hg n2).kept g3 I.ne, ?_, ((I.data.kept g1 (.inr (qaa I.data I.vo))).kept hg d1).kept g3 (.inr (qaa ((I.data.kept g1 (.inr (qaa I.data I.vo))).kept hg d1) vo2)), ((I.piv.kept g1 (.inr (qb4 I.piv I.vo))).kept hg d2).kept g3 (.inr (qb4 ((I.piv.kept g1 (.inr (qb4 I.piv I.vo))).kept hg d2) vo2)), ?_, I.off, ?_, ?_, I.ne, I.low, I.lowo, I.hB, ?_⟩
 ·rw [eN, e3]; exact vo2.set2 _
 ·rw [eN]; exact ho2.kept g3 (.inr (qaa ho2 vo2))
 ·intro u l hu hl
  unfold stf
  by_cases e : u = cnt (fre p top) j
  ·subst e
   rw [if_neg (by omega), Nat.add_sub_cancel_left, qfh hj h]
   rfl
  ·have hu' : u < cnt (fre p top) j := by rw [ec] at hu; omega
   have : (u + 1) * c ≤ cnt (fre p top) j * c := Nat.mul_le_mul_right c hu'
   rw [Nat.add_mul, Nat.one_mul] at this
   rw [if_pos (by omega)]
   exact I.rows u l hu' hl
 ·rw [eN]
  intro q hq
  unfold stf
  split
  ·exact I.lt q (by omega)
  ·exact qiw hM p j top _
 ·have b1 : Below w.heap.size w w1 := qa5 I.below g1 (by omega)
  have b2 : Below w.heap.size w w2 := by
   cases hv : (Value.slice so (cnt (fre p top) j * c) dd).ownBlock with
   | none => rw [hv] at hg; exact qa0 b1 (qa8.mp hg)
   | some g => rw [hv] at hg; exact qa5 b1 hg (by have := (I.out.base hv).1; omega)
  exact qa5 b2 g3 (by omega)
end Go.Proofs.Ytokdejhbjoglcaa
