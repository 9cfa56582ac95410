/-
  Stage 21: to trim once more changes nothing; the trimmed flow costs no more.
-/
import Derived.Test.YtkfnedpnkeacpaaQllss00
import Derived.Test.YtkfnedpnkeacpaaQllss35
import Derived.Test.YtkfnedpnkeacpaaQllss37
import Derived.Test.YtkfnedpnkeacpaaQllss34
set_option maxRecDepth 100000
set_option maxHeartbeats 16000000
namespace Go.Proofs.Ytkfnedpnkeacpaa
open Go.RowKit
theorem ct_all {m : Nat → Bool} {n : Nat} (h : ∀ x, x < n → m x = true) : ∀ x, x ≤ n → ct m x = x := by
 intro x
 induction x with
 | zero => intro _; rfl
 | succ x ih => intro hx; rw [qcp (h x (by omega)), ih (by omega)]
theorem qdo {m : Nat → Bool} {n k : Nat} {g : Nat → Nat} (h : En (fun x => m x = true) n k g) (i : Nat) (hi : i < k) : ct m (g i) = i :=
 qf0 (g i) i g ⟨fun x hx => h.up x i hx hi, fun x hx => h.has x (by omega), fun x y hxy hy => h.up x y hxy (by omega), fun x hx hp => by
  have hg := h.lt i hi
  obtain ⟨y, hy, e⟩ := h.all x (by omega) hp
  refine ⟨y, ?_, e⟩
  rcases Nat.lt_trichotomy y i with e2 | e2 | e2
  ·exact e2
  ·rw [e2] at e; omega
  ·have := h.up i y e2 hy; omega⟩
theorem qf4 {F : Fl} {v : Nat} (h : v < F.ni) : tn F v = 0 := if_pos h
theorem qbu {F : Fl} {v : Nat} (h : F.ni ≤ v) : tn F v = F.nt (v - F.ni) := if_neg (by omega)
theorem tn_tr {F : Fl} {m : Nat → Bool} {N k : Nat} {g : Nat → Nat} (hk : ct m F.ni = k) {v : Nat} (hv : v < N) (hm : m v = true) : tn (trF F m N k g) (ct m v) = tn F v := by
 by_cases e : v < F.ni
 ·have h1 := qcq hm e
  rw [qf4 e, qf4 (show ct m v < (trF F m N k g).ni by show _ < k; omega)]
 ·obtain ⟨h1, h2, h3⟩ := qf2 (F := F) (N := N) (show F.ni ≤ v by omega) hv hm
  rw [qbu (show (trF F m N k g).ni ≤ ct m v by show k ≤ _; omega)]
  show ((nlm F m N).getD (ct m v - k) []).length = _
  rw [← hk, h3, qbt]
theorem tv_tr {F : Fl} {m : Nat → Bool} {N k : Nat} {g : Nat → Nat} (hk : ct m F.ni = k) {v j : Nat} (hv : v < N) (hm : m v = true) (hj : j < tn F v) : tv (trF F m N k g) (ct m v) j = ct m (tv F v j) := by
 have e : F.ni ≤ v := by
  by_cases e : v < F.ni
  ·rw [qf4 e] at hj; omega
  ·omega
 obtain ⟨h1, h2, h3⟩ := qf2 (F := F) (N := N) e hv hm
 show ((((nlm F m N).getD (ct m v - k) []).getD j (0, 0)).1).toNat = _
 rw [← hk, h3, qb8 hj]
 exact Int.toNat_natCast _
theorem hang_tr {F : Fl} (hM : MayP F) {m : Nat → Bool} {N k : Nat} {g : Nat → Nat} (hN : F.ni + F.nn = N) (hk : ct m F.ni = k) (hm : ∀ u, m u = true ↔ NeedP F u) : ∀ d v x, v < N → m v = true → hang F d v x → hang (trF F m N k g) d (ct m v) (ct m x) := by
 intro d
 induction d with
 | zero => intro v x _ _ h; rw [show v = x from h]; exact rfl
 | succ d ih =>
  intro v x hv hmv h
  obtain ⟨j, hj, hx⟩ := h
  refine ⟨j, by rw [tn_tr hk hv hmv]; exact hj, ?_⟩
  rw [tv_tr hk hv hmv hj]
  have h1 := (hM.term (v := v) (j := j) (by omega) hj).2.1
  exact ih _ _ (by omega) ((hm _).2 (((hm v).1 hmv).step hj)) hx
/-- All of a trimmed flow is needed. -/
theorem need_all {F : Fl} (hM : MayP F) {m : Nat → Bool} {N k : Nat} {g : Nat → Nat} (hN : F.ni + F.nn = N) (hk : ct m F.ni = k) (hm : ∀ u, m u = true ↔ NeedP F u) : ∀ x, x < k + (nlm F m N).length → NeedP (trF F m N k g) x := by
 intro x hx
 have hl := qcr (F := F) (m := m) N (by omega)
 obtain ⟨u, h1, h2, h3⟩ := ct_onto (m := m) N x (by omega)
 obtain ⟨o, ho, d, hd⟩ := (hm u).1 h2
 refine ⟨o, ho, d, ?_⟩
 show hang (trF F m N k g) d (((ct m (F.out o).toNat : Nat) : Int)).toNat x
 rw [Int.toNat_natCast, ← h3]
 exact hang_tr hM hN hk hm d _ _ (by have := hM.outLt ho; omega) ((hm _).2 ⟨o, ho, Hng.self _ _⟩) hd
/-- To trim once more changes nothing. -/
theorem qf5 {F : Fl} (hM : MayP F) {m : Nat → Bool} {N k : Nat} {g : Nat → Nat} (hN : F.ni + F.nn = N) (he : En (fun x => m x = true) F.ni k g) (hm : ∀ u, m u = true ↔ NeedP F u)
  {m' : Nat → Bool} {N' k' : Nat} {g' : Nat → Nat} (hN' : (trF F m N k g).ni + (trF F m N k g).nn = N') (he' : En (fun x => m' x = true) (trF F m N k g).ni k' g') (hm' : ∀ u, m' u = true ↔ NeedP (trF F m N k g) u) :
  EqF (trF (trF F m N k g) m' N' k' g') (trF F m N k g) := by
 have hk := qf0 _ _ _ he
 have hT := qf3 hM hN he hm
 have hal := need_all (g := g) hM hN hk hm
 have hN2 : k + (nlm F m N).length = N' := hN'
 have hca := ct_all (m := m') (n := N') (fun x hx => (hm' x).2 (hal x (by omega)))
 have hk' := qf0 _ _ _ he'
 have hin : ∀ i, (((trF F m N k g).inp i).toNat : Int) = (trF F m N k g).inp i := fun i => by show (((((F.inp (g i)).toNat : Nat) : Int).toNat : Nat) : Int) = _; rw [Int.toNat_natCast]; rfl
 have hout : ∀ i, (trF F m N k g).out i = ((ct m (F.out i).toNat : Nat) : Int) := fun _ => rfl
 have hni : (trF F m N k g).ni = k := rfl
 have hnn : (trF F m N k g).nn = (nlm F m N).length := rfl
 generalize hG : trF F m N k g = T at *
 have hkk : k' = k := by rw [← hk', hca _ (by omega), hni]
 have hl := qcr (F := T) (m := m') N' (by omega)
 rw [hca _ (Nat.le_refl _), hca _ (show T.ni ≤ N' by omega)] at hl
 refine ⟨⟨show k' = T.ni by omega, fun i hi => ?_⟩, ⟨show (nlm T m' N').length = T.nn by omega, fun i hi => ?_⟩, ⟨rfl, fun i hi => ?_⟩⟩
 ·have hi2 : i < k' := hi
  have h1 := qdo he' i hi2
  have h2 := he'.lt i hi2
  rw [hca _ (by omega)] at h1
  show (((T.inp (g' i)).toNat : Nat) : Int) = T.inp i
  rw [h1]; exact hin i
 ·have hi2 : i < (nlm T m' N').length := hi
  obtain ⟨u, u1, u2, u3, u4, u5⟩ := qd6 (F := T) (m := m') N' i hi2
  rw [hca u (by omega), hca _ (show T.ni ≤ N' by omega)] at u4
  have e : tn T u = T.nt i := by rw [qbu u1, u4, Nat.add_sub_cancel_left]
  refine ⟨?_, fun j hj => ?_⟩
  ·show ((nlm T m' N').getD i []).length = T.nt i
   rw [u5, qbt, e]
  ·have hj2 : j < ((nlm T m' N').getD i []).length := hj
   show (((nlm T m' N').getD i []).getD j (0, 0)).1 = T.of i j ∧ (((nlm T m' N').getD i []).getD j (0, 0)).2 = T.fc i j
   rw [u5] at hj2 ⊢
   rw [qbt] at hj2
   have h1 := hT.term (v := u) (j := j) (by omega) hj2
   have e2 : u - T.ni = i := by omega
   rw [e2] at h1
   rw [qb8 hj2, hca _ (by omega), e2]
   exact ⟨h1.1.symm, rfl⟩
 ·have h1 := hT.outLt hi
  show ((ct m' (T.out i).toNat : Nat) : Int) = T.out i
  rw [hca _ (by omega), hout i, Int.toNat_natCast]
theorem qf6 {f g : Nat → Nat} : ∀ n, (∀ i, i < n → f i = g i) → csm f n = csm g n := by
 intro n
 induction n with
 | zero => intro _; rfl
 | succ n ih =>
  intro h
  show csm f n + (f n - 1) = csm g n + (g n - 1)
  rw [ih (fun i hi => h i (by omega)), h n (by omega)]
theorem qcs {f g : Nat → Nat} : ∀ n, (∀ i, i < n → f i = g i) → cp1 f n = cp1 g n := by
 intro n
 induction n with
 | zero => intro _; rfl
 | succ n ih =>
  intro h
  show cp1 f n + (if f n = 1 then 0 else 1) = cp1 g n + (if g n = 1 then 0 else 1)
  rw [ih (fun i hi => h i (by omega)), h n (by omega)]
theorem qf7 {f g : Nat → Nat} {c d : Nat → Nat → Nat} : ∀ n, (∀ i, i < n → f i = g i ∧ ∀ j, j < f i → c i j = d i j) → cpr f c n = cpr g d n := by
 intro n
 induction n with
 | zero => intro _; rfl
 | succ n ih =>
  intro h
  show cpr f c n + cp1 (c n) (f n) = cpr g d n + cp1 (d n) (g n)
  rw [ih (fun i hi => h i (by omega)), qcs _ (h n (by omega)).2, (h n (by omega)).1]
/-- Its terms, its factors. -/
def lnt (L : List (List Trm)) (i : Nat) : Nat := (L.getD i []).length
def lfc (L : List (List Trm)) (i j : Nat) : Nat := ((L.getD i []).getD j (0, 0)).2
theorem qcd {L M : List (List Trm)} {i : Nat} (h : i < L.length) : (L ++ M).getD i [] = L.getD i [] := by
 rw [List.getD_eq_getElem?_getD, List.getD_eq_getElem?_getD, List.getElem?_append_left h]
theorem qdp {L : List (List Trm)} {r : List Trm} : (L ++ [r]).getD L.length [] = r := by
 rw [List.getD_eq_getElem?_getD, List.getElem?_append_right (Nat.le_refl _), Nat.sub_self]; rfl
theorem nlm_cost (F : Fl) (m : Nat → Bool) : ∀ d, csm (lnt (nlm F m (F.ni + d))) (nlm F m (F.ni + d)).length ≤ csm F.nt d ∧ cpr (lnt (nlm F m (F.ni + d))) (lfc (nlm F m (F.ni + d))) (nlm F m (F.ni + d)).length ≤ cpr F.nt F.fc d := by
 intro d
 induction d with
 | zero => rw [Nat.add_zero, qf1 _ (Nat.le_refl F.ni)]; exact ⟨Nat.le_refl _, Nat.le_refl _⟩
 | succ d ih =>
  have s1 : csm F.nt (d + 1) = csm F.nt d + (F.nt d - 1) := rfl
  have s2 : cpr F.nt F.fc (d + 1) = cpr F.nt F.fc d + cp1 (F.fc d) (F.nt d) := rfl
  rw [s1, s2, show F.ni + (d + 1) = (F.ni + d) + 1 from rfl]
  by_cases hm : m (F.ni + d) = true
  ·rw [qb7 ⟨by omega, hm⟩]
   generalize hL : nlm F m (F.ni + d) = L at *
   have et : tn F (F.ni + d) = F.nt d := by rw [qbu (by omega), Nat.add_sub_cancel_left]
   have el : (L ++ [rnt F m (F.ni + d)]).length = L.length + 1 := by rw [List.length_append]; rfl
   rw [el]
   have a1 : lnt (L ++ [rnt F m (F.ni + d)]) L.length = F.nt d := by unfold lnt; rw [qdp, qbt, et]
   constructor
   ·show csm _ L.length + (lnt (L ++ [rnt F m (F.ni + d)]) L.length - 1) ≤ _
    rw [a1, qf6 (g := lnt L) _ (fun i hi => by unfold lnt; rw [qcd hi])]
    have := ih.1
    omega
   ·show cpr _ _ L.length + cp1 (lfc (L ++ [rnt F m (F.ni + d)]) L.length) (lnt (L ++ [rnt F m (F.ni + d)]) L.length) ≤ _
    rw [a1, qf7 (g := lnt L) (d := lfc L) _ (fun i hi => ⟨by unfold lnt; rw [qcd hi], fun j _ => by unfold lfc; rw [qcd hi]⟩), qcs (g := F.fc d) _ (fun j hj => by
     unfold lfc
     rw [qdp, qb8 (by rw [et]; exact hj), Nat.add_sub_cancel_left])]
    have := ih.2
    omega
  ·rw [qbb (fun h => hm h.2)]
   have := ih.1
   have := ih.2
   constructor <;> omega
/-- The trimmed flow costs no more. -/
theorem trF_cost (F : Fl) (m : Nat → Bool) {N : Nat} (k : Nat) (g : Nat → Nat) (hN : F.ni + F.nn = N) : csm (trF F m N k g).nt (trF F m N k g).nn ≤ csm F.nt F.nn ∧ cpr (trF F m N k g).nt (trF F m N k g).fc (trF F m N k g).nn ≤ cpr F.nt F.fc F.nn := by
 rw [← hN]
 exact nlm_cost F m F.nn
end Go.Proofs.Ytkfnedpnkeacpaa
