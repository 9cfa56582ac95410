/-
  Stage 21: the trimmed flow may be.
-/
import Derived.Test.YtkfnedpnkeacpaaQllss00
import Derived.Test.YtkfnedpnkeacpaaQllss33
set_option maxRecDepth 100000
set_option maxHeartbeats 16000000
namespace Go.Proofs.Ytkfnedpnkeacpaa
open Go.RowKit
theorem qey {F : Fl} : ∀ k v u j, hang F k v u → j < tn F u → hang F (k + 1) v (tv F u j) := by
 intro k
 induction k with
 | zero => intro v u j h hj; rw [show v = u from h]; exact ⟨j, hj, rfl⟩
 | succ k ih =>
  intro v u j h hj
  obtain ⟨i, hi, hx⟩ := h
  exact ⟨i, hi, ih _ _ _ hx hj⟩
theorem NeedP.step {F : Fl} {u j : Nat} (h : NeedP F u) (hj : j < tn F u) : NeedP F (tv F u j) := by
 obtain ⟨o, ho, k, hk⟩ := h
 exact ⟨o, ho, k + 1, qey _ _ _ _ hk hj⟩
theorem hang_le {F : Fl} (hM : MayP F) : ∀ k v u, v < F.ni + F.nn → hang F k v u → u ≤ v := by
 intro k
 induction k with
 | zero => intro v u _ h; rw [show v = u from h]; exact Nat.le_refl _
 | succ k ih =>
  intro v u hv h
  obtain ⟨j, hj, hx⟩ := h
  have h1 := (hM.term hv hj).2.1
  have h2 := ih _ _ (by omega) hx
  omega
theorem MayP.outLt {F : Fl} (hM : MayP F) {o : Nat} (ho : o < F.no) : (F.out o).toNat < F.ni + F.nn := by
 have := hM.outs o ho
 omega
theorem NeedP.lt {F : Fl} (hM : MayP F) {u : Nat} (h : NeedP F u) : u < F.ni + F.nn := by
 obtain ⟨o, ho, k, hk⟩ := h
 have h1 := hM.outLt ho
 have h2 := hang_le hM k _ _ h1 hk
 omega
theorem ct_step (m : Nat → Bool) (u : Nat) : ct m u ≤ ct m (u + 1) := Nat.le_add_right _ _
theorem qez (m : Nat → Bool) : ∀ v u, u ≤ v → ct m u ≤ ct m v := by
 intro v
 induction v with
 | zero => intro u h; rw [Nat.le_zero.1 h]; exact Nat.le_refl _
 | succ v ih =>
  intro u h
  by_cases e : u = v + 1
  ·rw [e]; exact Nat.le_refl _
  ·exact Nat.le_trans (ih u (by omega)) (ct_step m v)
theorem qcp {m : Nat → Bool} {u : Nat} (h : m u = true) : ct m (u + 1) = ct m u + 1 := by
 show ct m u + (if m u = true then 1 else 0) = _
 rw [if_pos h]
theorem ct_no {m : Nat → Bool} {u : Nat} (h : ¬ m u = true) : ct m (u + 1) = ct m u := by
 show ct m u + (if m u = true then 1 else 0) = _
 rw [if_neg h]; rfl
theorem qcq {m : Nat → Bool} {u v : Nat} (h : m u = true) (huv : u < v) : ct m u < ct m v := by
 have h1 := qez m v (u + 1) huv
 rw [qcp h] at h1
 omega
theorem ct_inj {m : Nat → Bool} {u v : Nat} (hu : m u = true) (hv : m v = true) (e : ct m u = ct m v) : u = v := by
 rcases Nat.lt_trichotomy u v with h | h | h
 ·have := qcq hu h; omega
 ·exact h
 ·have := qcq hv h; omega
theorem ct_onto {m : Nat → Bool} : ∀ n x, x < ct m n → ∃ u, u < n ∧ m u = true ∧ ct m u = x := by
 intro n
 induction n with
 | zero => intro x h; exact absurd h (Nat.not_lt_zero _)
 | succ n ih =>
  intro x h
  by_cases hm : m n = true
  ·rw [qcp hm] at h
   by_cases e : x = ct m n
   ·exact ⟨n, by omega, hm, e.symm⟩
   ·obtain ⟨u, h1, h2, h3⟩ := ih x (by omega)
    exact ⟨u, by omega, h2, h3⟩
  ·rw [ct_no hm] at h
   obtain ⟨u, h1, h2, h3⟩ := ih x h
   exact ⟨u, by omega, h2, h3⟩
theorem qf0 {m : Nat → Bool} : ∀ n k (g : Nat → Nat), En (fun x => m x = true) n k g → ct m n = k := by
 intro n
 induction n with
 | zero =>
  intro k g h
  by_cases e : k = 0
  ·rw [e]; rfl
  ·exact absurd (h.lt 0 (by omega)) (Nat.not_lt_zero _)
 | succ n ih =>
  intro k g h
  by_cases hm : m n = true
  ·obtain ⟨i, hi, hg⟩ := h.all n (by omega) hm
   have hk : k = i + 1 := by
    by_cases e : i + 1 < k
    ·have h1 := h.up i (i + 1) (by omega) e
     have h2 := h.lt (i + 1) e
     omega
    ·omega
   rw [qcp hm, ih i g ⟨fun x hx => by have := h.up x i hx hi; omega, fun x hx => h.has x (by omega), fun x y hxy hy => h.up x y hxy (by omega), fun x hx hp => by
    obtain ⟨y, hy, e⟩ := h.all x (by omega) hp
    refine ⟨y, ?_, e⟩
    by_cases ey : y = i
    ·rw [ey] at e; omega
    ·omega⟩, hk]
  ·rw [ct_no hm, ih k g ⟨fun x hx => by
    have h1 := h.lt x hx
    by_cases e : g x = n
    ·have h2 := h.has x hx
     rw [e] at h2
     exact absurd h2 hm
    ·omega, h.has, h.up, fun x hx hp => h.all x (by omega) hp⟩]
theorem qf1 {F : Fl} {m : Nat → Bool} : ∀ v, v ≤ F.ni → nlm F m v = [] := by
 intro v
 induction v with
 | zero => intro _; rfl
 | succ v ih => intro h; rw [qbb (by omega)]; exact ih (by omega)
theorem qcr {F : Fl} {m : Nat → Bool} : ∀ v, F.ni ≤ v → (nlm F m v).length + ct m F.ni = ct m v := by
 intro v
 induction v with
 | zero => intro h; rw [show F.ni = 0 by omega]; exact Nat.zero_add _
 | succ v ih =>
  intro h
  by_cases e : F.ni = v + 1
  ·rw [qf1 _ (by omega), e]; exact Nat.zero_add _
  ·have h1 := ih (by omega)
   by_cases hm : m v = true
   ·rw [qb7 ⟨by omega, hm⟩, qcp hm, List.length_append]
    show _ + 1 + _ = _
    omega
   ·rw [qbb (fun h => hm h.2), ct_no hm]; exact h1
theorem qd6 {F : Fl} {m : Nat → Bool} : ∀ v i, i < (nlm F m v).length → ∃ u, F.ni ≤ u ∧ u < v ∧ m u = true ∧ ct m u = ct m F.ni + i ∧ (nlm F m v).getD i [] = rnt F m u := by
 intro v
 induction v with
 | zero => intro i h; exact absurd h (Nat.not_lt_zero _)
 | succ v ih =>
  intro i h
  by_cases hc : F.ni ≤ v ∧ m v = true
  ·rw [qb7 hc] at h ⊢
   have hl := qcr (F := F) (m := m) v hc.1
   by_cases e : i < (nlm F m v).length
   ·obtain ⟨u, h1, h2, h3, h4, h5⟩ := ih i e
    refine ⟨u, h1, by omega, h3, h4, ?_⟩
    rw [← h5, List.getD_eq_getElem?_getD, List.getD_eq_getElem?_getD, List.getElem?_append_left e]
   ·rw [List.length_append] at h
    have h2 : i < (nlm F m v).length + 1 := h
    have h3 : i = (nlm F m v).length := by omega
    refine ⟨v, hc.1, by omega, hc.2, by omega, ?_⟩
    rw [List.getD_eq_getElem?_getD, List.getElem?_append_right (by omega), h3, Nat.sub_self]
    rfl
  ·rw [qbb hc] at h ⊢
   obtain ⟨u, h1, h2, h3, h4, h5⟩ := ih i h
   exact ⟨u, h1, by omega, h3, h4, h5⟩
theorem qf2 {F : Fl} {m : Nat → Bool} {N u : Nat} (h1 : F.ni ≤ u) (h2 : u < N) (h3 : m u = true) : ct m u - ct m F.ni < (nlm F m N).length ∧ ct m F.ni ≤ ct m u ∧ (nlm F m N).getD (ct m u - ct m F.ni) [] = rnt F m u := by
 have k1 := qcr (F := F) (m := m) N (by omega)
 have k2 := qcq h3 h2
 have k3 := qez m u F.ni h1
 have k4 : ct m u - ct m F.ni < (nlm F m N).length := by omega
 obtain ⟨x, x1, x2, x3, x4, x5⟩ := qd6 (F := F) (m := m) N _ k4
 have e : x = u := ct_inj x3 h3 (by omega)
 rw [e] at x5
 exact ⟨k4, k3, x5⟩
theorem qbt (F : Fl) (m : Nat → Bool) (u : Nat) : (rnt F m u).length = tn F u := by unfold rnt; rw [List.length_map, List.length_range]
theorem qb8 {F : Fl} {m : Nat → Bool} {u j : Nat} (hj : j < tn F u) : (rnt F m u).getD j (0, 0) = (((ct m (tv F u j) : Nat) : Int), F.fc (u - F.ni) j) := by
 unfold rnt
 rw [List.getD_eq_getElem?_getD, List.getElem?_map, List.getElem?_range hj]
 rfl
theorem InP.lt {n : Nat} {q : Nat → Int} (h : InP n q) : ∀ j i, i < j → j < n → q i < q j := by
 intro j
 induction j with
 | zero => intro i hi; omega
 | succ j ih =>
  intro i hi hj
  have h1 := (h (j + 1) hj).2.2 (by omega)
  rw [Nat.add_sub_cancel] at h1
  by_cases e : i = j
  ·rw [e]; exact h1
  ·have := ih i (by omega) (by omega); omega
/-- The trimmed flow may be. -/
theorem qf3 {F : Fl} (hM : MayP F) {m : Nat → Bool} {N k : Nat} {g : Nat → Nat} (hN : F.ni + F.nn = N) (he : En (fun x => m x = true) F.ni k g) (hm : ∀ u, m u = true ↔ NeedP F u) : MayP (trF F m N k g) := by
 have hk := qf0 _ _ _ he
 have hl := qcr (F := F) (m := m) N (by omega)
 refine ⟨?_, hM.o64, fun i hi => ?_, fun i hi => ?_, fun i hi => ?_⟩
 ·show (nlm F m N).length ≤ 4096
  have h4 := hM.n4
  have h5 : ∀ d, ct m (F.ni + d) ≤ ct m F.ni + d := fun d => by
   induction d with
   | zero => exact Nat.le_refl _
   | succ d ih =>
    show ct m (F.ni + d) + (if m (F.ni + d) = true then 1 else 0) ≤ _
    split <;> omega
  have h6 := h5 F.nn
  rw [hN] at h6
  omega
 ·have hi2 : i < k := hi
  have h1 := hM.inp (g i) (he.lt i hi2)
  refine ⟨by show (0 : Int) ≤ (((F.inp (g i)).toNat : Nat) : Int); omega, by show (((F.inp (g i)).toNat : Nat) : Int) < 64; omega, fun h0 => ?_⟩
  have h2 := he.up (i - 1) i (by omega) hi2
  have h3 := hM.inp.lt _ _ h2 (he.lt i hi2)
  have h4 := hM.inp (g (i - 1)) (he.lt _ (by omega))
  show (((F.inp (g (i - 1))).toNat : Nat) : Int) < (((F.inp (g i)).toNat : Nat) : Int)
  omega
 ·obtain ⟨u, u1, u2, u3, u4, u5⟩ := qd6 (F := F) (m := m) N i hi
  intro j hj
  have hj2 : j < ((nlm F m N).getD i []).length := hj
  show (((nlm F m N).getD i []).getD j (0, 0)).2 ≠ 0 ∧ 0 ≤ (((nlm F m N).getD i []).getD j (0, 0)).1 ∧ (((nlm F m N).getD i []).getD j (0, 0)).1 < (k : Int) + (i : Int) ∧ (0 < j → (((nlm F m N).getD i []).getD (j - 1) (0, 0)).1 < (((nlm F m N).getD i []).getD j (0, 0)).1)
  rw [u5] at hj2 ⊢
  rw [qbt] at hj2
  have h1 := hM.term (v := u) (j := j) (by omega) hj2
  have h2 : j < F.nt (u - F.ni) := by
   have e : tn F u = F.nt (u - F.ni) := if_neg (by omega)
   omega
  have h3 := hM.nodes (u - F.ni) (by omega) j h2
  have hn := (hm u).1 u3
  have h4 := (hm _).2 (hn.step hj2)
  have h5 := qcq h4 h1.2.1
  rw [qb8 hj2]
  refine ⟨h3.1, ?_, ?_, fun h0 => ?_⟩
  ·show (0 : Int) ≤ ((ct m (tv F u j) : Nat) : Int); omega
  ·show ((ct m (tv F u j) : Nat) : Int) < _; omega
  ·have hj3 : j - 1 < tn F u := by omega
   rw [qb8 hj3]
   have h6 := (hm _).2 (hn.step hj3)
   have h7 := hM.term (v := u) (j := j - 1) (by omega) hj3
   have h8 := h3.2.2.2 h0
   have h9 := h1.1
   have h10 := h7.1
   have := qcq h6 (v := tv F u j) (by omega)
   show ((ct m (tv F u (j - 1)) : Nat) : Int) < ((ct m (tv F u j) : Nat) : Int)
   omega
 ·have hi2 : i < F.no := hi
  have h1 := hM.outLt hi2
  have h2 := qcq ((hm _).2 ⟨i, hi2, Hng.self _ _⟩) (show _ < N by omega)
  show (0 : Int) ≤ ((ct m (F.out i).toNat : Nat) : Int) ∧ ((ct m (F.out i).toNat : Nat) : Int) < (k : Int) + ((nlm F m N).length : Int)
  omega
end Go.Proofs.Ytkfnedpnkeacpaa
