/-
  What PolyCommon and PolyFactors need.
-/
import Derived.Test.YthpjedoolbfjfabQn
namespace Go.Proofs.Ythpjedoolbfjfab
open Go.RowKit
theorem mul_le {f h : Nat → Nat} {n m t1 t2 T : Nat} (H1 : tlen f n = t1) (H2 : tlen h m = t2) (hf : ∀ i, i < n → f i < 256) (hh : ∀ i, i < m → h i < 256) (hs : t1 = 0 ∨ t2 = 0 ∨ t1 + t2 ≤ 513) (HT : tlen (pm (zx f n) (zx h m)) (t1 + t2) = T) : T ≤ 512 := by
  by_cases h0 : t1 = 0 ∨ t2 = 0
  · have : T = 0 := by rw [← HT]; exact mul_len0 (by rw [H1, H2]; exact h0)
    omega
  · have := mul_len (u := t1 - 1) (v := t2 - 1) (by rw [H1]; omega) (by rw [H2]; omega) hf hh
    rw [show t1 - 1 + 1 + (t2 - 1 + 1) = t1 + t2 by omega, HT] at this
    omega
theorem zero_len {f : Nat → Nat} {n : Nat} (h : tlen f n = n) (z : ∀ i, zx f n i = 0) : n = 0 := by
  by_cases h0 : n = 0
  · exact h0
  · exfalso
    have := z (n - 1)
    unfold zx at this
    rw [if_pos (by omega)] at this
    exact top_len h (by omega) this
theorem mul_dv {f c : Nat → Nat} {n k t1 t2 T : Nat} (H1 : tlen f n = t1) (H2 : tlen c k = t2) (hf : ∀ i, i < n → f i < 256) (hc : ∀ i, i < k → c i < 256) (HT : tlen (pm (zx f n) (zx c k)) (t1 + t2) = T) : Dv (zx c k) (zx (pm (zx f n) (zx c k)) T) := by
  have a1 : Above t1 (zx f n) := fun i hi => by rw [← zx_tlen, H1]; exact if_neg (by omega)
  have a2 : Above t2 (zx c k) := fun i hi => by rw [← zx_tlen, H2]; exact if_neg (by omega)
  refine ⟨zx f n, ⟨zx_el hf, n, zx_above f n⟩, fun i => ?_⟩
  rw [← HT, zx_tlen, zx_self (a1.pm a2), pm_comm (zx_el hf) (zx_el hc)]
theorem pdiv_exact (w : World) (a b : Option Addr) (n m c d t1 u : Nat) (f h : Nat → Nat) (ha : Lk w a n c f) (hb : Lk w b m d h) (H1 : Hid (tlen f n = t1)) (H2 : Hid (tlen h m = u + 1)) (hl1 : t1 ≤ 512) (hl2 : u + 1 ≤ 512) (hd : Dv (zx h m) (zx f n)) :
    Calls Try.prog 13 #[.slice a n c, .slice b m d] w fun e w' => ∃ nq s1 k1 s2 k2, e = .returned (.tuple #[.slice s1 nq k1, .slice s2 0 k2, .int .i64 0]) ∧ Below w.heap.size w w' := by
  refine (pdivmod_any w a b n m c d t1 u f h ha hb H1 H2 hl1 hl2).mono ?_
  rintro e w' ⟨Q, R, r, nq, s1, k1, s2, k2, rfl, hP⟩
  have aq : Above (u + 1) (zx h m) := fun i hi => by rw [← zx_tlen, H2.out]; exact if_neg (by omega)
  have um : u < m := by have := tlen_le h m; have := H2.out; omega
  have q0 : zx h m u ≠ 0 := by
    have := tlen_top h m (by rw [H2.out]; omega)
    rw [H2.out] at this
    unfold zx
    rw [if_pos um]; exact this
  obtain rfl := rem_zero hP.ok (zx_el hb.1.1) aq q0 hd
  exact ⟨nq, s1, k1, s2, k2, rfl, hP.below⟩
/-- The elements that stand among the first n, below k. -/
def inTo (f : Nat → Nat) (n k : Nat) : List Nat := (List.range k).filter fun x => seenB f n x
theorem inTo_succ (f : Nat → Nat) (n k : Nat) : inTo f n (k + 1) = inTo f n k ++ if seenB f n k = true then [k] else [] := by
  unfold inTo
  rw [List.range_succ, List.filter_append]
  congr 1
  by_cases h : seenB f n k = true
  · simp [h]
  · simp [h]
theorem inTo_len (f : Nat → Nat) (n k : Nat) : (inTo f n k).length ≤ k := by
  unfold inTo
  exact Nat.le_trans (List.length_filter_le _ _) (by simp)
theorem inTo_roots (f : Nat → Nat) (n : Nat) (hf : ∀ i, i < n → f i < 256) : rootsTo (fr f n) (n + 1) 256 = inTo f n 256 := by
  unfold rootsTo inTo
  apply List.filter_congr
  intro x hx
  have hx' : x < 256 := by simpa using hx
  have := fr_zero f x hx' n hf
  by_cases h : ∃ j, j < n ∧ f j = x
  · rw [(seenB_iff f n x).2 h]
    simpa using this.2 h
  · have h1 : seenB f n x = false := by
      cases e : seenB f n x with
      | false => rfl
      | true => exact absurd ((seenB_iff f n x).1 e) h
    rw [h1]
    simpa using fun e => h (this.1 e)
theorem BAt.kept {w w' : World} {b : Nat} {t : TypeId} {n : Nat} {p : Nat → Bool} {row : Option Nat} (h : BAt w b t n p) (hg : w.grownBy w' row) (hne : row ≠ some b) : BAt w' b t n p := by
  unfold BAt at *
  rw [hg.block b (lt_of_block h) (fun e => hne e.symm)]; exact h
theorem BAt.later {w w' : World} {b : Nat} {t : TypeId} {n : Nat} {p : Nat → Bool} (h : BAt w b t n p) (hb : Below w.heap.size w w') : BAt w' b t n p := by
  unfold BAt at *
  rw [hb.block b (lt_of_block h)]; exact h
theorem seen_step {w : World} {g k x n : Nat} {f : Nat → Nat} {t : TypeId} (hs : BAt w g t n (seenB f k)) (hx : f k = x) : BAt (w.setCell ⟨g, x, none⟩ (.bool true)) g t n (seenB f (k + 1)) := by
  have := hs.set x true
  unfold BAt at *
  rw [this]
  congr 3
  funext j
  simp only [seenB, hx]
  by_cases e : j = x
  · subst e; simp
  · simp [e, Ne.symm e]
theorem proots_list (w : World) (a : Option Addr) (n c t : Nat) (f : Nat → Nat) (l : List Nat) (ha : Lk w a n c f) (HT : Hid (tlen f n = t)) (h0 : t ≠ 0) (HR : Hid (rootsTo f n 256 = l)) :
    Calls Try.prog 18 #[.slice a n c] w fun e w' => ∃ s k, e = .returned (.slice s l.length k) ∧ Sl w' s l.length (fun i => l.getD i 0) ∧ Below w.heap.size w w' := by
  rw [← HR.out]
  exact proots_sl w a n c t _ f ha HT h0 rfl
end Go.Proofs.Ythpjedoolbfjfab
