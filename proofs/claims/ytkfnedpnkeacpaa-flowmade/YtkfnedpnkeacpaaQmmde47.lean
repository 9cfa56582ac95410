/-
  Stage 21: the flow of a matrix: it may be, and its matrix is the matrix; Of of one that is not right.
-/
import Derived.Test.YtkfnedpnkeacpaaQmmde00
import Derived.Test.YtkfnedpnkeacpaaQmmde46
set_option maxRecDepth 100000
set_option maxHeartbeats 16000000
namespace Go.Proofs.Ytkfnedpnkeacpaa
open Go.RowKit
theorem qfe {x y : Nat → Nat → Nat} {g h : Nat → Nat} {i : Nat} : ∀ n, (∀ j, j < n → x j i = y j i ∧ g j = h j) → sx x g n i = sx y h n i := by
 intro n
 induction n with
 | zero => intro _; rfl
 | succ n ih =>
  intro e
  show sx x g n i ^^^ fm (g n) (x n i) = sx y h n i ^^^ fm (h n) (y n i)
  rw [ih fun j hj => e j (by omega), (e n (by omega)).1, (e n (by omega)).2]
theorem qcl {L : List Trm} {a : Trm} {j : Nat} (h : j < L.length) : (L ++ [a]).getD j (0, 0) = L.getD j (0, 0) := by
 simp [List.getD, List.getElem?_append_left h]
theorem qff {L : List Trm} {a : Trm} : (L ++ [a]).getD L.length (0, 0) = a := by simp [List.getD]
/-- The terms of a row: they rise, and none is 0. -/
theorem tof_tm (R f : Nat → Nat) : ∀ n, (∀ j, j < (tof R f n).length → 0 ≤ ((tof R f n).getD j (0, 0)).1 ∧ ((tof R f n).getD j (0, 0)).1 < (n : Int) ∧ ((tof R f n).getD j (0, 0)).2 ≠ 0 ∧ ((tof R f n).getD j (0, 0)).2 = R (f ((tof R f n).getD j (0, 0)).1.toNat) ∧ (0 < j → ((tof R f n).getD (j - 1) (0, 0)).1 < ((tof R f n).getD j (0, 0)).1)) := by
 intro n
 induction n with
 | zero => intro j hj; exact absurd hj (Nat.not_lt_zero _)
 | succ n ih =>
  intro j hj
  by_cases h0 : R (f n) = 0
  ·have e : tof R f (n + 1) = tof R f n := by show tof R f n ++ (if R (f n) = 0 then [] else _) = _; rw [if_pos h0, List.append_nil]
   rw [e] at hj ⊢
   obtain ⟨h1, h2, h3, h4, h5⟩ := ih j hj
   exact ⟨h1, by omega, h3, h4, h5⟩
  ·have e : tof R f (n + 1) = tof R f n ++ [((n : Int), R (f n))] := by show tof R f n ++ (if R (f n) = 0 then [] else _) = _; rw [if_neg h0]
   rw [e] at hj ⊢
   rw [List.length_append] at hj
   have hj2 : j < (tof R f n).length + 1 := hj
   by_cases hl : j < (tof R f n).length
   ·obtain ⟨h1, h2, h3, h4, h5⟩ := ih j hl
    rw [qcl hl]
    refine ⟨h1, by omega, h3, h4, fun hp => ?_⟩
    rw [qcl (show j - 1 < (tof R f n).length by omega)]
    exact h5 hp
   ·obtain rfl : j = (tof R f n).length := by omega
    rw [qff]
    refine ⟨Int.natCast_nonneg _, by show (n : Int) < ((n + 1 : Nat) : Int); omega, h0, by rw [Int.toNat_natCast], fun hp => ?_⟩
    rw [qcl (show (tof R f n).length - 1 < (tof R f n).length by omega)]
    exact (ih ((tof R f n).length - 1) (by omega)).2.1
theorem qfg {r c m : Nat} {F f : Nat → Nat} (hr : r ≤ 64) (hc : c ≤ 64) (hE : En (UsP r c F) c m f) : MayP (ofF r c F m f) := by
 refine ⟨by show r ≤ 4096; omega, hr, fun i hi => ?_, fun t ht j hj => ?_, fun t ht => ?_⟩
 ·have h1 := hE.lt i hi
  refine ⟨Int.natCast_nonneg _, by show (f i : Int) < 64; omega, fun hp => ?_⟩
  have := hE.up (i - 1) i (by omega) hi
  show (f (i - 1) : Int) < (f i : Int)
  omega
 ·obtain ⟨h1, h2, h3, _, h5⟩ := tof_tm (fun j => F (t * c + j)) f m j hj
  exact ⟨h3, h1, by show _ < (m : Int) + (t : Int); exact Int.lt_of_lt_of_le h2 (by omega), h5⟩
 ·have ht : t < r := ht
  show 0 ≤ (m : Int) + (t : Int) ∧ (m : Int) + (t : Int) < (m : Int) + (r : Int)
  omega
/-- The sum of a row's terms, each at its own place. -/
theorem tof_sum (R f : Nat → Nat) (j : Nat) (hR : R j < 256) : ∀ n, (∀ i k, i < k → k < n → f i < f k) → sx (fun t => unb (f ((tof R f n).getD t (0, 0)).1.toNat)) (fun t => ((tof R f n).getD t (0, 0)).2) (tof R f n).length j = if ∃ i, i < n ∧ f i = j then R j else 0 := by
 intro n
 induction n with
 | zero => intro _; rw [if_neg (fun ⟨i, h, _⟩ => by omega)]; rfl
 | succ n ih =>
  intro hup
  have ih := ih (fun i k h1 h2 => hup i k h1 (by omega))
  have hno : f n = j → ¬ ∃ i, i < n ∧ f i = j := fun e ⟨i, hi, he⟩ => by have := hup i n hi (by omega); omega
  by_cases h0 : R (f n) = 0
  ·have e : tof R f (n + 1) = tof R f n := by show tof R f n ++ (if R (f n) = 0 then [] else _) = _; rw [if_pos h0, List.append_nil]
   rw [e, ih]
   by_cases hj : f n = j
   ·rw [if_neg (hno hj), if_pos ⟨n, by omega, hj⟩, ← hj, h0]
   ·by_cases hx : ∃ i, i < n ∧ f i = j
    ·obtain ⟨i, hi, he⟩ := hx
     rw [if_pos ⟨i, hi, he⟩, if_pos ⟨i, by omega, he⟩]
    ·rw [if_neg hx, if_neg (fun ⟨i, hi, he⟩ => hx ⟨i, by
      by_cases e2 : i = n
      ·rw [e2] at he; exact absurd he hj
      ·omega, he⟩)]
  ·have e : tof R f (n + 1) = tof R f n ++ [((n : Int), R (f n))] := by show tof R f n ++ (if R (f n) = 0 then [] else _) = _; rw [if_neg h0]
   rw [e, List.length_append]
   show sx _ _ (tof R f n).length j ^^^ fm _ _ = _
   rw [qfe (tof R f n).length (y := fun t => unb (f ((tof R f n).getD t (0, 0)).1.toNat)) (h := fun t => ((tof R f n).getD t (0, 0)).2) (fun t ht => by rw [qcl ht]; exact ⟨rfl, rfl⟩), ih]
   dsimp only
   rw [qff]
   show (if ∃ i, i < n ∧ f i = j then R j else 0) ^^^ fm (R (f n)) (unb (f ((n : Int)).toNat) j) = _
   rw [Int.toNat_natCast]
   by_cases hj : f n = j
   ·rw [if_neg (hno hj), if_pos ⟨n, by omega, hj⟩, hj, show unb j j = 1 by unfold unb; rw [if_pos rfl], fm_one _ hR, Nat.zero_xor]
   ·rw [show unb (f n) j = 0 by unfold unb; rw [if_neg hj], qei, Nat.xor_zero]
    by_cases hx : ∃ i, i < n ∧ f i = j
    ·obtain ⟨i, hi, he⟩ := hx
     rw [if_pos ⟨i, hi, he⟩, if_pos ⟨i, by omega, he⟩]
    ·rw [if_neg hx, if_neg (fun ⟨i, hi, he⟩ => hx ⟨i, by
      by_cases e2 : i = n
      ·rw [e2] at he; exact absurd he hj
      ·omega, he⟩)]
/-- The matrix of a matrix's flow is the matrix. -/
theorem ofF_mat {r c m : Nat} {F f : Nat → Nat} (hr : r ≤ 64) (hc : c ≤ 64) (hE : En (UsP r c F) c m f) {i j : Nat} (hi : i < r) (hj : j < c) (hF : F (i * c + j) < 256) : vlx (ofF r c F m f) unb ((ofF r c F m f).out i).toNat j = F (i * c + j) := by
 have hM := qfg hr hc hE
 have e0 : ((ofF r c F m f).out i).toNat = m + i := by show ((m : Int) + (i : Int)).toNat = m + i; omega
 have hni : (ofF r c F m f).ni = m := rfl
 have hnn : (ofF r c F m f).nn = r := rfl
 rw [e0, qbn hM (by omega) (by omega)]
 have e1 : m + i - (ofF r c F m f).ni = i := by omega
 have e2 : tn (ofF r c F m f) (m + i) = (tof (fun j => F (i * c + j)) f m).length := by rw [qd8 (by omega), e1]; rfl
 rw [e2, e1]
 have h1 := tof_sum (fun j => F (i * c + j)) f j hF m hE.up
 have h2 : ∀ t, t < (tof (fun j => F (i * c + j)) f m).length → vlx (ofF r c F m f) unb (tv (ofF r c F m f) (m + i) t) j = unb (f ((tof (fun j => F (i * c + j)) f m).getD t (0, 0)).1.toNat) j := fun t ht => by
  obtain ⟨k1, k2, _, _, _⟩ := tof_tm (fun j => F (i * c + j)) f m t ht
  have e3 : tv (ofF r c F m f) (m + i) t = ((tof (fun j => F (i * c + j)) f m).getD t (0, 0)).1.toNat := by unfold tv; rw [e1]; rfl
  rw [e3, qdq (by omega)]
  show unb ((f _ : Nat) : Int).toNat j = _
  rw [Int.toNat_natCast]
 have h3 : sx (fun t => vlx (ofF r c F m f) unb (tv (ofF r c F m f) (m + i) t)) ((ofF r c F m f).fc i) (tof (fun j => F (i * c + j)) f m).length j = sx (fun t => unb (f ((tof (fun j => F (i * c + j)) f m).getD t (0, 0)).1.toNat)) (fun t => ((tof (fun j => F (i * c + j)) f m).getD t (0, 0)).2) (tof (fun j => F (i * c + j)) f m).length j :=
  qfe _ fun t ht => ⟨h2 t ht, rfl⟩
 rw [h3, h1]
 by_cases hx : ∃ l, l < m ∧ f l = j
 ·rw [if_pos hx]
 ·rw [if_neg hx]
  refine Eq.symm (Classical.byContradiction fun hn => hx ?_)
  obtain ⟨l, hl, he⟩ := hE.all j hj ⟨i, hi, hn⟩
  exact ⟨l, hl, he⟩
theorem fof_bad (w : World) (r c : Int) (n k : Nat) (a : Option Addr) (hR : ¬ RightP r c n) :
  Calls Try.prog 9 #[mv r c a n k] w fun e w' => e = .returned (.tuple #[flv none 0 0 none 0 0 none 0 0, .int .i64 3]) ∧ Below w.heap.size w w' := by
 obtain ⟨wb, HW⟩ : ∃ wb, Hid ((w.alloc (.cells #[.int .i64 r, .int .i64 c, .slice a n k] 24)).alloc (.cells #[.slice none 0 0, .slice none 0 0, .slice none 0 0] 28) = wb) := ⟨_, rfl⟩
 have HB0 : Hid (Below w.heap.size w wb) := by rw [← HW.out]; exact jtwo (jlow _ _) (jlow _ _)
 have HVR : Hid (Vf wb (w.heap.size + 1) 28 #[.slice none 0 0, .slice none 0 0, .slice none 0 0]) := by rw [← HW.out]; exact Vf.new1 _ _ _ _
 have HRt := qa0 (fun (w2 : World) => qev w2 r c a n k hR)
 clear hR
 go_enter Try.func9, Try.ntmps9
 go_wp2_with (first
  | (go_at_call 29; rw [HW.out]; refine (HRt.out _).mono ?_; rintro e w1 ⟨rfl, hb1⟩; have HB1 := qa0 (jtwo HB0.out hb1); have HVR1 := qa0 (HVR.out.later hb1); clear hb1)
  | (refine qa4 rfl 28 _ _ rfl (w.heap.size + 1) _ #[.slice none 0 0, .slice none 0 0, .slice none 0 0] rfl rfl HVR1.out sizeFl rfl (all3s _ _ _ _ _ _ _ _ _) ?_; intro w9 HV9 HG9))
 have d0 := HV9.out.cell 0 (.slice none 0 0) rfl
 have e1 := HV9.out.cell 1 (.slice none 0 0) rfl
 have e2 := HV9.out.cell 2 (.slice none 0 0) rfl
 refine bodyPost_ret (v := .tuple #[flv none 0 0 none 0 0 none 0 0, .int .i64 3]) (by simp [results, Try.results9, go_sem, d0, e1, e2]) rfl ?_
 exact ⟨rfl, qai HB1.out HG9.out (by omega)⟩
end Go.Proofs.Ytkfnedpnkeacpaa
