/-
  Contracts of multiples, addProducts, Scale, Mac.
-/
import Derived.Test.YtlfmekjkgegclabLb
import Derived.RegionTactic
import Derived.BigRegion
namespace Go.Proofs.Ytlfmekjkgegclab
open Go.RowKit
theorem odd_all : allB (fun k => Nat.beq (k % 2) 0 || Nat.beq (2 * (k / 2) ^^^ 1) k) 16 = true := by kernel_rfl
theorem mul_even (c k : Nat) (hc : c < 256) (hk : k < 16) (h : k % 2 = 0) : dbl (fm c (k / 2)) = fm c k := by
  rw [← fm_dbl_r c _ hc (by omega), dbl_small _ (by omega), show 2 * (k / 2) = k by omega]
theorem mul_odd (c k : Nat) (hc : c < 256) (hk : k < 16) (h : k % 2 = 1) : dbl (fm c (k / 2)) ^^^ c = fm c k := by
  have e := allB_at odd_all k hk
  simp only [Bool.or_eq_true, Nat.beq_eq] at e
  have e2 : 2 * (k / 2) ^^^ 1 = k := by omega
  have e3 := fm_xor c (2 * (k / 2)) 1
  rw [e2, fm_one c hc] at e3
  rw [e3, ← fm_dbl_r c _ hc (by omega), dbl_small _ (by omega)]
theorem RowAt.put {w : World} {b : Nat} {t : TypeId} {n : Nat} {f : Nat → Nat} (h : RowAt w b t n f) (i v : Nat) (F : Nat → Nat) (hF : ∀ j, j < n → F j = if j = i then v else f j) : RowAt (w.setCell ⟨b, i, none⟩ (.int .u8 (v : Int))) b t n F :=
  (h.set i v).congr (fun j hj => (hF j hj).symm)
theorem row_put1 {w : World} {b : Nat} {t : TypeId} {n k v : Nat} {f f' : Nat → Nat} (h : RowAt w b t n (fun j => if j < k then f' j else f j)) (hv : v = f' k) : RowAt (w.setCell ⟨b, k, none⟩ (.int .u8 (v : Int))) b t n (fun j => if j < k + 1 then f' j else f j) := by
  subst hv; exact row_step h
theorem row_put2 {w : World} {b : Nat} {t : TypeId} {n k u v : Nat} {f f' : Nat → Nat} (h : RowAt w b t n (fun j => if j < k then f' j else f j)) (hv : v = f' k) : RowAt ((w.setCell ⟨b, k, none⟩ (.int .u8 (u : Int))).setCell ⟨b, k, none⟩ (.int .u8 (v : Int))) b t n (fun j => if j < k + 1 then f' j else f j) := by
  subst hv
  refine (h.set k u).put k _ _ ?_
  intro j _
  by_cases e : j = k
  · subst e; simp
  · by_cases e2 : j < k
    · simp [e, e2, show j < k + 1 by omega]
    · simp [e, e2, show ¬ j < k + 1 by omega]
end Go.Proofs.Ytlfmekjkgegclab
