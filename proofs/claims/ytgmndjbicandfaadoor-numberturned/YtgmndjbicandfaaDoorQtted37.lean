/-
  Stage 12: what NumberTurned asks of the environment the other way round.
-/
import Derived.Test.YtgmndjbicandfaaDoorQtted00
import Derived.Test.YtgmndjbicandfaaDoorQtted28
import Derived.Test.YtgmndjbicandfaaDoorQtted36
set_option maxRecDepth 100000
set_option maxHeartbeats 16000000
namespace Go.Proofs.YtgmndjbicandfaaDoor
open Go.RowKit Go.Shelf Go.Maps
def zzn : ByteArray := ⟨#[122, 122, 122, 122, 122, 122, 122, 122, 122, 122, 122, 122, 122, 122]⟩
/-- The environment the other way round, and one constant more. -/
def tH (F : Nat → Cn) (n : Nat) (k : Int) : Nat → Cn := fun i => (rvE F n ++ [(⟨zzn, k⟩ : Cn)]).getD i cn0
theorem qcr (F : Nat → Cn) (n : Nat) (k : Int) {i : Nat} (h : i < n) : tH F n k i = F (n - 1 - i) := by
 unfold tH
 rw [List.getD_eq_getElem?_getD, List.getElem?_append_left (by rw [qbo]; exact h), qe3 F n i h]
 rfl
theorem qe4 (F : Nat → Cn) (n : Nat) (k : Int) : tH F n k n = ⟨zzn, k⟩ := by
 unfold tH
 rw [List.getD_eq_getElem?_getD, List.getElem?_append_right (by rw [qbo]; omega), qbo, Nat.sub_self]
 rfl
theorem qc0 {F G : Nat → Cn} {s : ByteArray} : ∀ {n : Nat}, (∀ i, i < n → F i = G i) → elk F n s = elk G n s := by
 intro n
 induction n with
 | zero => intro _; rfl
 | succ n ih =>
  intro h
  unfold elk
  rw [h n (by omega), ih (fun i hi => h i (by omega))]
theorem qd6 {F G : Nat → Cn} : ∀ {n : Nat}, (∀ i, i < n → F i = G i) → mayE F n = mayE G n := by
 intro n
 induction n with
 | zero => intro _; rfl
 | succ n ih =>
  intro h
  unfold mayE
  rw [ih (fun i hi => h i (by omega)), h n (by omega), qc0 (fun i hi => h i (by omega))]
theorem qd7 (F : Nat → Cn) (n : Nat) : mayE (tH F n 0) (n + 1) = mayE (tH F n 3) (n + 1) := by
 unfold mayE
 have e : ∀ i, i < n → tH F n 0 i = tH F n 3 i := fun i hi => by rw [qcr F n 0 hi, qcr F n 3 hi]
 rw [qd6 e, qc0 (s := (tH F n 0 n).nm) e, qe4, qe4]
 rfl
theorem qcg {F : Nat → Cn} {n : Nat} {T : Xt} (hG : mayE (tH F n 3) (n + 1) = true) (hF : mayE F n = true) (hz : zzn.data.toList ∉ nmx 16 T) : evl (tH F n 3) (n + 1) T = evl F n T := by
 unfold evl
 rw [if_pos hG, if_pos hF]
 split
 ·refine qd5 (fun s hs => ?_)
  refine (elk_same (z := zzn) hG (fun i hi => ⟨n - 1 - i, by omega, ?_⟩) (fun j hj => ?_) ?_).symm
  ·rw [qcr F n 3 (by omega), show n - 1 - (n - 1 - i) = i by omega]
  ·by_cases e : j = n
   ·subst e; rw [qe4]; exact .inl rfl
   ·exact .inr ⟨n - 1 - j, by omega, qcr F n 3 (by omega)⟩
  ·intro e
   subst e
   exact hz hs
 ·rfl
theorem qd8 {F : Nat → Cn} {n : Nat} {T : Xt} (hF : mayE F n = true) (hT : mayX T = true) : nmB (evl F n T).v = true := by
 unfold evl
 rw [if_pos hF, if_pos hT]
 exact xval_num (fun s v h => elk_num hF h) (qbk hT)
theorem qc7 {F : Nat → Cn} {n : Nat} (k : Int) (hk : -9223372036854775808 ≤ k ∧ k ≤ 9223372036854775807) (h : ∀ i, i < n → CnOk (F i)) : ∀ c ∈ rvE F n ++ [⟨zzn, k⟩], CnOk c := by
 intro c hc
 rcases List.mem_append.1 hc with hc | hc
 ·obtain ⟨i, hi, rfl⟩ := List.mem_map.1 hc
  rw [List.mem_range] at hi
  exact h _ (by omega)
 ·rw [List.mem_singleton.1 hc]
  exact ⟨show zzn.size ≤ 140737488351232 by decide, hk.1, hk.2⟩
theorem Vn.lowB {w w' : World} {B b : Nat} {T : TypeId} {xs : Array Value} (h : Vn w b T xs) (hb : Below B w w') (hl : b < B) : Vn w' b T xs := by unfold Vn; rw [hb.block b hl]; exact h
theorem Vn.keptB {w w' : World} {b : Nat} {T : TypeId} {xs : Array Value} {row : Option Nat} (h : Vn w b T xs) (hg : w.grownBy w' row) (hne : ∀ q, row = some q → q ≠ b) : Vn w' b T xs := by
 unfold Vn
 rw [hg.block b (lt_of_block h) (fun e => hne b e.symm rfl)]
 exact h
theorem qe5 {w : World} {b : Nat} {T : TypeId} {x y : Value} (h : Vn w b T #[x, y]) : ∀ j u, [x, y][j]? = some u → w.cell? ((⟨b, 0, none⟩ : Addr).add j) = some u := by
 intro j u hu
 rw [Addr.add_mid, Nat.zero_add]
 match j, hu with
 | 0, hu => cases hu; exact h.cell 0 _ rfl
 | 1, hu => cases hu; exact h.cell 1 _ rfl
/-- Ways that come to one place. -/
theorem joinT {G : Value → Value → Nat → World → Prop} {R : Prop} (P : Value → Value → Nat → World → Prop) (hr : (∀ x y g w, P x y g w → G x y g w) → R) (hg : ∀ x y g w, P x y g w → G x y g w) : R := hr hg
end Go.Proofs.YtgmndjbicandfaaDoor
