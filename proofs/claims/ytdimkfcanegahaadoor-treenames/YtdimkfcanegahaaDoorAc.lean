/-
  Contracts of the token's reference: Where, Fault, end, number.
-/
import Derived.Test.YtdimkfcanegahaaDoorAb
namespace Go.Proofs.YtdimkfcanegahaaDoor
open Go.RowKit
theorem tb_extract {s : ByteArray} {p e j : Nat} (hj : p + j < e) (he : e ≤ s.size) : tb (s.extract p e) j = tb s (p + j) := by
  have h1 : j < (s.extract p e).size := by simp; omega
  have h2 : p + j < s.size := by omega
  rw [← tb_at h1, ← tb_at h2]
  congr 1
  exact ByteArray.getElem_extract h1
theorem size_extract {s : ByteArray} {p e : Nat} (he : e ≤ s.size) : (s.extract p e).size = e - p := by simp; omega
theorem nvl_extract {s : ByteArray} {p e : Nat} (he : e ≤ s.size) : ∀ k, p + k ≤ e → nvl (s.extract p e) 0 k = nvl s p k := by
  intro k
  induction k with
  | zero => intro _; rfl
  | succ k ih =>
    intro h
    show 10 * nvl _ 0 k + (tb _ (0 + k) - 48) = 10 * nvl s p k + (tb s (p + k) - 48)
    rw [ih (by omega), Nat.zero_add, tb_extract (by omega) he]
theorem NumOk.extract {s : ByteArray} {p e : Nat} (he : e ≤ s.size) (hp : p < e) : NumOk (s.extract p e) 0 (e - p) ↔ NumOk s p e := by
  unfold NumOk
  rw [nvl_extract he _ (by omega), tb_extract (j := 0) (by omega) he]
  simp
theorem nvl_succ (s : ByteArray) (p k : Nat) : nvl s p (k + 1) = 10 * nvl s p k + (tb s (p + k) - 48) := rfl
end Go.Proofs.YtdimkfcanegahaaDoor
