/-
  Contracts of the token's reference: Join.
-/
import Derived.Test.YtdimkfcanegahaaDoorAp
import Derived.Lib.ItoaLen
namespace Go.Proofs.YtdimkfcanegahaaDoor
open Go.RowKit
/-- How many bytes k tokens take, each with a blank behind it. -/
def jz (K : Nat → TV) : Nat → Nat
  | 0 => 0
  | k + 1 => jz K k + ((frm (K k)).size + 1)
/-- k tokens' texts, with a blank between each two. -/
def jn (K : Nat → TV) : Nat → ByteArray
  | 0 => ⟨#[]⟩
  | k + 1 => (if k = 0 then ⟨#[]⟩ else jn K k ++ ⟨#[32]⟩) ++ frm (K k)
theorem jz_succ (K : Nat → TV) (k : Nat) : jz K (k + 1) = jz K k + ((frm (K k)).size + 1) := rfl
theorem jn_succ (K : Nat → TV) (k : Nat) : jn K (k + 1) = (if k = 0 then ⟨#[]⟩ else jn K k ++ ⟨#[32]⟩) ++ frm (K k) := rfl
theorem jz_le (K : Nat → TV) : ∀ k, k ≤ jz K k := by
  intro k
  induction k with
  | zero => exact Nat.le_refl _
  | succ k ih => rw [jz_succ]; omega
theorem jz_mono (K : Nat → TV) (k : Nat) : ∀ d, jz K k ≤ jz K (k + d) := by
  intro d
  induction d with
  | zero => exact Nat.le_refl _
  | succ d ih => rw [← Nat.add_assoc, jz_succ]; omega
theorem word_size : ∀ x ∈ wds, x.size ≤ 9 := by decide
theorem may_size {v : TV} (h : mayB v = true) (hok : TvOk v) : (frm v).size ≤ 21 := by
  unfold frm
  split
  · show (Lib.itoa v.n).toArray.size ≤ 21
    rw [List.size_toArray]
    exact Lib.itoa_length_le v.n hok.n1 hok.n2
  · unfold mayB at h
    split at h
    · simp only [Bool.and_eq_true] at h
      have := (isN_iff.1 h.2).most
      omega
    · split at h
      · simp only [Bool.and_eq_true] at h
        have := word_size _ (isW_iff.1 h.2)
        omega
      · split at h
        · simp only [Bool.and_eq_true, decide_eq_true_eq] at h
          omega
        · cases h
theorem jz_bound {K : Nat → TV} {n : Nat} (hok : ∀ i, i < n → TvOk (K i)) : ∀ k, k ≤ n → (∀ i, i < k → mayB (K i) = true) → jz K k ≤ 22 * k := by
  intro k
  induction k with
  | zero => intro _ _; exact Nat.le_refl _
  | succ k ih =>
    intro hk h
    have h1 := ih (by omega) (fun i hi => h i (by omega))
    have h2 := may_size (h k (by omega)) (hok k (by omega))
    rw [jz_succ]
    omega
theorem jn_size (K : Nat → TV) : ∀ k, (jn K k).size ≤ jz K k := by
  intro k
  induction k with
  | zero => exact Nat.le_refl _
  | succ k ih =>
    rw [jn_succ, jz_succ, ByteArray.size_append]
    split
    · show 0 + _ ≤ _; omega
    · rw [ByteArray.size_append]; show _ + 1 + _ ≤ _; omega
/-- What Join answers. -/
def JoinA (K : Nat → TV) (n : Nat) (S : ByteArray) (E : Nat) : Prop :=
  (E = 2 ∧ S = ⟨#[]⟩ ∧ ∃ i, i < n ∧ mayB (K i) = false) ∨ (E = 4 ∧ S = ⟨#[]⟩ ∧ (∀ i, i < n → mayB (K i) = true) ∧ 65537 < jz K n) ∨ (E = 0 ∧ (∀ i, i < n → mayB (K i) = true) ∧ jz K n ≤ 65537 ∧ S = jn K n)
theorem join_ex (K : Nat → TV) (n : Nat) : ∃ S E, JoinA K n S E := by
  by_cases h : ∃ i, i < n ∧ mayB (K i) = false
  · exact ⟨_, 2, .inl ⟨rfl, rfl, h⟩⟩
  · have h1 : ∀ i, i < n → mayB (K i) = true := fun i hi => by
      cases hc : mayB (K i) with
      | true => rfl
      | false => exact absurd ⟨i, hi, hc⟩ h
    by_cases h2 : 65537 < jz K n
    · exact ⟨_, 4, .inr (.inl ⟨rfl, rfl, h1, h2⟩)⟩
    · exact ⟨_, 0, .inr (.inr ⟨rfl, h1, by omega, rfl⟩)⟩
/-- A list of tokens in memory. -/
structure Toks (w : World) (x : Option Addr) (n : Nat) (K : Nat → TV) : Prop where
  at_ : ∀ i, i < n → TvAt w x i (K i)
  ok : ∀ i, i < n → TvOk (K i)
theorem Toks.later {w w' : World} {x : Option Addr} {n : Nat} {K : Nat → TV} (h : Toks w x n K) (hb : Below w.heap.size w w') : Toks w' x n K := ⟨fun i hi => (h.at_ i hi).later hb, h.ok⟩
/-- A token's cells in later worlds, in letters. -/
theorem Toks.cells {w : World} {x : Option Addr} {n : Nat} {K : Nat → TV} (h : Toks w x n K) {i : Nat} (hi : i < n) : ∃ (b o k : Nat) (tx : ByteArray) (nn ll cc : Int), x = some ⟨b, o, none⟩ ∧ K i = ⟨k, tx, nn, ll, cc⟩ ∧ TvOk ⟨k, tx, nn, ll, cc⟩ ∧
    ∀ w' : World, Below w.heap.size w w' → w'.cell? ⟨b, o + i * 5, none⟩ = some (.int .u8 (k : Int)) ∧ w'.cell? ⟨b, o + i * 5 + 1, none⟩ = some (.string tx) ∧ w'.cell? ⟨b, o + i * 5 + 2, none⟩ = some (.int .i64 nn) ∧ w'.cell? ⟨b, o + i * 5 + 3, none⟩ = some (.int .i64 ll) ∧ w'.cell? ⟨b, o + i * 5 + 4, none⟩ = some (.int .i64 cc) := by
  obtain ⟨b, o, e, _⟩ := h.at_ i hi
  refine ⟨b, o, (K i).k, (K i).tx, (K i).n, (K i).ln, (K i).cl, e, rfl, h.ok i hi, fun w' hb => ?_⟩
  obtain ⟨b', o', e', c⟩ := (h.at_ i hi).later hb
  rw [e] at e'
  cases e'
  exact c
end Go.Proofs.YtdimkfcanegahaaDoor
