/-
  What the library's Atoi, Count, LastIndexByte, IndexByte tell, in the words of stage 9. No Go in sight.
-/
import Derived.Test.YtdimkfcanegahaaDoorAc
import Derived.Lib.AtoiAll
import Derived.Lib.Bytealg
import Derived.Lib.LastIndexByte
namespace Go.Proofs.YtdimkfcanegahaaDoor
open Go.RowKit
/-- The number that digits go on to. -/
def dvv : Nat → List UInt8 → Nat
  | a, [] => a
  | a, c :: r => dvv (a * 10 + (c.toNat - 48)) r
theorem dvv_ge : ∀ (l : List UInt8) (a : Nat), a ≤ dvv a l
  | [], _ => Nat.le_refl _
  | c :: r, a => by
    have := dvv_ge r (a * 10 + (c.toNat - 48))
    show a ≤ dvv (a * 10 + (c.toNat - 48)) r
    omega
theorem dvv_snoc : ∀ (l : List UInt8) (a : Nat) (c : UInt8), dvv a (l ++ [c]) = 10 * dvv a l + (c.toNat - 48)
  | [], a, c => by show a * 10 + _ = _; rw [Nat.mul_comm]; rfl
  | b :: r, a, c => dvv_snoc r _ c
theorem parse_digits : ∀ (l : List UInt8) (a : Nat), (∀ c ∈ l, 48 ≤ c.toNat ∧ c.toNat ≤ 57) → (dvv a l < 18446744073709551616 → Lib.parseUint10 a l = .ok (dvv a l)) ∧ (18446744073709551616 ≤ dvv a l → a < 18446744073709551616 → Lib.parseUint10 a l = .range)
  | [], a, _ => ⟨fun _ => rfl, fun h1 h2 => absurd h1 (Nat.not_le.2 h2)⟩
  | c :: r, a, h => by
    have hc := h c (by simp)
    have ih := parse_digits r (a * 10 + (c.toNat - 48)) (fun x hx => h x (by simp [hx]))
    have hge := dvv_ge r (a * 10 + (c.toNat - 48))
    have e : dvv a (c :: r) = dvv (a * 10 + (c.toNat - 48)) r := rfl
    rw [e]
    constructor
    · intro h1
      show (if _ then _ else _) = _
      rw [if_pos hc, if_neg (by omega), if_neg (by omega)]
      exact ih.1 h1
    · intro h1 _
      show (if _ then _ else _) = _
      rw [if_pos hc]
      split
      · rfl
      · split
        · rfl
        · exact ih.2 h1 (by omega)
theorem atoi_digits {l : List UInt8} (h0 : l ≠ []) (h : ∀ c ∈ l, 48 ≤ c.toNat ∧ c.toNat ≤ 57) : (dvv 0 l < 9223372036854775808 → Lib.atoiAll l = .ok (dvv 0 l : Nat)) ∧ (9223372036854775808 ≤ dvv 0 l → Lib.atoiAll l = .range) := by
  cases l with
  | nil => exact absurd rfl h0
  | cons c r =>
    have hc := h c (by simp)
    have hp := parse_digits (c :: r) 0 h
    have hm : Lib.parseMag (c :: r) = Lib.parseUint10 0 (c :: r) := if_neg (by simp)
    have h43 : ¬ (c.toNat = 43 ∨ c.toNat = 45) := by omega
    have h45 : ¬ c.toNat = 45 := by omega
    constructor
    · intro hv
      simp only [Lib.atoiAll, if_neg h43, hm, hp.1 (by omega)]
      rw [if_neg (fun x => by have := x.2; omega), if_neg (fun x => h45 x.1), if_neg h45]
    · intro hv
      by_cases h64 : dvv 0 (c :: r) < 18446744073709551616
      · simp only [Lib.atoiAll, if_neg h43, hm, hp.1 h64]
        rw [if_pos ⟨h45, hv⟩]
      · simp only [Lib.atoiAll, if_neg h43, hm, hp.2 (by omega) (by omega)]
theorem tb_byte {x : ByteArray} {i : Nat} (h : i < x.size) : ∃ c, x.data.toList[i]? = some c ∧ c.toNat = tb x i := by
  refine ⟨x[i], ?_, tb_at h⟩
  have h' : i < x.data.size := h
  rw [Array.getElem?_toList, Array.getElem?_eq_getElem h']
  rfl
theorem dvv_take {x : ByteArray} : ∀ k, k ≤ x.size → dvv 0 (x.data.toList.take k) = nvl x 0 k := by
  intro k
  induction k with
  | zero => intro _; rfl
  | succ k ih =>
    intro hk
    obtain ⟨c, h1, h2⟩ := tb_byte (x := x) (i := k) (by omega)
    rw [List.take_add_one, h1]
    show dvv 0 (_ ++ [c]) = 10 * nvl x 0 k + (tb x (0 + k) - 48)
    rw [dvv_snoc, ih (by omega), h2, Nat.zero_add]
theorem dvv_all (x : ByteArray) : dvv 0 x.data.toList = nvl x 0 x.size := by
  rw [← dvv_take x.size (Nat.le_refl _), List.take_of_length_le (by rw [Array.length_toList]; exact Nat.le_refl _)]
/-- What Atoi tells of digits. -/
theorem atoi_text {x : ByteArray} (h0 : 1 ≤ x.size) (h : ∀ j, j < x.size → isD (tb x j) = true) : (nvl x 0 x.size < 9223372036854775808 → Lib.atoiAll x.data.toList = .ok (nvl x 0 x.size : Nat)) ∧ (9223372036854775808 ≤ nvl x 0 x.size → Lib.atoiAll x.data.toList = .range ∧ Lib.atoiSat x.data.toList = 9223372036854775807) := by
  have hn : x.data.toList ≠ [] := fun e => by
    have : x.data.toList.length = 0 := by rw [e]; rfl
    rw [Array.length_toList] at this
    have h1 : x.size = x.data.size := rfl
    omega
  have ha : ∀ c ∈ x.data.toList, 48 ≤ c.toNat ∧ c.toNat ≤ 57 := fun c hc => by
    obtain ⟨i, hi, e⟩ := List.getElem_of_mem hc
    rw [Array.length_toList] at hi
    obtain ⟨d, h1, h2⟩ := tb_byte (x := x) (i := i) hi
    rw [List.getElem?_eq_getElem (by rw [Array.length_toList]; exact hi)] at h1
    obtain rfl : c = d := by rw [← e]; exact Option.some.inj h1
    rw [h2]
    exact isD_iff.1 (h i hi)
  have := atoi_digits hn ha
  rw [dvv_all] at this
  refine ⟨this.1, fun hv => ⟨this.2 hv, ?_⟩⟩
  unfold Lib.atoiSat
  rw [if_neg]
  intro e
  cases hl : x.data.toList with
  | nil => exact hn hl
  | cons c r =>
    rw [hl] at e
    have := ha c (by rw [hl]; simp)
    have e' : c.toNat = 45 := by simpa using e
    omega
theorem lnn_count (s : ByteArray) : ∀ k, k ≤ s.size → lnn s k = 1 + (s.data.toList.take k).count 10 := by
  intro k
  induction k with
  | zero => intro _; rfl
  | succ k ih =>
    intro hk
    obtain ⟨c, h1, h2⟩ := tb_byte (x := s) (i := k) (by omega)
    rw [lnn_succ, ih (by omega), List.take_add_one, h1]
    show _ = 1 + (_ ++ [c]).count 10
    rw [List.count_append]
    by_cases hc : tb s k = 10
    · have : c = 10 := UInt8.toNat_inj.1 (by rw [h2, hc]; rfl)
      subst this
      rw [if_pos hc]
      simp
      omega
    · have : c ≠ 10 := fun e => hc (by rw [← h2, e]; rfl)
      rw [if_neg hc]
      simp [this]
/-- Lines, as Count tells them. -/
theorem lnn_whole (s : ByteArray) (k : Nat) (hk : k ≤ s.size) : 1 + Lib.countByte (s.extract 0 k).data.toList 10 = lnn s k := by
  rw [lnn_count s k hk]
  unfold Lib.countByte
  rw [show (s.extract 0 k).data.toList = s.data.toList.take k by simp [ByteArray.data_extract]]
theorem i64_of_wf9 {n : Int} (h : (Lit.int .i64 n).wf = true) : -9223372036854775808 ≤ n ∧ n ≤ 9223372036854775807 := by
  simp [Lit.wf, IntKind.min, IntKind.max, IntKind.signed, IntKind.bits] at h
  omega
theorem byte_list {x : ByteArray} {i : Nat} (h : i < x.size) : (x.data[i]!).toNat = tb x i := by
  have h' : i < x.data.size := h
  rw [getElem!_pos x.data i h']
  exact tb_at h
theorem cln_idx {s : ByteArray} {k : Nat} (hk : k ≤ s.size) : ∀ j, j ≤ k → (j : Int) - Lib.lastIdx (s.extract 0 k) 10 j = (cln s j : Nat) := by
  intro j
  induction j with
  | zero => intro _; rfl
  | succ j ih =>
    intro hj
    have hb : (((s.extract 0 k).data[j]!).toNat : Int) = (tb s j : Nat) := by
      rw [byte_list (by rw [size_extract hk]; omega), tb_extract (by omega) hk, Nat.zero_add]
    have ih := ih (by omega)
    rw [cln_succ]
    unfold Lib.lastIdx
    rw [hb]
    by_cases hc : tb s j = 10
    · rw [if_pos hc, if_pos (by omega)]
      omega
    · rw [if_neg hc, if_neg (by omega)]
      omega
/-- The column, as LastIndexByte tells it. -/
theorem cln_whole (s : ByteArray) (k : Nat) (hk : k ≤ s.size) : (k : Int) - Lib.lastIndexByte (s.extract 0 k) 10 = (cln s k : Nat) := by
  unfold Lib.lastIndexByte
  rw [size_extract hk, Nat.sub_zero]
  exact cln_idx hk k (Nat.le_refl _)
theorem sign_idx : ∀ c, c < 256 → decide (0 ≤ Lib.indexByte [61, 59, 44, 40, 41, 91, 93, 43, 45, 42, 47, 37] c.toUInt8) = isS c := by decide +kernel
end Go.Proofs.YtdimkfcanegahaaDoor
