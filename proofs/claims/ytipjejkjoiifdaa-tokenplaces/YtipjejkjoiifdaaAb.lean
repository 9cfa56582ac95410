/-
  Contracts of the token's reference: letter, digit, sign, Words, Word.
-/
import Derived.Test.YtipjejkjoiifdaaAa
import Derived.Test.YtipjejkjoiifdaaJb
namespace Go.Proofs.Ytipjejkjoiifdaa
open Go.RowKit
theorem jhid9 {p : Prop} (h : p) : Hid p := h
theorem isL_t {c : Nat} (h : 97 ≤ c ∧ c ≤ 122) : isL c = true := isL_iff.2 h
theorem isL_f {c : Nat} (h : ¬ (97 ≤ c ∧ c ≤ 122)) : isL c = false := by unfold isL; exact decide_eq_false h
theorem isD_t {c : Nat} (h : 48 ≤ c ∧ c ≤ 57) : isD c = true := isD_iff.2 h
theorem isD_f {c : Nat} (h : ¬ (48 ≤ c ∧ c ≤ 57)) : isD c = false := by unfold isD; exact decide_eq_false h
def sgB : ByteArray := ⟨#[61, 59, 44, 40, 41, 91, 93, 43, 45, 42, 47, 37]⟩
theorem sg_at : ∀ i, i < 12 → tb sgB i = sgs.getD i 0 := by decide
theorem sgs_len : sgs.length = 12 := rfl
theorem isS_at {i c : Nat} (hi : i < 12) (h : sgs.getD i 0 = c) : isS c = true := by
  unfold isS
  rw [List.contains_iff_mem, ← h, List.getD_eq_getElem?_getD, List.getElem?_eq_getElem (by rw [sgs_len]; exact hi)]
  exact List.getElem_mem _
theorem isS_not {c : Nat} (h : ∀ i, i < 12 → sgs.getD i 0 ≠ c) : isS c = false := by
  cases hc : isS c with
  | false => rfl
  | true =>
    unfold isS at hc
    rw [List.contains_iff_mem] at hc
    obtain ⟨i, hi, e⟩ := List.getElem_of_mem hc
    exact absurd (by rw [List.getD_eq_getElem?_getD, List.getElem?_eq_getElem hi]; exact e) (h i (by rw [← sgs_len]; exact hi))
/-- A block that begins with these strings. -/
def StAt (w : World) (b : Nat) (t : TypeId) (l : List ByteArray) : Prop := ∃ cur : Array Value, w.heap[b]? = some (.cells cur t (0, 0)) ∧ cur.toList.take l.length = l.map Value.string
theorem StAt.whole {w : World} {b : Nat} {t : TypeId} {l : List ByteArray} (h : w.heap[b]? = some (.cells (l.map Value.string).toArray t (0, 0))) : StAt w b t l := ⟨_, h, List.take_of_length_le (by simp)⟩
theorem StAt.cell {w : World} {b : Nat} {t : TypeId} {l : List ByteArray} (h : StAt w b t l) (i : Nat) (hi : i < l.length) : w.cell? ⟨b, i, none⟩ = some (.string (l.getD i default)) := by
  obtain ⟨cur, h, e⟩ := h
  rw [cell_of_row w b i _ _ _ h]
  have := congrArg (·[i]?) e
  simp only [List.getElem?_take, if_pos hi, List.getElem?_map] at this
  rw [← Array.getElem?_toList, this]
  simp [hi]
theorem StAt.lt {w : World} {b : Nat} {t : TypeId} {l : List ByteArray} (h : StAt w b t l) : b < w.heap.size := by
  obtain ⟨cur, h, _⟩ := h
  exact lt_of_block h
theorem StAt.later {w w' : World} {b : Nat} {t : TypeId} {l : List ByteArray} (h : StAt w b t l) (hb : Below w.heap.size w w') : StAt w' b t l := by
  have hlt := h.lt
  obtain ⟨cur, h, e⟩ := h
  exact ⟨cur, by rw [hb.block b hlt]; exact h, e⟩
theorem wds_len : wds.length = 17 := rfl
theorem isW_at {i : Nat} {x : ByteArray} (hi : i < 17) (h : wds.getD i default = x) : isW x = true := by
  rw [isW_iff, ← h, List.getD_eq_getElem?_getD, List.getElem?_eq_getElem (by rw [wds_len]; exact hi)]
  exact List.getElem_mem _
theorem isW_not {x : ByteArray} (h : ∀ i, i < 17 → wds.getD i default ≠ x) : isW x = false := by
  cases hc : isW x with
  | false => rfl
  | true =>
    rw [isW_iff] at hc
    obtain ⟨i, hi, e⟩ := List.getElem_of_mem hc
    exact absurd (by rw [List.getD_eq_getElem?_getD, List.getElem?_eq_getElem hi]; exact e) (h i (by rw [← wds_len]; exact hi))
end Go.Proofs.Ytipjejkjoiifdaa
