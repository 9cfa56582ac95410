/-
  Contracts of the token's reference: letter, digit, sign, Words, Word.
-/
import Derived.Test.YtdimkfcanegahaaDoorAa
import Derived.Test.YtdimkfcanegahaaDoorJb
namespace Go.Proofs.YtdimkfcanegahaaDoor
open Go.RowKit
theorem jhid9 {p : Prop} (h : p) : Hid p := h
theorem isL_t {c : Nat} (h : 97 ≤ c ∧ c ≤ 122) : isL c = true := isL_iff.2 h
theorem isL_f {c : Nat} (h : ¬ (97 ≤ c ∧ c ≤ 122)) : isL c = false := by unfold isL; exact decide_eq_false h
theorem isD_t {c : Nat} (h : 48 ≤ c ∧ c ≤ 57) : isD c = true := isD_iff.2 h
theorem isD_f {c : Nat} (h : ¬ (48 ≤ c ∧ c ≤ 57)) : isD c = false := by unfold isD; exact decide_eq_false h
set_option maxHeartbeats 400000 in
theorem rletter_any (w : World) (c : Nat) (hc : c < 256) : Calls Tryd.prog 77 #[.int .u8 (c : Int)] w fun e w' => e = .returned (.bool (isL c)) ∧ w = w' := by
  by_cases h1 : 97 ≤ c
  · by_cases h2 : c ≤ 122
    · rw [isL_t ⟨h1, h2⟩]
      have q : decide ((c : Int) ≤ 122) = true := decide_eq_true (by omega)
      go_enter Tryd.func77, Tryd.ntmps77
      go_wp2
      go_ret
      exact ⟨rfl, rfl⟩
    · rw [isL_f (fun h => h2 h.2)]
      have q : decide ((c : Int) ≤ 122) = false := decide_eq_false (by omega)
      go_enter Tryd.func77, Tryd.ntmps77
      go_wp2
      go_ret
      exact ⟨rfl, rfl⟩
  · rw [isL_f (fun h => h1 h.1)]
    go_enter Tryd.func77, Tryd.ntmps77
    go_wp2
    go_ret
    exact ⟨rfl, rfl⟩
set_option maxHeartbeats 400000 in
theorem rdigit_any (w : World) (c : Nat) (hc : c < 256) : Calls Tryd.prog 79 #[.int .u8 (c : Int)] w fun e w' => e = .returned (.bool (isD c)) ∧ w = w' := by
  by_cases h1 : 48 ≤ c
  · by_cases h2 : c ≤ 57
    · rw [isD_t ⟨h1, h2⟩]
      have q : decide ((c : Int) ≤ 57) = true := decide_eq_true (by omega)
      go_enter Tryd.func79, Tryd.ntmps79
      go_wp2
      go_ret
      exact ⟨rfl, rfl⟩
    · rw [isD_f (fun h => h2 h.2)]
      have q : decide ((c : Int) ≤ 57) = false := decide_eq_false (by omega)
      go_enter Tryd.func79, Tryd.ntmps79
      go_wp2
      go_ret
      exact ⟨rfl, rfl⟩
  · rw [isD_f (fun h => h1 h.1)]
    go_enter Tryd.func79, Tryd.ntmps79
    go_wp2
    go_ret
    exact ⟨rfl, rfl⟩
def sgB : ByteArray := ⟨#[61, 59, 44, 40, 41, 91, 93, 43, 45, 42, 47, 37]⟩
theorem sg_at : ∀ i, i < 12 → tb sgB i = sgs.getD i 0 := by decide
theorem sgs_len : sgs.length = 12 := rfl
theorem isS_at {i c : Nat} (hi : i < 12) (h : sgs.getD i 0 = c) : isS c = true := by
  unfold isS
  rw [List.contains_iff_mem, ← h, List.getD_eq_getElem?_getD, List.getElem?_eq_getElem (by rw [sgs_len]; exact hi)]
  exact List.getElem_mem _
theorem isS_not {c : Nat} (h : ∀ i, i < 12 → sgs.getD i 0 ≠ c) : isS c = false := by
  cases hc : isS c with
  | false => rfl
  | true =>
    unfold isS at hc
    rw [List.contains_iff_mem] at hc
    obtain ⟨i, hi, e⟩ := List.getElem_of_mem hc
    exact absurd (by rw [List.getD_eq_getElem?_getD, List.getElem?_eq_getElem hi]; exact e) (h i (by rw [← sgs_len]; exact hi))
/-- A block that begins with these strings. -/
def StAt (w : World) (b : Nat) (t : TypeId) (l : List ByteArray) : Prop := ∃ cur : Array Value, w.heap[b]? = some (.cells cur t (0, 0)) ∧ cur.toList.take l.length = l.map Value.string
theorem StAt.whole {w : World} {b : Nat} {t : TypeId} {l : List ByteArray} (h : w.heap[b]? = some (.cells (l.map Value.string).toArray t (0, 0))) : StAt w b t l := ⟨_, h, List.take_of_length_le (by simp)⟩
theorem StAt.cell {w : World} {b : Nat} {t : TypeId} {l : List ByteArray} (h : StAt w b t l) (i : Nat) (hi : i < l.length) : w.cell? ⟨b, i, none⟩ = some (.string (l.getD i default)) := by
  obtain ⟨cur, h, e⟩ := h
  rw [cell_of_row w b i _ _ _ h]
  have := congrArg (·[i]?) e
  simp only [List.getElem?_take, if_pos hi, List.getElem?_map] at this
  rw [← Array.getElem?_toList, this]
  simp [hi]
theorem StAt.lt {w : World} {b : Nat} {t : TypeId} {l : List ByteArray} (h : StAt w b t l) : b < w.heap.size := by
  obtain ⟨cur, h, _⟩ := h
  exact lt_of_block h
theorem StAt.later {w w' : World} {b : Nat} {t : TypeId} {l : List ByteArray} (h : StAt w b t l) (hb : Below w.heap.size w w') : StAt w' b t l := by
  have hlt := h.lt
  obtain ⟨cur, h, e⟩ := h
  exact ⟨cur, by rw [hb.block b hlt]; exact h, e⟩
set_option maxRecDepth 20000 in
set_option maxHeartbeats 400000 in
theorem rwords_any (w : World) : Calls Tryd.prog 97 #[] w fun e w' => ∃ b, e = .returned (.slice (some ⟨b, 0, none⟩) 17 17) ∧ w.heap.size ≤ b ∧ StAt w' b 9 wds ∧ Below w.heap.size w w' := by
  go_enter Tryd.func97, Tryd.ntmps97
  go_wp2
  go_ret
  exact ⟨w.heap.size, rfl, Nat.le_refl _, StAt.whole Array.getElem?_push_size, jlow _ _⟩
theorem wds_len : wds.length = 17 := rfl
theorem isW_at {i : Nat} {x : ByteArray} (hi : i < 17) (h : wds.getD i default = x) : isW x = true := by
  rw [isW_iff, ← h, List.getD_eq_getElem?_getD, List.getElem?_eq_getElem (by rw [wds_len]; exact hi)]
  exact List.getElem_mem _
theorem isW_not {x : ByteArray} (h : ∀ i, i < 17 → wds.getD i default ≠ x) : isW x = false := by
  cases hc : isW x with
  | false => rfl
  | true =>
    rw [isW_iff] at hc
    obtain ⟨i, hi, e⟩ := List.getElem_of_mem hc
    exact absurd (by rw [List.getD_eq_getElem?_getD, List.getElem?_eq_getElem hi]; exact e) (h i (by rw [← wds_len]; exact hi))
set_option maxRecDepth 20000 in
set_option maxHeartbeats 400000 in
theorem rword_any (w : World) (x : ByteArray) : Calls Tryd.prog 78 #[.string x] w fun e w' => e = .returned (.bool (isW x)) ∧ Below w.heap.size w w' := by
  go_enter Tryd.func78, Tryd.ntmps78
  go_wp2_with (go_at_call 97; refine (rwords_any _).mono ?_; rintro e w1 ⟨b, rfl, _, h1, h2⟩; have HS := jhid9 h1; have HB := jhid9 h2; clear h1 h2)
  go_loop [4] (fun vi => ∃ i : Nat, i ≤ 17 ∧ vi = .int .i64 (i : Int) ∧ Hid (∀ j, j < i → wds.getD j default ≠ x)) (fun vi => 17 - (intOf vi).toNat)
  case atStart => exact ⟨0, by omega, rfl, fun j hj => by omega⟩
  case round =>
    obtain ⟨i, hi, rfl, HN⟩ := hrel
    by_cases hlt : i < 17
    · have hc := HS.out.cell i (by rw [wds_len]; exact hlt)
      obtain ⟨y, HY⟩ : ∃ y, Hid (wds.getD i default = y) := ⟨_, rfl⟩
      rw [HY.out] at hc
      by_cases hy : y = x
      · subst hy
        have HS9 : Hid (isW y = true) := isW_at hlt HY.out
        go_wp2
        go_ret
        exact ⟨by rw [HS9.out]; rfl, HB.out⟩
      · have hy2 := tl_ne hy
        go_wp2
        refine ⟨⟨i + 1, by omega, by go_num, fun j hj => ?_⟩, by simp [intOf]; omega⟩
        by_cases e : j = i
        · rw [e, HY.out]; exact hy
        · exact HN.out j (by omega)
    · have HS9 : Hid (isW x = false) := isW_not (fun j hj => HN.out j (by omega))
      go_wp2
      go_ret
      exact ⟨by rw [HS9.out]; rfl, HB.out⟩
end Go.Proofs.YtdimkfcanegahaaDoor
