/-
  Contracts of the token's reference: Name.
-/
import Derived.Test.YtdimkfcanegahaaDoorAc
namespace Go.Proofs.YtdimkfcanegahaaDoor
open Go.RowKit
/-- Is it a name? -/
def isN (x : ByteArray) : Bool := decide (1 ≤ x.size) && (decide (x.size ≤ 16) && (isL (tb x 0) && (!isW x && (List.range x.size).all (fun j => isL (tb x j) || isD (tb x j)))))
theorem isN_iff {x : ByteArray} : isN x = true ↔ NameP x := by
  unfold isN
  simp only [Bool.and_eq_true, decide_eq_true_eq, Bool.not_eq_true', List.all_eq_true, List.mem_range]
  exact ⟨fun ⟨a, b, c, d, e⟩ => ⟨a, b, c, d, e⟩, fun ⟨a, b, c, d, e⟩ => ⟨a, b, c, d, e⟩⟩
theorem isN_not {x : ByteArray} (h : ¬ NameP x) : isN x = false := by
  cases hc : isN x with
  | false => rfl
  | true => exact absurd (isN_iff.1 hc) h
set_option maxRecDepth 20000 in
set_option maxHeartbeats 1000000 in
theorem rname_any (w : World) (x : ByteArray) (n : Nat) (hn : x.size = n) (hs : n ≤ 140737488351232) : Calls Tryd.prog 51 #[.string x] w fun e w' => e = .returned (.bool (isN x)) ∧ Below w.heap.size w w' := by
  have HWd : Hid (∀ w' : World, Calls Tryd.prog 78 #[.string x] w' fun e w'' => e = .returned (.bool (isW x)) ∧ Below w'.heap.size w' w'') := fun w' => rword_any w' x
  obtain ⟨v, HV⟩ : ∃ v, Hid (isW x = v) := ⟨_, rfl⟩
  obtain ⟨r, HR⟩ : ∃ r, Hid (isN x = r) := ⟨_, rfl⟩
  rw [HV.out] at HWd
  rw [HR.out]
  by_cases h0 : n = 0
  · obtain rfl : r = false := by rw [← HR.out]; exact isN_not (fun h => by have := h.pos; omega)
    have q : decide (n < 1) = true := decide_eq_true (by omega)
    have q1 : n < 1 := by omega
    clear HR
    go_enter Tryd.func51, Tryd.ntmps51
    go_wp2
    go_ret
    exact ⟨rfl, Below.refl _ _⟩
  by_cases h16 : 16 < n
  · obtain rfl : r = false := by rw [← HR.out]; exact isN_not (fun h => by have := h.most; omega)
    have q : decide (n < 1) = false := decide_eq_false (by omega)
    have q1 : 1 ≤ n := by omega
    have q2 : decide (16 < n) = true := decide_eq_true h16
    clear HR
    go_enter Tryd.func51, Tryd.ntmps51
    go_wp2
    go_ret
    exact ⟨rfl, Below.refl _ _⟩
  have q : decide (n < 1) = false := decide_eq_false (by omega)
  have q1 : 1 ≤ n := by omega
  have q2 : decide (16 < n) = false := decide_eq_false h16
  have q3 : n ≤ 16 := by omega
  have h0x : 0 < x.size := by omega
  obtain ⟨c, HC⟩ : ∃ c, Hid (tb x 0 = c) := ⟨_, rfl⟩
  have hc : x[0].toNat = c := by rw [← HC.out]; exact tb_at h0x
  have hc8 : c < 256 := by rw [← HC.out]; exact tb_lt x 0
  have HL : Hid (∀ (w' : World) (c : Nat), c < 256 → Calls Tryd.prog 77 #[.int .u8 (c : Int)] w' fun r w'' => r = .returned (.bool (isL c)) ∧ w' = w'') := fun w' c h => rletter_any w' c h
  have HD : Hid (∀ (w' : World) (c : Nat), c < 256 → Calls Tryd.prog 79 #[.int .u8 (c : Int)] w' fun r w'' => r = .returned (.bool (isD c)) ∧ w' = w'') := fun w' c h => rdigit_any w' c h
  obtain ⟨l0, HL0⟩ : ∃ l0, Hid (isL c = l0) := ⟨_, rfl⟩
  cases l0 with
  | false =>
    obtain rfl : r = false := by rw [← HR.out]; exact isN_not (fun h => by have := h.first; rw [HC.out, HL0.out] at this; cases this)
    clear HR
    go_enter Tryd.func51, Tryd.ntmps51
    go_wp2_with (go_at_call 77; refine (HL.out _ c hc8).mono ?_; rintro r w' ⟨rfl, rfl⟩; rw [HL0.out])
    go_ret
    exact ⟨rfl, Below.refl _ _⟩
  | true =>
    cases v with
    | true =>
      obtain rfl : r = false := by rw [← HR.out]; exact isN_not (fun h => by have := h.noWord; rw [HV.out] at this; cases this)
      clear HR
      go_enter Tryd.func51, Tryd.ntmps51
      go_wp2_with (first
        | (go_at_call 77; refine (HL.out _ c hc8).mono ?_; rintro r w' ⟨rfl, rfl⟩; rw [HL0.out])
        | (go_at_call 78; refine (HWd.out _).mono ?_; rintro r w1 ⟨rfl, hb1⟩; have HB1 := jhid9 hb1; clear hb1))
      go_ret
      exact ⟨rfl, HB1.out⟩
    | false =>
      have HRn : Hid ((∀ j, j < n → (isL (tb x j) || isD (tb x j)) = true) → r = true) := fun h => by
        rw [← HR.out]
        exact isN_iff.2 ⟨by omega, by omega, by rw [HC.out]; exact HL0.out, HV.out, by rw [hn]; exact h⟩
      have HRf : Hid (∀ j, j < n → (isL (tb x j) || isD (tb x j)) = false → r = false) := fun j hj h => by
        rw [← HR.out]
        exact isN_not (fun g => by have := g.all j (by omega); rw [h] at this; cases this)
      clear HR
      go_enter Tryd.func51, Tryd.ntmps51
      go_wp2_with (first
        | (go_at_call 77; refine (HL.out _ c hc8).mono ?_; rintro r w' ⟨rfl, rfl⟩; rw [HL0.out])
        | (go_at_call 78; refine (HWd.out _).mono ?_; rintro r w1 ⟨rfl, hb1⟩; have HB1 := jhid9 hb1; clear hb1))
      go_loop [3] (fun vi => ∃ i : Nat, i ≤ n ∧ vi = .int .i64 (i : Int) ∧ Hid (∀ j, j < i → (isL (tb x j) || isD (tb x j)) = true)) (fun vi => n - (intOf vi).toNat)
      case atStart => exact ⟨0, by omega, rfl, fun j hj => by omega⟩
      case round =>
        obtain ⟨i, hi, rfl, HI⟩ := hrel
        by_cases hlt : i < n
        · have hix : i < x.size := by omega
          obtain ⟨y, HY⟩ : ∃ y, Hid (tb x i = y) := ⟨_, rfl⟩
          have hy : x[i].toNat = y := by rw [← HY.out]; exact tb_at hix
          have hy8 : y < 256 := by rw [← HY.out]; exact tb_lt x i
          obtain ⟨l1, HL1⟩ : ∃ l1, Hid (isL y = l1) := ⟨_, rfl⟩
          obtain ⟨d1, HD1⟩ : ∃ d1, Hid (isD y = d1) := ⟨_, rfl⟩
          have HI2 : Hid ((l1 || d1) = true → ∀ j, j < i + 1 → (isL (tb x j) || isD (tb x j)) = true) := fun h j hj => by
            by_cases e : j = i
            · rw [e, HY.out, HL1.out, HD1.out]; exact h
            · exact HI.out j (by omega)
          have HF2 : Hid ((l1 || d1) = false → r = false) := fun h => HRf.out i hlt (by rw [HY.out, HL1.out, HD1.out]; exact h)
          clear hc
          cases l1 with
          | true =>
            clear HF2
            go_wp2_with (go_at_call 77; refine (HL.out _ y hy8).mono ?_; rintro r w' ⟨rfl, rfl⟩; rw [HL1.out])
            exact ⟨⟨i + 1, by omega, by go_num, HI2.out rfl⟩, by simp [intOf]; omega⟩
          | false =>
            cases d1 with
            | true =>
              clear HF2
              go_wp2_with (first | (go_at_call 77; refine (HL.out _ y hy8).mono ?_; rintro r w' ⟨rfl, rfl⟩; rw [HL1.out]) | (go_at_call 79; refine (HD.out _ y hy8).mono ?_; rintro r w' ⟨rfl, rfl⟩; rw [HD1.out]))
              exact ⟨⟨i + 1, by omega, by go_num, HI2.out rfl⟩, by simp [intOf]; omega⟩
            | false =>
              obtain rfl : r = false := HF2.out rfl
              go_wp2_with (first | (go_at_call 77; refine (HL.out _ y hy8).mono ?_; rintro r w' ⟨rfl, rfl⟩; rw [HL1.out]) | (go_at_call 79; refine (HD.out _ y hy8).mono ?_; rintro r w' ⟨rfl, rfl⟩; rw [HD1.out]))
              go_ret
              exact ⟨rfl, HB1.out⟩
        · obtain rfl : r = true := HRn.out (fun j hj => HI.out j (by omega))
          go_wp2
          go_ret
          exact ⟨rfl, HB1.out⟩
end Go.Proofs.YtdimkfcanegahaaDoor
