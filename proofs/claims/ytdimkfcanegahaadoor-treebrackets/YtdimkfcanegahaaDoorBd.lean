/-
  Contracts of the program's token: bytes, words.
-/
import Derived.Test.YtdimkfcanegahaaDoorBb
import Derived.Test.YtdimkfcanegahaaDoorBc
import Derived.Test.YtdimkfcanegahaaDoorBs
namespace Go.Proofs.YtdimkfcanegahaaDoor
open Go.RowKit
set_option maxHeartbeats 400000 in
theorem tdigit_any (w : World) (c : Nat) (hc : c < 256) : Calls Tryd.prog 108 #[.int .u8 (c : Int)] w fun e w' => e = .returned (.bool (isD c)) ∧ w = w' := by
  by_cases h1 : 48 ≤ c
  · by_cases h2 : c ≤ 57
    · rw [isD_t ⟨h1, h2⟩]
      have q : decide ((c : Int) ≤ 57) = true := decide_eq_true (by omega)
      go_enter Tryd.func108, Tryd.ntmps108
      go_wp2
      go_ret
      exact ⟨rfl, rfl⟩
    · rw [isD_f (fun h => h2 h.2)]
      have q : decide ((c : Int) ≤ 57) = false := decide_eq_false (by omega)
      go_enter Tryd.func108, Tryd.ntmps108
      go_wp2
      go_ret
      exact ⟨rfl, rfl⟩
  · rw [isD_f (fun h => h1 h.1)]
    go_enter Tryd.func108, Tryd.ntmps108
    go_wp2
    go_ret
    exact ⟨rfl, rfl⟩
/-- A byte that may stand in a name. -/
def inN (c : Nat) (f : Bool) : Bool := if isD c then !f else isL c
set_option maxHeartbeats 1000000 in
theorem tinName_any (w : World) (c : Nat) (f : Bool) (hc : c < 256) : Calls Tryd.prog 102 #[.int .u8 (c : Int), .bool f] w fun e w' => e = .returned (.bool (inN c f)) ∧ w = w' := by
  have HD : Hid (∀ w' : World, Calls Tryd.prog 108 #[.int .u8 (c : Int)] w' fun e w'' => e = .returned (.bool (isD c)) ∧ w' = w'') := fun w' => tdigit_any w' c hc
  cases hd : isD c with
  | true =>
    rw [hd] at HD
    cases f with
    | true =>
      rw [show inN c true = false by unfold inN; rw [hd]; rfl]
      go_enter Tryd.func102, Tryd.ntmps102
      go_wp2_with (go_at_call 108; refine (HD.out _).mono ?_; rintro e w' ⟨rfl, rfl⟩)
      go_ret
      exact ⟨rfl, rfl⟩
    | false =>
      rw [show inN c false = true by unfold inN; rw [hd]; rfl]
      go_enter Tryd.func102, Tryd.ntmps102
      go_wp2_with (go_at_call 108; refine (HD.out _).mono ?_; rintro e w' ⟨rfl, rfl⟩)
      go_ret
      exact ⟨rfl, rfl⟩
  | false =>
    rw [hd] at HD
    rw [show inN c f = isL c by unfold inN; rw [hd]; rfl]
    clear hd
    by_cases h1 : 97 ≤ c
    · by_cases h2 : c ≤ 122
      · rw [isL_t ⟨h1, h2⟩]
        have q : decide ((c : Int) ≤ 122) = true := decide_eq_true (by omega)
        go_enter Tryd.func102, Tryd.ntmps102
        go_wp2_with (go_at_call 108; refine (HD.out _).mono ?_; rintro e w' ⟨rfl, rfl⟩)
        go_ret
        exact ⟨rfl, rfl⟩
      · rw [isL_f (fun h => h2 h.2)]
        have q : decide ((c : Int) ≤ 122) = false := decide_eq_false (by omega)
        go_enter Tryd.func102, Tryd.ntmps102
        go_wp2_with (go_at_call 108; refine (HD.out _).mono ?_; rintro e w' ⟨rfl, rfl⟩)
        go_ret
        exact ⟨rfl, rfl⟩
    · rw [isL_f (fun h => h1 h.1)]
      go_enter Tryd.func102, Tryd.ntmps102
      go_wp2_with (go_at_call 108; refine (HD.out _).mono ?_; rintro e w' ⟨rfl, rfl⟩)
      go_ret
      exact ⟨rfl, rfl⟩
theorem inN_first (c : Nat) : inN c true = isL c := by
  unfold inN
  cases hd : isD c with
  | false => rfl
  | true =>
    have := isD_iff.1 hd
    rw [isL_f (by omega)]
    rfl
theorem inN_rest (c : Nat) : inN c false = (isD c || true && isL c) := by
  unfold inN
  cases hd : isD c <;> cases hl : isL c <;> rfl
set_option maxRecDepth 20000 in
set_option maxHeartbeats 400000 in
theorem tsign_any (w : World) (c : Nat) (hc : c < 256) : Calls Tryd.prog 100 #[.int .u8 (c : Int)] w fun e w' => e = .returned (.bool (isS c)) ∧ w = w' := by
  obtain ⟨i, HI⟩ : ∃ i : Int, Hid (Lib.indexByte [61, 59, 44, 40, 41, 91, 93, 43, 45, 42, 47, 37] c.toUInt8 = i) := ⟨_, rfl⟩
  have HD : Hid (∀ w' : World, Calls Tryd.prog 103 #[.string ⟨#[61, 59, 44, 40, 41, 91, 93, 43, 45, 42, 47, 37]⟩, .int .u8 (c : Int)] w' fun e w'' => e = .returned (.int .i64 i) ∧ w' = w'') := fun w' => (sidx_raw w' _ _).mono (fun e w'' h => ⟨by rw [h.1, ← HI.out]; rfl, h.2.symm⟩)
  have HS : Hid (decide (0 ≤ i) = isS c) := by show _ = _; rw [← HI.out]; exact sign_idx c hc
  rw [← HS.out]
  clear HS HI
  go_enter Tryd.func100, Tryd.ntmps100
  go_wp2_with (go_at_call 103; refine (HD.out _).mono ?_; rintro e w' ⟨rfl, rfl⟩)
  go_ret
  exact ⟨rfl, rfl⟩
theorem gWords : Tryd.prog.globalNamed "recoup/token.words" = some 4 := by kernel_rfl
theorem Wt9.cell {w : World} (h : Wt9 w) (i : Nat) (hi : i < 17) : w.cell? ⟨4, i, none⟩ = some (.string (wds.getD i default)) := by
  rw [World.var?_cell gWords h i]
  have : i < wds.length := hi
  simp [this]
set_option maxRecDepth 20000 in
set_option maxHeartbeats 400000 in
theorem tword_any (w : World) (x : ByteArray) (HT : Hid (Wt9 w)) : Calls Tryd.prog 99 #[.string x] w fun e w' => e = .returned (.bool (isW x)) ∧ w = w' := by
  go_enter Tryd.func99, Tryd.ntmps99
  go_wp2
  go_loop [4] (fun vi => ∃ i : Nat, i ≤ 17 ∧ vi = .int .i64 (i : Int) ∧ Hid (∀ j, j < i → wds.getD j default ≠ x)) (fun vi => 17 - (intOf vi).toNat)
  case atStart => exact ⟨0, by omega, rfl, fun j hj => by omega⟩
  case round =>
    obtain ⟨i, hi, rfl, HN⟩ := hrel
    by_cases hlt : i < 17
    · have hc := HT.out.cell i hlt
      obtain ⟨y, HY⟩ : ∃ y, Hid (wds.getD i default = y) := ⟨_, rfl⟩
      rw [HY.out] at hc
      have p0 : (0 : Int) ≤ (i : Int) := by omega
      have p1 : (i : Int) < 17 := by omega
      by_cases hy : y = x
      · subst hy
        have HS9 : Hid (isW y = true) := isW_at hlt HY.out
        go_wp2
        go_ret
        exact ⟨by rw [HS9.out]; rfl, rfl⟩
      · have hy2 := tl_ne hy
        go_wp2
        refine ⟨⟨i + 1, by omega, by go_num, fun j hj => ?_⟩, by simp [intOf]; omega⟩
        by_cases e : j = i
        · rw [e, HY.out]; exact hy
        · exact HN.out j (by omega)
    · have HS9 : Hid (isW x = false) := isW_not (fun j hj => HN.out j (by omega))
      go_wp2
      go_ret
      exact ⟨by rw [HS9.out]; rfl, rfl⟩
end Go.Proofs.YtdimkfcanegahaaDoor
