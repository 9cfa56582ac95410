/-
  Contracts of the program's token: bytes, words.
-/
import Derived.Test.YtipjejkjoiifdabDoorBb
import Derived.Test.YtipjejkjoiifdabDoorBc
import Derived.Test.YtipjejkjoiifdabDoorBs
namespace Go.Proofs.YtipjejkjoiifdabDoor
open Go.RowKit
set_option maxHeartbeats 400000 in
theorem tdigit_any (w : World) (c : Nat) (hc : c < 256) : Calls Tryd.prog 13 #[.int .u8 (c : Int)] w fun e w' => e = .returned (.bool (isD c)) ∧ w = w' := by
  by_cases h1 : 48 ≤ c
  · by_cases h2 : c ≤ 57
    · rw [isD_t ⟨h1, h2⟩]
      have q : decide ((c : Int) ≤ 57) = true := decide_eq_true (by omega)
      go_enter Tryd.func13, Tryd.ntmps13
      go_wp2
      go_ret
      exact ⟨rfl, rfl⟩
    · rw [isD_f (fun h => h2 h.2)]
      have q : decide ((c : Int) ≤ 57) = false := decide_eq_false (by omega)
      go_enter Tryd.func13, Tryd.ntmps13
      go_wp2
      go_ret
      exact ⟨rfl, rfl⟩
  · rw [isD_f (fun h => h1 h.1)]
    go_enter Tryd.func13, Tryd.ntmps13
    go_wp2
    go_ret
    exact ⟨rfl, rfl⟩
/-- A byte that may stand in a name. -/
def inN (c : Nat) (f : Bool) : Bool := if isD c then !f else isL c
set_option maxHeartbeats 1000000 in
theorem tinName_any (w : World) (c : Nat) (f : Bool) (hc : c < 256) : Calls Tryd.prog 34 #[.int .u8 (c : Int), .bool f] w fun e w' => e = .returned (.bool (inN c f)) ∧ w = w' := by
  have HD : Hid (∀ w' : World, Calls Tryd.prog 13 #[.int .u8 (c : Int)] w' fun e w'' => e = .returned (.bool (isD c)) ∧ w' = w'') := fun w' => tdigit_any w' c hc
  cases hd : isD c with
  | true =>
    rw [hd] at HD
    cases f with
    | true =>
      rw [show inN c true = false by unfold inN; rw [hd]; rfl]
      go_enter Tryd.func34, Tryd.ntmps34
      go_wp2_with (go_at_call 13; refine (HD.out _).mono ?_; rintro e w' ⟨rfl, rfl⟩)
      go_ret
      exact ⟨rfl, rfl⟩
    | false =>
      rw [show inN c false = true by unfold inN; rw [hd]; rfl]
      go_enter Tryd.func34, Tryd.ntmps34
      go_wp2_with (go_at_call 13; refine (HD.out _).mono ?_; rintro e w' ⟨rfl, rfl⟩)
      go_ret
      exact ⟨rfl, rfl⟩
  | false =>
    rw [hd] at HD
    rw [show inN c f = isL c by unfold inN; rw [hd]; rfl]
    clear hd
    by_cases h1 : 97 ≤ c
    · by_cases h2 : c ≤ 122
      · rw [isL_t ⟨h1, h2⟩]
        have q : decide ((c : Int) ≤ 122) = true := decide_eq_true (by omega)
        go_enter Tryd.func34, Tryd.ntmps34
        go_wp2_with (go_at_call 13; refine (HD.out _).mono ?_; rintro e w' ⟨rfl, rfl⟩)
        go_ret
        exact ⟨rfl, rfl⟩
      · rw [isL_f (fun h => h2 h.2)]
        have q : decide ((c : Int) ≤ 122) = false := decide_eq_false (by omega)
        go_enter Tryd.func34, Tryd.ntmps34
        go_wp2_with (go_at_call 13; refine (HD.out _).mono ?_; rintro e w' ⟨rfl, rfl⟩)
        go_ret
        exact ⟨rfl, rfl⟩
    · rw [isL_f (fun h => h1 h.1)]
      go_enter Tryd.func34, Tryd.ntmps34
      go_wp2_with (go_at_call 13; refine (HD.out _).mono ?_; rintro e w' ⟨rfl, rfl⟩)
      go_ret
      exact ⟨rfl, rfl⟩
theorem inN_first (c : Nat) : inN c true = isL c := by
  unfold inN
  cases hd : isD c with
  | false => rfl
  | true =>
    have := isD_iff.1 hd
    rw [isL_f (by omega)]
    rfl
theorem inN_rest (c : Nat) : inN c false = (isD c || true && isL c) := by
  unfold inN
  cases hd : isD c <;> cases hl : isL c <;> rfl
set_option maxHeartbeats 400000 in
theorem tletter_any (w : World) (c : Nat) (hc : c < 256) : Calls Tryd.prog 12 #[.int .u8 (c : Int)] w fun e w' => e = .returned (.bool (isL c)) ∧ w = w' := by
  have HD : Hid (∀ w' : World, Calls Tryd.prog 34 #[.int .u8 (c : Int), .bool true] w' fun e w'' => e = .returned (.bool (isL c)) ∧ w' = w'') := fun w' => by rw [← inN_first]; exact tinName_any w' c true hc
  obtain ⟨b, Hb⟩ : ∃ b, Hid (isL c = b) := ⟨_, rfl⟩
  rw [Hb.out] at HD
  rw [Hb.out]
  go_enter Tryd.func12, Tryd.ntmps12
  go_wp2_with (go_at_call 34; refine (HD.out _).mono ?_; rintro e w' ⟨rfl, rfl⟩)
  go_ret
  exact ⟨rfl, rfl⟩
set_option maxHeartbeats 400000 in
theorem tblank_any (w : World) (c : Nat) (hc : c < 256) : Calls Tryd.prog 11 #[.int .u8 (c : Int)] w fun e w' => e = .returned (.bool (isB c)) ∧ w = w' := by
  by_cases h1 : c = 32
  · subst h1
    go_enter Tryd.func11, Tryd.ntmps11
    go_wp2
    go_ret
    exact ⟨rfl, rfl⟩
  · have q1 : ((c : Int) == 32) = false := by simp; omega
    by_cases h2 : c = 9
    · subst h2
      go_enter Tryd.func11, Tryd.ntmps11
      go_wp2
      go_ret
      exact ⟨rfl, rfl⟩
    · have q2 : ((c : Int) == 9) = false := by simp; omega
      by_cases h3 : c = 10
      · subst h3
        go_enter Tryd.func11, Tryd.ntmps11
        go_wp2
        go_ret
        exact ⟨rfl, rfl⟩
      · have q3 : ((c : Int) == 10) = false := by simp; omega
        rw [show isB c = false by unfold isB; exact decide_eq_false (by omega)]
        go_enter Tryd.func11, Tryd.ntmps11
        go_wp2
        go_ret
        exact ⟨rfl, rfl⟩
set_option maxRecDepth 20000 in
set_option maxHeartbeats 400000 in
theorem tsign_any (w : World) (c : Nat) (hc : c < 256) : Calls Tryd.prog 14 #[.int .u8 (c : Int)] w fun e w' => e = .returned (.bool (isS c)) ∧ w = w' := by
  obtain ⟨i, HI⟩ : ∃ i : Int, Hid (Lib.indexByte [61, 59, 44, 40, 41, 91, 93, 43, 45, 42, 47, 37] c.toUInt8 = i) := ⟨_, rfl⟩
  have HD : Hid (∀ w' : World, Calls Tryd.prog 35 #[.string ⟨#[61, 59, 44, 40, 41, 91, 93, 43, 45, 42, 47, 37]⟩, .int .u8 (c : Int)] w' fun e w'' => e = .returned (.int .i64 i) ∧ w' = w'') := fun w' => (sidx_raw w' _ _).mono (fun e w'' h => ⟨by rw [h.1, ← HI.out]; rfl, h.2.symm⟩)
  have HS : Hid (decide (0 ≤ i) = isS c) := by show _ = _; rw [← HI.out]; exact sign_idx c hc
  rw [← HS.out]
  clear HS HI
  go_enter Tryd.func14, Tryd.ntmps14
  go_wp2_with (go_at_call 35; refine (HD.out _).mono ?_; rintro e w' ⟨rfl, rfl⟩)
  go_ret
  exact ⟨rfl, rfl⟩
theorem gWords : Tryd.prog.globalNamed "recoup/token.words" = some 0 := by kernel_rfl
theorem Wt9.cell {w : World} (h : Wt9 w) (i : Nat) (hi : i < 17) : w.cell? ⟨0, i, none⟩ = some (.string (wds.getD i default)) := by
  rw [World.var?_cell gWords h i]
  have : i < wds.length := hi
  simp [this]
set_option maxRecDepth 20000 in
set_option maxHeartbeats 400000 in
theorem tword_any (w : World) (x : ByteArray) (HT : Hid (Wt9 w)) : Calls Tryd.prog 36 #[.string x] w fun e w' => e = .returned (.bool (isW x)) ∧ w = w' := by
  go_enter Tryd.func36, Tryd.ntmps36
  go_wp2
  go_loop [4] (fun vi => ∃ i : Nat, i ≤ 17 ∧ vi = .int .i64 (i : Int) ∧ Hid (∀ j, j < i → wds.getD j default ≠ x)) (fun vi => 17 - (intOf vi).toNat)
  case atStart => exact ⟨0, by omega, rfl, fun j hj => by omega⟩
  case round =>
    obtain ⟨i, hi, rfl, HN⟩ := hrel
    by_cases hlt : i < 17
    · have hc := HT.out.cell i hlt
      obtain ⟨y, HY⟩ : ∃ y, Hid (wds.getD i default = y) := ⟨_, rfl⟩
      rw [HY.out] at hc
      have p0 : (0 : Int) ≤ (i : Int) := by omega
      have p1 : (i : Int) < 17 := by omega
      by_cases hy : y = x
      · subst hy
        have HS9 : Hid (isW y = true) := isW_at hlt HY.out
        go_wp2
        go_ret
        exact ⟨by rw [HS9.out]; rfl, rfl⟩
      · have hy2 := tl_ne hy
        go_wp2
        refine ⟨⟨i + 1, by omega, by go_num, fun j hj => ?_⟩, by simp [intOf]; omega⟩
        by_cases e : j = i
        · rw [e, HY.out]; exact hy
        · exact HN.out j (by omega)
    · have HS9 : Hid (isW x = false) := isW_not (fun j hj => HN.out j (by omega))
      go_wp2
      go_ret
      exact ⟨by rw [HS9.out]; rfl, rfl⟩
end Go.Proofs.YtipjejkjoiifdabDoor
