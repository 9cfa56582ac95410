/-
  Stage 13: the reference's Like over like lists; the tables of beginnings.
-/
import Derived.Test.YtemhodenkgngmaaDoorQkkwn00
import Derived.Test.YtemhodenkgngmaaDoorQkkwn42
set_option maxRecDepth 100000
set_option maxHeartbeats 16000000
namespace Go.Proofs.YtemhodenkgngmaaDoor
open Go.RowKit Go.Shelf Go.Maps
theorem wfl_code {E : ByteArray → Option Nat} : ∀ {U : List Us}, wfl E U ≠ (0, 0, 0) → (wfl E U).1 ≠ 0 := by
 intro U
 induction U with
 | nil => intro h; exact absurd rfl h
 | cons u r ih =>
  show (match E u.nm with | none => ((121 : Int), u.ln, u.cl) | some k => if k = u.k then wfl E r else (131, u.ln, u.cl)) ≠ _ → _
  intro h
  show (match E u.nm with | none => ((121 : Int), u.ln, u.cl) | some k => if k = u.k then wfl E r else (131, u.ln, u.cl)).1 ≠ 0
  cases hE : E u.nm with
  | none => exact (by decide : (121 : Int) ≠ 0)
  | some k =>
   rw [hE] at h
   dsimp only at h ⊢
   by_cases hk : k = u.k
   ·rw [if_pos hk] at h ⊢; exact ih h
   ·rw [if_neg hk]; exact (by decide : (131 : Int) ≠ 0)
theorem stp_bad {i : Nat} {I : It} {T : List Sy} {c ln cl : Int} (h : stp i I T = .error (c, ln, cl)) : c ≠ 0 := by
 unfold stp at h
 split at h
 ·rename_i g; cases h; exact wfl_code g
 ·split at h
  ·rename_i g; cases h; omega
  ·split at h
   ·split at h
    ·cases h; decide
    ·cases h
   ·cases h
theorem stp_ok {i : Nat} {I : It} {T U : List Sy} (h : stp i I T = .ok U) : ∃ R, U = T ++ R := by
 unfold stp at h
 split at h
 ·cases h
 ·split at h
  ·cases h
  ·split at h
   ·split at h
    ·cases h
    ·cases h; exact ⟨_, rfl⟩
   ·cases h; exact ⟨[], by simp⟩
theorem qbd (F : Nat → It) (n : Nat) : tbl F (n + 1) = (match tbl F n with | .error (c, ln, cl) => .error (c, ln, cl) | .ok T => stp n (F n) T) := rfl
theorem tbl_code {F : Nat → It} : ∀ {n : Nat} {c ln cl : Int}, tbl F n = .error (c, ln, cl) → c ≠ 0 := by
 intro n
 induction n with
 | zero => intro c ln cl h; cases h
 | succ n ih =>
  intro c ln cl h
  rw [qbd] at h
  cases hn : tbl F n with
  | error qq =>
   obtain ⟨c', l1, l2⟩ := qq
   rw [hn] at h; cases h; exact ih hn
  | ok T => rw [hn] at h; exact stp_bad h
theorem tbl_len {F : Nat → It} : ∀ {n : Nat} {T : List Sy}, tbl F n = .ok T → T.length ≤ n := by
 intro n
 induction n with
 | zero => intro T h; cases h; exact Nat.le_refl _
 | succ n ih =>
  intro T h
  rw [qbd] at h
  cases hn : tbl F n with
  | error qq =>
   obtain ⟨c', l1, l2⟩ := qq
   rw [hn] at h; cases h
  | ok V =>
   rw [hn] at h
   have := ih hn
   dsimp only at h
   unfold stp at h
   split at h
   ·cases h
   ·split at h
    ·cases h
    ·split at h
     ·split at h
      ·cases h
      ·cases h; rw [List.length_append]; show _ + 1 ≤ _; omega
     ·cases h; omega
theorem qf2 {F : Nat → It} {k n : Nat} (h : mayD F n = true) (hk : k ≤ n) : mayD F k = true := by
 unfold mayD at h ⊢
 simp only [Bool.and_eq_true, decide_eq_true_eq] at h ⊢
 exact ⟨by omega, qd6 (by omega) h.2 k hk⟩
end Go.Proofs.YtemhodenkgngmaaDoor
