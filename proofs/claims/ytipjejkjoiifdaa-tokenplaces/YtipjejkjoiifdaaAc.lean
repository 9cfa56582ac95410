/-
  Contracts of the token's reference: Where, Fault, end, number.
-/
import Derived.Test.YtipjejkjoiifdaaAb
namespace Go.Proofs.Ytipjejkjoiifdaa
open Go.RowKit
set_option maxRecDepth 20000 in
set_option maxHeartbeats 1000000 in
theorem rwhere_any (w : World) (s : ByteArray) (at_ : Int) (m : Nat) (hs : s.size ≤ 140737488351232) (h1 : -9223372036854775808 ≤ at_) (h2 : at_ ≤ 9223372036854775807) (HM : Hid (m = min at_.toNat s.size)) :
    Calls Try.prog 5 #[.string s, .int .i64 at_] w fun e w' => e = .returned (.tuple #[.int .i64 (lnn s m : Nat), .int .i64 (cln s m : Nat)]) ∧ w = w' := by
  go_enter Try.func5, Try.ntmps5
  go_wp2
  go_loop [6, 7, 8] (fun vl vc vi => ∃ k a b : Nat, k ≤ m ∧ vi = .int .i64 (k : Int) ∧ vl = .int .i64 (a : Int) ∧ vc = .int .i64 (b : Int) ∧ Hid (lnn s k = a) ∧ Hid (cln s k = b)) (fun _ _ vi => m - (intOf vi).toNat)
  case atStart => exact ⟨0, 1, 1, by omega, rfl, rfl, rfl, rfl, rfl⟩
  case round =>
    obtain ⟨k, a, b, hk, rfl, rfl, rfl, HA, HB⟩ := hrel
    have ha : 1 ≤ a ∧ a ≤ k + 1 := by rw [← HA.out]; exact lnn_le s k
    have hb : 1 ≤ b ∧ b ≤ k + 1 := by rw [← HB.out]; exact cln_le s k
    obtain ⟨ha1, ha2⟩ := ha
    obtain ⟨hb1, hb2⟩ := hb
    by_cases hlt : k < m
    · have hks : k < s.size := by have := HM.out; omega
      have hka : (k : Int) < at_ := by have := HM.out; omega
      obtain ⟨c, HC⟩ : ∃ c, Hid (tb s k = c) := ⟨_, rfl⟩
      have hc : s[k].toNat = c := by rw [← HC.out]; exact tb_at hks
      have q1 : decide ((k : Int) < at_) = true := decide_eq_true hka
      by_cases h10 : c = 10
      · subst h10
        have HA2 : Hid (lnn s (k + 1) = a + 1) := by show _ = _; rw [lnn_succ, HC.out, if_pos rfl, HA.out]
        have HB2 : Hid (cln s (k + 1) = 1) := by show _ = _; rw [cln_succ, HC.out, if_pos rfl]
        go_wp2
        exact ⟨⟨k + 1, a + 1, 1, by omega, by go_num, by go_num, by go_num, HA2, HB2⟩, by simp [intOf]; omega⟩
      · have q2 : ((c : Int) == 10) = false := by simp; omega
        have HA2 : Hid (lnn s (k + 1) = a) := by show _ = _; rw [lnn_succ, HC.out, if_neg h10, HA.out]
        have HB2 : Hid (cln s (k + 1) = b + 1) := by show _ = _; rw [cln_succ, HC.out, if_neg h10, HB.out]
        go_wp2
        exact ⟨⟨k + 1, a, b + 1, by omega, by go_num, by go_num, by go_num, HA2, HB2⟩, by simp [intOf]; omega⟩
    · obtain rfl : k = m := by omega
      by_cases hks : k < s.size
      · have hka : ¬ (k : Int) < at_ := by have := HM.out; omega
        have q1 : decide ((k : Int) < at_) = false := decide_eq_false hka
        go_wp2
        go_ret2
        exact ⟨by rw [HA.out, HB.out]; rfl, rfl⟩
      · go_wp2
        go_ret2
        exact ⟨by rw [HA.out, HB.out]; rfl, rfl⟩
theorem tb_extract {s : ByteArray} {p e j : Nat} (hj : p + j < e) (he : e ≤ s.size) : tb (s.extract p e) j = tb s (p + j) := by
  have h1 : j < (s.extract p e).size := by simp; omega
  have h2 : p + j < s.size := by omega
  rw [← tb_at h1, ← tb_at h2]
  congr 1
  exact ByteArray.getElem_extract h1
theorem size_extract {s : ByteArray} {p e : Nat} (he : e ≤ s.size) : (s.extract p e).size = e - p := by simp; omega
theorem nvl_extract {s : ByteArray} {p e : Nat} (he : e ≤ s.size) : ∀ k, p + k ≤ e → nvl (s.extract p e) 0 k = nvl s p k := by
  intro k
  induction k with
  | zero => intro _; rfl
  | succ k ih =>
    intro h
    show 10 * nvl _ 0 k + (tb _ (0 + k) - 48) = 10 * nvl s p k + (tb s (p + k) - 48)
    rw [ih (by omega), Nat.zero_add, tb_extract (by omega) he]
theorem NumOk.extract {s : ByteArray} {p e : Nat} (he : e ≤ s.size) (hp : p < e) : NumOk (s.extract p e) 0 (e - p) ↔ NumOk s p e := by
  unfold NumOk
  rw [nvl_extract he _ (by omega), tb_extract (j := 0) (by omega) he]
  simp
theorem nvl_succ (s : ByteArray) (p k : Nat) : nvl s p (k + 1) = 10 * nvl s p k + (tb s (p + k) - 48) := rfl
end Go.Proofs.Ytipjejkjoiifdaa
