/-
  The program's answers and the reference's are one.
-/
import Derived.Test.YtlfmekjkgegclabHn
namespace Go.Proofs.Ytlfmekjkgegclab
open Go.RowKit
theorem num_pair (n : Int) (h : -9223372036854775808 ≤ n ∧ n ≤ 9223372036854775807) : ∃ (L : Nat) (g : Nat → Nat) (E : Int), (∀ w : World, Calls Try.prog 9 #[.int .i64 n] w fun e w' => LsP w w' e L g E) ∧ (∀ w : World, Calls Try.prog 33 #[.int .i64 n] w fun e w' => LsP w w' e L g E) := by
  by_cases hn : n < 0
  · exact ⟨0, _, 2, fun w => wnum_bad w n hn, fun w => (rnum8_bad w n hn).mono (fun e w' h => ⟨none, 0, h.1, bt_zero _ _, by rw [← h.2]; exact Below.refl _ _⟩)⟩
  · obtain ⟨m, rfl⟩ := Int.eq_ofNat_of_zero_le (show 0 ≤ n by omega)
    obtain ⟨L, hL⟩ := nf_ex m
    exact ⟨L, nby m, 0, fun w => wnum_ok w m L (by omega) hL, fun w => (rnum8_ok w m L (by omega) hL).mono (fun e w' h => by
      obtain ⟨v, he, ho, hb⟩ := h
      obtain ⟨s, d, rfl, hbt⟩ := ho.bt (fun i _ => nby_lt m i)
      exact ⟨s, d, he, hbt, hb⟩)⟩
theorem text_pair {w : World} {a : Option Addr} {n c : Nat} {f : Nat → Nat} (ha : Bt w a n c f) : ∃ (L : Nat) (g : Nat → Nat) (E : Int), (∀ w' : World, Below w.heap.size w w' → Calls Try.prog 18 #[.slice a n c] w' fun e w'' => LsP w' w'' e L g E) ∧ (∀ w' : World, Below w.heap.size w w' → Calls Try.prog 29 #[.slice a n c] w' fun e w'' => LsP w' w'' e L g E) := by
  by_cases hn : n ≤ 4194304
  · obtain ⟨L, hL⟩ := nf_ex n
    exact ⟨L + n, txf f n L, 0, fun w' hb => wtext_ok w' a n c L f (ha.later hb) hn hL, fun w' hb => (rtext8_ok w' a n c L f (ha.sl.later hb) ha.nil hn hL).mono (fun e w'' h => by
      obtain ⟨v, he, ho, hb⟩ := h
      obtain ⟨s, d, rfl, hbt⟩ := ho.bt (txf_lt ha.sl.1)
      exact ⟨s, d, he, hbt, hb⟩)⟩
  · exact ⟨0, _, 4, fun w' _ => wtext_limit w' a n c (by omega), fun w' _ => (rtext8_limit w' a n c (by omega)).mono (fun e w'' h => ⟨none, 0, h.1, bt_zero _ _, by rw [← h.2]; exact Below.refl _ _⟩)⟩
theorem rt_ex (f : Nat → Nat) (n : Nat) (most : Int) (h0 : 0 ≤ most) : (∃ v s, RnOk f n v s ∧ (v : Int) ≤ most ∧ v + s ≤ n) ∨ ∃ E, RtE f n most E := by
  obtain ⟨v, s, E, h⟩ := rn_ex f n
  by_cases hE : E = 0
  · subst hE
    have hok : RnOk f n v s := by
      rcases h with ⟨_, h⟩ | ⟨e, _⟩ | ⟨e, _⟩
      · exact h
      · cases e
      · cases e
    by_cases h1 : (v : Int) ≤ most
    · by_cases h2 : v + s ≤ n
      · exact .inl ⟨v, s, hok, h1, h2⟩
      · exact .inr ⟨7, .inr ⟨h0, .inr ⟨v, s, hok, .inr ⟨h1, by omega, rfl⟩⟩⟩⟩
    · exact .inr ⟨4, .inr ⟨h0, .inr ⟨v, s, hok, .inl ⟨by omega, rfl⟩⟩⟩⟩
  · exact .inr ⟨E, .inr ⟨h0, .inl ⟨v, s, h, hE⟩⟩⟩
theorem write_pair {w : World} {a : Option Addr} {tag n c : Nat} {f : Nat → Nat} (ht : tag < 256) (ha : Bt w a n c f) : ∃ (L : Nat) (g : Nat → Nat) (E : Int), (∀ w' : World, Below w.heap.size w w' → Calls Try.prog 12 #[.agg #[.int .u8 (tag : Int), .slice a n c]] w' fun e w'' => LsP w' w'' e L g E) ∧ (∀ w' : World, Below w.heap.size w w' → Calls Try.prog 21 #[.agg #[.int .u8 (tag : Int), .slice a n c]] w' fun e w'' => LsP w' w'' e L g E) := by
  by_cases hn : n ≤ 4194304
  · obtain ⟨L, hL⟩ := nf_ex n
    exact ⟨_, chf tag f n L, 0, fun w' hb => wwrite_ok w' tag n c L a f ht (ha.later hb) hn hL, fun w' hb => (rwrite8_ok w' tag n c L a f ht (ha.sl.later hb) ha.nil hn hL).mono (fun e w'' h => by
      obtain ⟨v, he, ho, hb⟩ := h
      obtain ⟨s, d, rfl, hbt⟩ := ho.bt (chf_lt ht ha.sl.1)
      exact ⟨s, d, he, hbt, hb⟩)⟩
  · exact ⟨0, _, 4, fun w' _ => wwrite_limit w' tag n c a (by omega), fun w' _ => (rwrite8_limit w' tag n c a (by omega)).mono (fun e w'' h => ⟨none, 0, h.1, bt_zero _ _, h.2⟩)⟩
theorem sum_pair {w : World} {a : Option Addr} {n c : Nat} {f : Nat → Nat} (ha : Bt w a n c f) (hn : n ≤ 140737488351232) : ∃ S : Nat, (∀ w' : World, Below w.heap.size w w' → Calls Try.prog 16 #[.slice a n c] w' fun e w'' => e = .returned (.int .u32 (S : Int)) ∧ Below w'.heap.size w' w'') ∧ (∀ w' : World, Below w.heap.size w w' → Calls Try.prog 31 #[.slice a n c] w' fun e w'' => e = .returned (.int .u32 (S : Int)) ∧ Below w'.heap.size w' w'') :=
  ⟨cs f n, fun w' hb => wsum w' a n c f (ha.later hb) hn, fun w' hb => (rsum8_ok w' a n c f (ha.sl.later hb) hn).mono (fun e w'' h => ⟨h.1, by rw [← h.2]; exact Below.refl _ _⟩)⟩
/-- Two chunks that are alike. -/
theorem like8 (w : World) (x n c d : Nat) (a b : Option Addr) (f : Nat → Nat) (ha : Bt w a n c f) (hb : Bt w b n d f) : Calls Try.prog 15 #[.agg #[.int .u8 (x : Int), .slice a n c], .agg #[.int .u8 (x : Int), .slice b n d]] w fun e w' => e = .returned (.bool true) ∧ Below w.heap.size w w' := by
  refine (rlike8 w x x n n c d a b f f ha.sl hb.sl).mono (fun e w' h => ?_)
  rw [show likeC x x n n f f = true from by unfold likeC sameB; simp] at h
  exact h
end Go.Proofs.Ytlfmekjkgegclab
