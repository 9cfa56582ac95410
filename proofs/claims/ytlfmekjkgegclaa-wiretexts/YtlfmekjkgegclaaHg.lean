/-
  Contracts of the wire's reference: ReadText.
-/
import Derived.Test.YtlfmekjkgegclaaHf
namespace Go.Proofs.Ytlfmekjkgegclaa
open Go.RowKit
/-- A piece of a list: its address (a piece without room keeps the list's). -/
def pca (b o p c : Nat) : Option Addr := if c = p then some ⟨b, o, none⟩ else some ⟨b, o + p, none⟩
theorem sl_part {w : World} {b o n c p m : Nat} {f : Nat → Nat} (h : Sl w (some ⟨b, o, none⟩) n f) (hf : p + m ≤ n) (hnc : n ≤ c) : Sl w (pca b o p c) m (fun j => f (p + j)) := by
  refine ⟨fun i hi => h.1 _ (by omega), fun i hi => ?_⟩
  unfold pca
  rw [if_neg (by omega)]
  obtain ⟨b', o', e, hc⟩ := h.2 (p + i) (by omega)
  cases e
  exact ⟨b, o + p, rfl, by rw [Nat.add_assoc]; exact hc⟩
set_option maxRecDepth 20000 in
set_option maxHeartbeats 1000000 in
theorem rrt8_ok (w : World) (a : Option Addr) (n c v s most : Nat) (f : Nat → Nat) (ha : Sl w a n f) (hnc : n ≤ c) (hn : n ≤ 140737488351232) (hm : most < 9223372036854775808) (h : RnOk f n v s) (hv : v ≤ most) (hfit : v + s ≤ n) :
    Calls Try.prog 20 #[.slice a n c, .int .i64 (most : Int)] w fun e w' => ∃ x, e = .returned (.tuple #[x, .int .i64 ((s + v : Nat) : Int), .int .i64 0]) ∧ Jo w' w.heap.size 5 .u8 x v (fun j => f (s + j)) ∧ Below w.heap.size w w' := by
  have hs1 := h.s1
  have hs9 := h.s9
  obtain ⟨b, o, rfl⟩ : ∃ b o, a = some ⟨b, o, none⟩ := by
    obtain ⟨b, o, e, _⟩ := ha.2 0 (by omega)
    exact ⟨b, o, e⟩
  have HR : Hid (∀ w' : World, Below w.heap.size w w' → Calls Try.prog 15 #[.slice (some ⟨b, o, none⟩) n c] w' fun e w'' => e = .returned (.tuple #[.int .i64 (v : Int), .int .i64 (s : Int), .int .i64 0]) ∧ w' = w'') := fun w' hb => rread8_ok w' _ n c v s 0 f (ha.later hb) hn (.inl ⟨rfl, h⟩)
  obtain ⟨t, HT⟩ : ∃ t, Hid (s + v = t) := ⟨_, rfl⟩
  have et : (s : Int) + (v : Int) = (t : Int) := by have := HT.out; omega
  have HTS : Hid (t - s = v) := by have := HT.out; show _ = _; omega
  have HC : Hid (∀ w' : World, Below w.heap.size w w' → Calls Try.prog 28 #[.slice (pca b o s c) (t - s) (c - s)] w' fun e w'' => ∃ x, e = .returned x ∧ Jo w'' w'.heap.size 5 .u8 x v (fun j => f (s + j)) ∧ Below w'.heap.size w' w'') := fun w' hb => by
    rw [HTS.out]
    exact rcopy_any w' _ v _ _ (sl_part (ha.later hb) (by omega) hnc) (by omega) (fun e => by unfold pca at e; split at e <;> cases e)
  rw [HT.out]
  have q1 : (s : Int) ≤ (t : Int) := by omega
  have q2 : (t : Int) ≤ (c : Int) := by omega
  have q3 : decide ((n : Int) - (s : Int) < (v : Int)) = false := decide_eq_false (by omega)
  have q4 : decide ((most : Int) < 0) = false := decide_eq_false (by omega)
  clear ha h
  by_cases hcs : c = s
  · subst hcs
    have HC2 : Hid (∀ w' : World, Below w.heap.size w w' → Calls Try.prog 28 #[.slice (some ⟨b, o, none⟩) (t - c) 0] w' fun e w'' => ∃ x, e = .returned x ∧ Jo w'' w'.heap.size 5 .u8 x v (fun j => f (c + j)) ∧ Below w'.heap.size w' w'') := fun w' hb => by
      have := HC.out w' hb
      unfold pca at this
      rw [if_pos rfl, Nat.sub_self] at this
      exact this
    clear HC
    go_enter Try.func20, Try.ntmps20
    go_wp2_with (first
      | (go_at_call 15; refine (HR.out _ (Below.refl _ _)).mono ?_; rintro e w' ⟨rfl, rfl⟩)
      | (go_at_call 28; refine (HC2.out _ (Below.refl _ _)).mono ?_; rintro e w2 ⟨x, rfl, ho, hb⟩; have HO : Hid (Jo w2 w.heap.size 5 .u8 x v (fun j => f (c + j))) := ho; have HB : Hid (Below w.heap.size w w2) := hb; clear ho hb))
    go_ret3
    exact ⟨x, rfl, HO.out, HB.out⟩
  · have HC2 : Hid (∀ w' : World, Below w.heap.size w w' → Calls Try.prog 28 #[.slice (some ⟨b, o + s, none⟩) (t - s) (c - s)] w' fun e w'' => ∃ x, e = .returned x ∧ Jo w'' w'.heap.size 5 .u8 x v (fun j => f (s + j)) ∧ Below w'.heap.size w' w'') := fun w' hb => by
      have := HC.out w' hb
      unfold pca at this
      rw [if_neg hcs] at this
      exact this
    clear HC
    go_enter Try.func20, Try.ntmps20
    go_wp2_with (first
      | (go_at_call 15; refine (HR.out _ (Below.refl _ _)).mono ?_; rintro e w' ⟨rfl, rfl⟩)
      | (go_at_call 28; refine (HC2.out _ (Below.refl _ _)).mono ?_; rintro e w2 ⟨x, rfl, ho, hb⟩; have HO : Hid (Jo w2 w.heap.size 5 .u8 x v (fun j => f (s + j))) := ho; have HB : Hid (Below w.heap.size w w2) := hb; clear ho hb))
    go_ret3
    exact ⟨x, rfl, HO.out, HB.out⟩
/-- Which error ReadText tells, where it tells one: most is below 0, the length's error, a length above most, too few bytes. -/
def RtE (f : Nat → Nat) (n : Nat) (most : Int) (E : Nat) : Prop := (most < 0 ∧ E = 2) ∨ (0 ≤ most ∧ ((∃ v s, RN f n v s E ∧ E ≠ 0) ∨ (∃ v s, RnOk f n v s ∧ (most < (v : Int) ∧ E = 4 ∨ (v : Int) ≤ most ∧ n < v + s ∧ E = 7))))
set_option maxRecDepth 20000 in
set_option maxHeartbeats 1000000 in
theorem rrt8_bad (w : World) (a : Option Addr) (n c E : Nat) (most : Int) (f : Nat → Nat) (ha : Sl w a n f) (hn : n ≤ 140737488351232) (hm : most < 9223372036854775808) (h : RtE f n most E) :
    Calls Try.prog 20 #[.slice a n c, .int .i64 most] w fun e w' => e = .returned (.tuple #[.slice none 0 0, .int .i64 0, .int .i64 (E : Int)]) ∧ w = w' := by
  have HA : Hid (Sl w a n f) := ha
  clear ha
  rcases h with ⟨hm0, rfl⟩ | ⟨hm0, ⟨v, s, hr, hE⟩ | ⟨v, s, hr, h⟩⟩
  · go_enter Try.func20, Try.ntmps20
    go_wp2
    go_ret3
    exact ⟨rfl, rfl⟩
  · have HR : Hid (Calls Try.prog 15 #[.slice a n c] w fun e w'' => e = .returned (.tuple #[.int .i64 (v : Int), .int .i64 (s : Int), .int .i64 (E : Int)]) ∧ w = w'') := rread8_ok w a n c v s E f HA.out hn hr
    have hE0 : ((E : Int) == 0) = false := by simp; omega
    clear hr
    go_enter Try.func20, Try.ntmps20
    go_wp2_with (go_at_call 15; refine HR.out.mono ?_; rintro e w' ⟨rfl, rfl⟩)
    go_ret3
    exact ⟨rfl, rfl⟩
  · have HR : Hid (Calls Try.prog 15 #[.slice a n c] w fun e w'' => e = .returned (.tuple #[.int .i64 (v : Int), .int .i64 (s : Int), .int .i64 0]) ∧ w = w'') := rread8_ok w a n c v s 0 f HA.out hn (.inl ⟨rfl, hr⟩)
    have hsn := hr.fits
    have q4 : decide (most < 0) = false := decide_eq_false (by omega)
    have hv63 : v < 9223372036854775808 := by
      have h1 := v7_lt f s
      have h2 : 128 ^ s ≤ 128 ^ 9 := Nat.pow_le_pow_right (by decide) hr.s9
      have h3 : (128 : Nat) ^ 9 = 9223372036854775808 := by decide
      rw [hr.val]
      omega
    have hs9 := hr.s9
    clear hr
    rcases h with ⟨h1, rfl⟩ | ⟨h1, h2, rfl⟩
    · have q3 : decide (most < (v : Int)) = true := decide_eq_true h1
      go_enter Try.func20, Try.ntmps20
      go_wp2_with (go_at_call 15; refine HR.out.mono ?_; rintro e w' ⟨rfl, rfl⟩)
      go_ret3
      exact ⟨rfl, rfl⟩
    · have q3 : decide (most < (v : Int)) = false := decide_eq_false (by omega)
      have q5 : decide ((n : Int) - (s : Int) < (v : Int)) = true := decide_eq_true (by omega)
      go_enter Try.func20, Try.ntmps20
      go_wp2_with (go_at_call 15; refine HR.out.mono ?_; rintro e w' ⟨rfl, rfl⟩)
      go_ret3
      exact ⟨rfl, rfl⟩
end Go.Proofs.Ytlfmekjkgegclaa
