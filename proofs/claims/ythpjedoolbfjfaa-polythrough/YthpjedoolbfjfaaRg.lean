/-
  Contracts of the polynomials' reference: Roots, FromRoots.
-/
import Derived.Test.YthpjedoolbfjfaaRf
namespace Go.Proofs.Ythpjedoolbfjfaa
open Go.RowKit
/-- The cells of a list of bytes. -/
def bsl (l : List Nat) : List Value := l.map fun x : Nat => Value.int .u8 (x : Int)
theorem row_bsl (l : List Nat) : (row l.length (fun i => l.getD i 0)).toList = bsl l := by
  apply List.ext_getElem
  · simp [row, bsl]
  · intro i h1 h2
    simp [bsl] at h2
    simp [row, bsl, List.getD, h2]
theorem lk_list {w : World} {base : Nat} {v : Value} {l : List Nat} (h : w.ownsRow base 5 1 v l.length (bsl l)) (hl : ∀ x ∈ l, x < 256) (hn : l.length ≤ 140737488351232) : ∃ a c, v = .slice a l.length c ∧ Lk w a l.length c (fun i => l.getD i 0) ∧ From base a := by
  rw [← row_bsl] at h
  refine own_lk h (fun i hi => ?_) hn
  rw [show l.getD i 0 = l[i] by simp [List.getD, hi]]
  exact hl _ (List.getElem_mem hi)
/-- The roots below k, rising. -/
def rootsTo (f : Nat → Nat) (n k : Nat) : List Nat := (List.range k).filter fun x => decide (ev f n x = 0)
theorem rootsTo_succ (f : Nat → Nat) (n k : Nat) : rootsTo f n (k + 1) = rootsTo f n k ++ if ev f n k = 0 then [k] else [] := by
  unfold rootsTo
  rw [List.range_succ, List.filter_append]
  by_cases h : ev f n k = 0 <;> simp [h]
theorem rootsTo_len (f : Nat → Nat) (n k : Nat) : (rootsTo f n k).length ≤ k := by
  unfold rootsTo
  exact Nat.le_trans (List.length_filter_le _ _) (by simp)
theorem rootsTo_lt (f : Nat → Nat) (n k : Nat) : ∀ x ∈ rootsTo f n k, x < k := by
  intro x hx
  unfold rootsTo at hx
  simpa using (List.mem_filter.mp hx).1
set_option maxRecDepth 20000 in
set_option maxHeartbeats 1000000 in
theorem rroots_any (w : World) (a : Option Addr) (n c t : Nat) (f : Nat → Nat) (ha : Lk w a n c f) (HT : Hid (tlen f n = t)) (h0 : t ≠ 0) :
    Calls Try.prog 26 #[.slice a n c] w fun e w' => ∃ s k, e = .returned (.slice s (rootsTo f n 256).length k) ∧ Lk w' s (rootsTo f n 256).length k (fun i => (rootsTo f n 256).getD i 0) ∧ Below w.heap.size w w' ∧ From w.heap.size s := by
  obtain ⟨i0, hi, hz0, hz1, hz2⟩ := info_parts info8
  have t0 : ((t : Int) == 0) = false := by simpa using h0
  obtain ⟨LL, HLL⟩ : ∃ L, Hid (rootsTo f n 256 = L) := ⟨_, rfl⟩
  rw [HLL.out]
  have HV : Hid (∀ i, i < n → f i < 256) := ha.1.1
  have hn := ha.2.2.2
  go_enter Try.func26, Try.ntmps26
  go_wp2_with (go_at_call 11; refine (rtrim_at _ _ _ _ _ f ha HT).mono ?_; rintro e w1 ⟨s1, k1, rfl, hs1, hb1, hf1⟩; replace ha := ha.later hb1)
  have HA : Hid (Lk w1 a n c f) := ha
  have HB1 : Hid (Below w.heap.size w w1) := hb1
  clear ha hb1 hs1 hf1
  go_loopw [3, 4] (fun v i wr => ∃ k : Nat, k ≤ 256 ∧ i = .int .i64 (k : Int) ∧ wr.ownsRow w1.heap.size 5 1 v (rootsTo f n k).length (bsl (rootsTo f n k)) ∧ Below w1.heap.size w1 wr) (fun _ i _ => 256 - (intOf i).toNat)
  case atStart => exact ⟨0, by omega, rfl, by simpa [rootsTo, bsl] using World.ownsRow_nil _ _ _ _, Below.refl _ _⟩
  case round =>
    obtain ⟨k, hk, rfl, hown, hbr⟩ := hrel
    obtain ⟨l, HL⟩ : ∃ l, Hid (rootsTo f n k = l) := ⟨_, rfl⟩
    rw [HL.out] at hown
    have HO : Hid (wr.ownsRow w1.heap.size 5 1 u3 l.length (bsl l)) := hown
    have HB : Hid (Below w1.heap.size w1 wr) := hbr
    by_cases hlt : k < 256
    · have HS : Hid (Sl wr a n f) := HA.out.1.later hbr
      obtain ⟨v, HVv⟩ : ∃ v, Hid (ev f n k = v) := ⟨_, rfl⟩
      have HEv : Hid (∀ w, Sl w a n f → Calls Try.prog 14 #[.slice a n c, .int .u8 (k : Int)] w fun e w' => e = .returned (.int .u8 (v : Int)) ∧ w = w') := by
        rw [← HVv.out]; exact fun w hs => (reval_any w a n c k f hs hn hlt).mono fun _ _ h => ⟨h.1, h.2.symm⟩
      have hsz := hbr.size
      have hll : l.length ≤ k := by rw [← HL.out]; exact rootsTo_len f n k
      have hml : l.length + 1 ≤ maxLen := by unfold maxLen; omega
      clear hown hbr
      by_cases hv : v = 0
      · have HN : Hid (rootsTo f n (k + 1) = l ++ [k]) := by show _ = _; rw [rootsTo_succ, HL.out, HVv.out, if_pos hv]
        subst hv
        go_wp2_with (first
          | (go_at_call 14; refine (HEv.out _ HS.out).mono ?_; rintro e w' ⟨rfl, rfl⟩)
          | (at_builtin; refine wpList_append_own _ rfl _ _ 22 rfl w1.heap.size 5 i0 (.int .u8 0) 1 1 Try.underlying22 hi hz0 hz1 hz2 rfl (by decide) _ l.length _ rfl (HO.out.alloc _) ⟨wr.heap.size, 0, none⟩ 1 1 [.int .u8 (k : Int)] rfl rfl (one_new _ _ _) (one_one _) hml (by omega) (by simp; omega) ?_; intro v' w3 hown' hgrow' _; have HO3 : Hid (w3.ownsRow w1.heap.size 5 1 v' (l.length + 1) (bsl l ++ [.int .u8 (k : Int)])) := hown'; have HB3 : Hid (Below w1.heap.size w1 w3) := grow_step HB.out HO.out hgrow' rfl; clear hown' hgrow'))
        exact ⟨⟨k + 1, by omega, by go_num, by rw [HN.out]; simpa [bsl] using HO3.out, HB3.out⟩, by simp [intOf]; omega⟩
      · have HN : Hid (rootsTo f n (k + 1) = l) := by show _ = _; rw [rootsTo_succ, HL.out, HVv.out, if_neg hv, List.append_nil]
        have tv : ((v : Int) == 0) = false := by simpa using hv
        clear hv
        go_wp2_with (go_at_call 14; refine (HEv.out _ HS.out).mono ?_; rintro e w' ⟨rfl, rfl⟩)
        exact ⟨⟨k + 1, by omega, by go_num, by rw [HN.out]; exact HO.out, HB.out⟩, by simp [intOf]; omega⟩
    · obtain rfl : k = 256 := by omega
      have hlen : l.length ≤ 256 := by rw [← HL.out]; exact rootsTo_len f n 256
      have hel : ∀ x ∈ l, x < 256 := by rw [← HL.out]; exact rootsTo_lt f n 256
      obtain ⟨s, ks, e3, hs, hfr⟩ := lk_list hown hel (by omega)
      subst e3
      obtain rfl : l = LL := HL.out.symm.trans HLL.out
      clear hown hbr
      go_wp2
      go_ret
      exact ⟨s, ks, rfl, hs, two_below HB1.out HB.out, fun x hx => by have := hfr x hx; have := HB1.out.size; omega⟩
set_option maxHeartbeats 400000 in
theorem rroots_zero (w : World) (a : Option Addr) (n c : Nat) (f : Nat → Nat) (ha : Lk w a n c f) (HT : Hid (tlen f n = 0)) :
    Calls Try.prog 26 #[.slice a n c] w fun e w' => e = .returned (.slice none 0 0) ∧ Below w.heap.size w w' := by
  go_enter Try.func26, Try.ntmps26
  go_wp2_with (go_at_call 11; refine (rtrim_at _ _ _ _ _ f ha HT).mono ?_; rintro e w1 ⟨s1, k1, rfl, hs1, hb1, hf1⟩)
  go_ret
  exact ⟨rfl, hb1⟩
end Go.Proofs.Ythpjedoolbfjfaa
