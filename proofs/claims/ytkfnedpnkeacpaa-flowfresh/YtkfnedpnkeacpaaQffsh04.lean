/-
  Contracts of the reference's Copy and Spoil.
-/
import Derived.Test.YtkfnedpnkeacpaaQffsh00
import Derived.Test.YtkfnedpnkeacpaaQffsh03
import Derived.Laws.AppendOwnNone
set_option maxRecDepth 100000
set_option maxHeartbeats 16000000
namespace Go.Proofs.Ytkfnedpnkeacpaa
open Go.RowKit
theorem qbz {w w1 : World} {n : Nat} {f : Nat → Nat} {ad : Addr} (ha : Sl w (some ad) n f) (hb : Below w.heap.size w w1) : ∀ j u, (row n f).toList[j]? = some u → w1.cell? (ad.add j) = some u := by
 intro j v hj
 obtain ⟨hjn, rfl⟩ := qbx n f j v hj
 obtain ⟨b', o', e', hc⟩ := (ha.later hb).2 j hjn
 cases e'
 have hplain : (⟨b', o', none⟩ : Addr).add j = ⟨b', o' + j, none⟩ := by unfold Addr.add; split <;> simp_all
 rw [hplain]
 exact hc
theorem qc0 (n : Nat) (f : Nat → Nat) : ∀ u ∈ (row n f).toList, u.oneCell' = true := by
 intro v hv
 obtain ⟨j, hj⟩ := List.getElem?_of_mem hv
 rw [(qbx n f j v hj).2]; rfl
theorem qb8 (w : World) (a : Option Addr) (n c : Nat) (f : Nat → Nat) (ha : Sl w a n f) (hn : n ≤ 140737488351232) (h0 : a = none → n = 0 ∧ c = 0) :
  Calls Try.prog 40 #[.slice a n c] w fun e w' => ∃ v, e = .returned v ∧ w'.ownsRow w.heap.size 5 1 v n (row n f).toList ∧ Below w.heap.size w w' := by
 obtain ⟨i0, hi, hz0, hz1, hz2⟩ := info_parts qcr
 have hml : 0 + n ≤ maxLen := by unfold maxLen; omega
 have HA : Hid (Sl w a n f) := ha
 obtain ⟨xs, HX⟩ : ∃ xs, Hid (xs = (row n f).toList) := ⟨_, rfl⟩
 have hlen : xs.length = n * 1 := by rw [HX.out]; simp [qa6]
 have HO0 : Hid ((w.alloc (.cells #[] 5)).ownsRow w.heap.size 5 1 (.slice (some ⟨w.heap.size, 0, none⟩) 0 0) 0 []) := World.ownsRow_lit w #[] 0 (Nat.le_refl _) (by unfold maxLen; omega) rfl
 have HB0 : Hid (Below w.heap.size w (w.alloc (.cells #[] 5))) := (Below.refl _ _).alloc (Nat.le_refl _) _
 rw [← HX.out]
 cases a with
 | none =>
  obtain ⟨rfl, rfl⟩ := h0 rfl
  have HE : Hid (xs = []) := List.eq_nil_of_length_eq_zero (by simpa using hlen)
  clear ha h0 hlen
  go_enter Try.func40, Try.ntmps40
  go_wp2_with (at_builtin; refine wpList_append_own_none rfl _ _ 22 rfl w.heap.size 5 i0 1 Try.underlying22 hi _ 0 [] rfl HO0.out rfl ?_)
  go_ret
  exact ⟨_, rfl, by rw [HE.out]; exact HO0.out, HB0.out⟩
 | some ad =>
  have HN : Hid (∀ j u, xs[j]? = some u → (w.alloc (.cells #[] 5)).cell? (ad.add j) = some u) := by rw [HX.out]; exact qbz ha HB0.out
  have H1 : Hid (∀ u ∈ xs, u.oneCell' = true) := by rw [HX.out]; exact qc0 n f
  clear ha h0
  go_enter Try.func40, Try.ntmps40
  go_wp2_with (at_builtin; refine wpList_append_own _ rfl _ _ 22 rfl w.heap.size 5 i0 (.int .u8 0) 1 1 Try.underlying22 hi hz0 hz1 hz2 rfl (by decide) _ 0 [] rfl HO0.out ad n c xs rfl hlen HN.out H1.out hml (by omega) (by simp) ?_; intro v' w3 hown' hgrow' _; have HO3 : Hid (w3.ownsRow w.heap.size 5 1 v' (0 + n) ([] ++ xs)) := hown'; have HG3 : Hid ((w.alloc (.cells #[] 5)).grownBy w3 (some w.heap.size)) := hgrow'; clear hown' hgrow')
  go_ret
  exact ⟨_, rfl, by simpa using HO3.out, HB0.out.grown HG3.out (by simp) (fun k hk => by cases hk; exact Nat.le_refl _)⟩
theorem own_cell {w : World} {base n c g k : Nat} {e : TypeId} {xs : List Value} (h : w.ownsRow base e 1 (.slice (some ⟨g, 0, none⟩) n c) n xs) (hk : k < n) : ∃ v, w.cell? ⟨g, k, none⟩ = some v := by
 have hl := h.1
 exact ⟨xs[k]'(by omega), by rw [h.cellAt k (by omega)]; simp⟩
theorem qdp {w wr : World} {row : Option Nat} {g i : Nat} {v : Value} (h : w.grownBy wr row) (hg : row = some g ∨ w.heap.size ≤ g) : w.grownBy (wr.setCell ⟨g, i, none⟩ v) row :=
 ⟨h.os, h.tape, h.output, by simpa using h.size, fun k hk hn => by
  rw [Below.heap_setCell wr ⟨g, i, none⟩ v k (by
   intro e
   rcases hg with hg | hg
   ·apply hn; rw [hg]; simpa using e
   ·have : k = g := e
    omega)]
  exact h.block k hk hn⟩
theorem qey (w : World) (t : TypeId) (m : Int) : ∀ j u, [Value.int .u8 m, .int .u8 m, .int .u8 m][j]? = some u → (w.alloc (.cells #[.int .u8 m, .int .u8 m, .int .u8 m] t)).cell? ((⟨w.heap.size, 0, none⟩ : Addr).add j) = some u := by
 intro j u hj
 match j, hj with
 | 0, hj => simp at hj; subst hj; simp [Addr.add]
 | 1, hj => simp at hj; subst hj; simp [Addr.add]
 | 2, hj => simp at hj; subst hj; simp [Addr.add]
theorem qez {w : World} {g n : Nat} {f : Nat → Nat} (h : RowAt w g 5 n f) (hn : n ≤ 140737488351232) : w.ownsRow 0 5 1 (.slice (some ⟨g, 0, none⟩) n n) n (row n f).toList :=
 ⟨by simp [qa6], .inr ⟨g, n, row n f, rfl, Nat.zero_le _, h, Nat.le_refl _, by unfold maxLen; omega, by simp [qa6], List.take_of_length_le (by simp [qa6])⟩⟩
/-- What stays behind a Spoil of another block. -/
theorem Sl.beside {w w' : World} {a : Option Addr} {n : Nat} {f : Nat → Nat} {g : Nat} (h : Sl w a n f) (hg : w.grownBy w' (some g)) (ho : 0 < n → Off g a) : Sl w' a n f := by
 by_cases hn : 0 < n
 ·exact h.kept hg (ho hn)
 ·obtain rfl : n = 0 := by omega
  exact Sl.nil _ _ _
theorem qaj {w w1 w2 : World} {g : Nat} (h : Below w.heap.size w w1) (hg : w1.grownBy w2 (some g)) (hb : w.heap.size ≤ g) : Below w.heap.size w w2 :=
 h.grown hg h.size (fun k hk => by cases hk; exact hb)
/-! Lists of the call's own. -/
theorem qdq {w : World} {B B' n : Nat} {v : Value} {xs : List Value} (h : w.ownsRow B 5 1 v n xs) (hB : B' ≤ B) : w.ownsRow B' 5 1 v n xs := by
 refine ⟨h.1, ?_⟩
 rcases h.2 with h' | ⟨g, cap, cur, e, hb, r⟩
 ·exact .inl h'
 ·exact .inr ⟨g, cap, cur, e, by omega, r⟩
end Go.Proofs.Ytkfnedpnkeacpaa
