/-
  Contracts of the polynomials' reference: Add, Mul.
-/
import Derived.Test.YthpjedoolbfjfaaRa
namespace Go.Proofs.Ythpjedoolbfjfaa
open Go.RowKit
theorem at_at (w : World) (a : Option Addr) (n c k v : Nat) (f : Nat → Nat) (h : Sl w a n f) (hv : Hid (zx f n k = v)) :
    Calls Try.prog 39 #[.slice a n c, .int .i64 (k : Int)] w fun e w' => e = .returned (.int .u8 (v : Int)) ∧ w = w' := by
  have e : zat f n (k : Int) = v := by unfold zat; rw [if_neg (by omega), Int.toNat_natCast]; exact hv.out
  rw [← e]
  exact (at_any w a n c f k h).mono fun _ _ h => ⟨h.1, h.2.symm⟩
theorem rtrim_at (w : World) (a : Option Addr) (n c t : Nat) (f : Nat → Nat) (h : Lk w a n c f) (ht : Hid (tlen f n = t)) :
    Calls Try.prog 11 #[.slice a n c] w fun e w' => ∃ s k, e = .returned (.slice s t k) ∧ Lk w' s t k f ∧ Below w.heap.size w w' ∧ From w.heap.size s := by
  rw [← ht.out]; exact rtrim_any w a n c f h
theorem long_false (w : World) (a : Option Addr) (n c : Nat) (f : Nat → Nat) (h : Lk w a n c f) (hl : Hid (tlen f n ≤ 512)) :
    Calls Try.prog 38 #[.slice a n c] w fun e w' => e = .returned (.bool false) ∧ Below w.heap.size w w' :=
  (long_any w a n c f h).mono fun _ _ H => ⟨by rw [H.1, decide_eq_false (by have := hl.out; omega)], H.2⟩
theorem long_true (w : World) (a : Option Addr) (n c : Nat) (f : Nat → Nat) (h : Lk w a n c f) (hl : Hid (512 < tlen f n)) :
    Calls Try.prog 38 #[.slice a n c] w fun e w' => e = .returned (.bool true) ∧ Below w.heap.size w w' :=
  (long_any w a n c f h).mono fun _ _ H => ⟨by rw [H.1, decide_eq_true hl.out], H.2⟩
set_option maxRecDepth 20000 in
set_option maxHeartbeats 1000000 in
theorem radd_any (w : World) (a b : Option Addr) (n m c d : Nat) (f h : Nat → Nat) (ha : Lk w a n c f) (hb : Lk w b m d h) (hf : tlen f n ≤ 512) (hh : tlen h m ≤ 512) :
    Calls Try.prog 16 #[.slice a n c, .slice b m d] w fun e w' => ∃ s k, e = .returned (.tuple #[.slice s (tlen (pa (zx f n) (zx h m)) 512) k, .int .i64 0]) ∧ Lk w' s (tlen (pa (zx f n) (zx h m)) 512) k (pa (zx f n) (zx h m)) ∧ Below w.heap.size w w' ∧ From w.heap.size s := by
  obtain ⟨i0, hi, hz0, hz1, hz2⟩ := info_parts info8
  have HF : Hid (tlen f n ≤ 512) := hf
  have HH : Hid (tlen h m ≤ 512) := hh
  have HE : Hid (El (pa (zx f n) (zx h m))) := pa_el (zx_el ha.1.1) (zx_el hb.1.1)
  have HEf : Hid (El (zx f n)) := zx_el ha.1.1
  have HEh : Hid (El (zx h m)) := zx_el hb.1.1
  obtain ⟨p, HP⟩ : ∃ p, Hid (pa (zx f n) (zx h m) = p) := ⟨_, rfl⟩
  obtain ⟨t, HT⟩ : ∃ t, Hid (tlen p 512 = t) := ⟨_, rfl⟩
  rw [HP.out, HT.out]
  have HPE : Hid (∀ i, p i < 256) := by rw [← HP.out]; exact HE.out
  clear hf hh HE
  go_enter Try.func16, Try.ntmps16
  go_wp2_with (first
    | (go_at_call 38; have _x := hb1; refine (long_false _ _ _ _ h hb HH).mono ?_; rintro e w2 ⟨rfl, hb2⟩; replace ha := ha.later hb2; replace hb := hb.later hb2; have hw := two_below hb1 hb2)
    | (go_at_call 38; refine (long_false _ _ _ _ f ha HF).mono ?_; rintro e w1 ⟨rfl, hb1⟩; replace ha := ha.later hb1; replace hb := hb.later hb1))
  have HB2 : Hid (Below w.heap.size w w2) := hw
  clear hb1 hb2 hw _x
  go_loopw [6, 7] (fun v i wr => ∃ k : Nat, k ≤ 512 ∧ i = .int .i64 (k : Int) ∧ wr.ownsRow w2.heap.size 5 1 v k (row k p).toList ∧ Below w2.heap.size w2 wr) (fun _ i _ => 512 - (intOf i).toNat)
  case atStart => exact ⟨0, by omega, rfl, by rw [row_empty]; exact World.ownsRow_nil _ _ _ _, Below.refl _ _⟩
  case round =>
    obtain ⟨k, hk, rfl, hown, hbr⟩ := hrel
    have HO : Hid (wr.ownsRow w2.heap.size 5 1 u6 k (row k p).toList) := hown
    have HB : Hid (Below w2.heap.size w2 wr) := hbr
    by_cases hlt : k < 512
    · have HA : Hid (Sl wr a n f) := ha.1.later hbr
      have HS : Hid (Sl wr b m h) := hb.1.later hbr
      obtain ⟨x, HX⟩ : ∃ x, Hid (zx f n k = x) := ⟨_, rfl⟩
      obtain ⟨y, HY⟩ : ∃ y, Hid (zx h m k = y) := ⟨_, rfl⟩
      obtain ⟨z, HZ⟩ : ∃ z, Hid (p k = z) := ⟨_, rfl⟩
      have hx : x < 256 := by rw [← HX.out]; exact HEf.out k
      have hy : y < 256 := by rw [← HY.out]; exact HEh.out k
      have hxo : bits .xor .u8 (x : Int) (y : Int) = (z : Int) := by rw [u8_xor_nat x y hx hy, ← HX.out, ← HY.out, ← HZ.out, ← HP.out]; rfl
      have hsz := hbr.size
      have hml : k + 1 ≤ maxLen := by unfold maxLen; omega
      clear hown hbr ha hb
      go_wp2_with (first
        | (go_at_call 39; have _x := n1; refine (at_at _ _ _ _ _ _ h HS.out HY).mono ?_; rintro e w' ⟨rfl, rfl⟩)
        | (go_at_call 39; refine (at_at _ _ _ _ _ _ f HA.out HX).mono ?_; rintro e w' ⟨rfl, rfl⟩; have n1 := hlt)
        | (at_builtin; refine wpList_append_own _ rfl _ _ 22 rfl w2.heap.size 5 i0 (.int .u8 0) 1 1 Try.underlying22 hi hz0 hz1 hz2 rfl (by decide) _ k _ rfl (HO.out.alloc _) ⟨wr.heap.size, 0, none⟩ 1 1 [.int .u8 (z : Int)] rfl rfl (one_new _ _ _) (one_one _) hml (by omega) (by simp; omega) ?_; intro v' w3 hown' hgrow' _; have HO3 : Hid (w3.ownsRow w2.heap.size 5 1 v' (k + 1) ((row k p).toList ++ [.int .u8 (z : Int)])) := hown'; have HB3 : Hid (Below w2.heap.size w2 w3) := grow_step HB.out HO.out hgrow' rfl; clear hown' hgrow'))
      exact ⟨⟨k + 1, by omega, by go_num, by rw [← row_snoc, HZ.out]; exact HO3.out, HB3.out⟩, by simp [intOf]; omega⟩
    · obtain rfl : k = 512 := by omega
      obtain ⟨s, ks, ev6, hs, hfr⟩ := own_lk hown (fun i _ => HPE.out i) (by omega)
      subst ev6
      clear HO hown
      go_wp2_with (go_at_call 11; refine (rtrim_at _ _ _ _ _ p hs HT).mono ?_; rintro e w5 ⟨s5, k5, rfl, hs5, hb5, hf5⟩)
      go_ret2
      exact ⟨s5, k5, rfl, hs5, two_below HB2.out (two_below HB.out hb5), fun x hx => by have := hf5 x hx; have := HB2.out.size; have := HB.out.size; omega⟩
theorem radd_long (w : World) (a b : Option Addr) (n m c d : Nat) (f h : Nat → Nat) (ha : Lk w a n c f) (hb : Lk w b m d h) (hl : 512 < tlen f n ∨ 512 < tlen h m) :
    Calls Try.prog 16 #[.slice a n c, .slice b m d] w fun e w' => e = .returned (.tuple #[.slice none 0 0, .int .i64 4]) ∧ Below w.heap.size w w' := by
  by_cases h1 : 512 < tlen f n
  · have H1 : Hid (512 < tlen f n) := h1
    clear h1 hl
    go_enter Try.func16, Try.ntmps16
    go_wp2_with (go_at_call 38; refine (long_true _ _ _ _ f ha H1).mono ?_; rintro e w1 ⟨rfl, hb1⟩)
    go_ret2
    exact ⟨rfl, hb1⟩
  · have H1 : Hid (tlen f n ≤ 512) := Nat.not_lt.mp h1
    have H2 : Hid (512 < tlen h m) := hl.resolve_left h1
    clear h1 hl
    go_enter Try.func16, Try.ntmps16
    go_wp2_with (first
      | (go_at_call 38; have _x := hb1; refine (long_true _ _ _ _ h hb H2).mono ?_; rintro e w2 ⟨rfl, hb2⟩; have hw := two_below hb1 hb2)
      | (go_at_call 38; refine (long_false _ _ _ _ f ha H1).mono ?_; rintro e w1 ⟨rfl, hb1⟩; replace hb := hb.later hb1))
    go_ret2
    exact ⟨rfl, hw⟩
end Go.Proofs.Ythpjedoolbfjfaa
