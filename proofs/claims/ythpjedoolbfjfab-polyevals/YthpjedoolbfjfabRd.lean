/-
  The polynomials' reference: Mul's errors; the mathematics of one step of a division.
-/
import Derived.Test.YthpjedoolbfjfabRc
namespace Go.Proofs.Ythpjedoolbfjfab
open Go.RowKit
theorem long_over (w : World) (a : Option Addr) (t c : Nat) (f : Nat → Nat) (h : Lk w a t c f) (ht : Hid (tlen f t = t)) (hl : 512 < t) :
    Calls Try.prog 35 #[.slice a t c] w fun e w' => e = .returned (.bool true) ∧ Below w.heap.size w w' :=
  long_true w a t c f h (by have := ht.out; show _ < _; omega)
set_option maxHeartbeats 1000000 in
theorem rpmul_long (w : World) (a b : Option Addr) (n m c d t1 t2 : Nat) (f h : Nat → Nat) (ha : Lk w a n c f) (hb : Lk w b m d h) (H1 : Hid (tlen f n = t1)) (H2 : Hid (tlen h m = t2)) (hl : 512 < t1 ∨ 512 < t2 ∨ (0 < t1 ∧ 0 < t2 ∧ 513 < t1 + t2)) :
    Calls Try.prog 23 #[.slice a n c, .slice b m d] w fun e w' => e = .returned (.tuple #[.slice none 0 0, .int .i64 4]) ∧ Below w.heap.size w w' := by
  have HI1 : Hid (tlen f t1 = t1) := by show _ = _; rw [← H1.out, tlen_idem]
  have HI2 : Hid (tlen h t2 = t2) := by show _ = _; rw [← H2.out, tlen_idem]
  have b1 : t1 ≤ 140737488351232 := by have := tlen_le f n; have := ha.2.2.2; have := H1.out; omega
  have b2 : t2 ≤ 140737488351232 := by have := tlen_le h m; have := hb.2.2.2; have := H2.out; omega
  by_cases g1 : 512 < t1
  · clear hl
    go_enter Try.func23, Try.ntmps23
    go_wp2_with (first
      | (go_at_call 24; have _x := hb1; refine (rtrim_at _ _ _ _ _ h hb H2).mono ?_; rintro e w2 ⟨s2, k2, rfl, hs2, hb2, hf2⟩; replace hs1 := hs1.later hb2; have hw := two_below hb1 hb2; clear ha hb)
      | (go_at_call 24; refine (rtrim_at _ _ _ _ _ f ha H1).mono ?_; rintro e w1 ⟨s1, k1, rfl, hs1, hb1, hf1⟩; replace hb := hb.later hb1)
      | (go_at_call 35; refine (long_over _ _ _ _ f hs1 HI1 g1).mono ?_; rintro e w3 ⟨rfl, hb3⟩; replace hw := two_below hw hb3))
    go_ret2
    exact ⟨rfl, hw⟩
  by_cases g2 : 512 < t2
  · clear hl
    go_enter Try.func23, Try.ntmps23
    go_wp2_with (first
      | (go_at_call 24; have _x := hb1; refine (rtrim_at _ _ _ _ _ h hb H2).mono ?_; rintro e w2 ⟨s2, k2, rfl, hs2, hb2, hf2⟩; replace hs1 := hs1.later hb2; have hw := two_below hb1 hb2; clear ha hb)
      | (go_at_call 24; refine (rtrim_at _ _ _ _ _ f ha H1).mono ?_; rintro e w1 ⟨s1, k1, rfl, hs1, hb1, hf1⟩; replace hb := hb.later hb1)
      | (go_at_call 35; have _x := hb3; refine (long_over _ _ _ _ h hs2 HI2 g2).mono ?_; rintro e w4 ⟨rfl, hb4⟩; replace hw := two_below hw hb4)
      | (go_at_call 35; refine (long_trimmed _ _ _ _ f hs1 HI1 (by omega)).mono ?_; rintro e w3 ⟨rfl, hb3⟩; replace hs2 := hs2.later hb3; replace hw := two_below hw hb3))
    go_ret2
    exact ⟨rfl, hw⟩
  · obtain ⟨p1, p2, p3⟩ : 0 < t1 ∧ 0 < t2 ∧ 513 < t1 + t2 := by omega
    clear hl
    go_enter Try.func23, Try.ntmps23
    go_wp2_with (first
      | (go_at_call 24; have _x := hb1; refine (rtrim_at _ _ _ _ _ h hb H2).mono ?_; rintro e w2 ⟨s2, k2, rfl, hs2, hb2, hf2⟩; replace hs1 := hs1.later hb2; have hw := two_below hb1 hb2; clear ha hb)
      | (go_at_call 24; refine (rtrim_at _ _ _ _ _ f ha H1).mono ?_; rintro e w1 ⟨s1, k1, rfl, hs1, hb1, hf1⟩; replace hb := hb.later hb1)
      | (go_at_call 35; have _x := hb3; refine (long_trimmed _ _ _ _ h hs2 HI2 (by omega)).mono ?_; rintro e w4 ⟨rfl, hb4⟩; replace hw := two_below hw hb4)
      | (go_at_call 35; refine (long_trimmed _ _ _ _ f hs1 HI1 (by omega)).mono ?_; rintro e w3 ⟨rfl, hb3⟩; replace hs2 := hs2.later hb3; replace hw := two_below hw hb3))
    go_ret2
    exact ⟨rfl, hw⟩

theorem rtrim_fat (w : World) (a : Option Addr) (n c t : Nat) (f : Nat → Nat) (h : Lk w a n c f) (ht : Hid (tlen f n = t)) :
    Calls Try.prog 24 #[.slice a n c] w fun e w' => ∃ s k, e = .returned (.slice s t k) ∧ Lk w' s t k f ∧ Below w.heap.size w w' ∧ From w.heap.size s ∧ w'.ownsRow w.heap.size 5 1 (.slice s t k) t (row t f).toList := by
  rw [← ht.out]; exact rtrim_full w a n c f h

/-! ### One step of a division -/
/-- c times x to the power d. -/
def mn (c d i : Nat) : Nat := if i = d then c else 0
theorem pm_mn (c d : Nat) (q : Nat → Nat) (i : Nat) : pm (mn c d) q i = if d ≤ i then fm c (q (i - d)) else 0 := by
  unfold pm
  by_cases h : d ≤ i
  · rw [if_pos h, xs_one (k0 := d) (by omega) (fun k _ hk => by rw [show mn c d k = 0 from if_neg hk, zero_fm]), show mn c d d = c from if_pos rfl]
  · rw [if_neg h]
    exact xs_zero (fun k hk => by rw [show mn c d k = 0 from if_neg (by omega), zero_fm])
/-- The remainder behind the step. -/
def rs (R h : Nat → Nat) (c d k j : Nat) : Nat := if d ≤ j ∧ j < d + k then R j ^^^ fm c (h (j - d)) else R j
theorem rs_zero (R h : Nat → Nat) (c d j : Nat) : rs R h c d 0 j = R j := if_neg (by omega)
theorem rs_step (R h : Nat → Nat) (c d k j : Nat) : rs R h c d (k + 1) j = if j = d + k then R (d + k) ^^^ fm c (h k) else rs R h c d k j := by
  unfold rs
  by_cases e : j = d + k
  · subst e; rw [if_pos rfl, if_pos (by omega), show d + k - d = k by omega]
  · rw [if_neg e]
    by_cases h1 : d ≤ j ∧ j < d + k
    · rw [if_pos h1, if_pos (by omega)]
    · rw [if_neg h1, if_neg (by omega)]
theorem rs_here (R h : Nat → Nat) (c d k : Nat) : rs R h c d k (d + k) = R (d + k) := if_neg (by omega)
theorem rs_lt {R h : Nat → Nat} {r c d k : Nat} (hR : ∀ i, i < r → R i < 256) (hc : c < 256) : ∀ i, i < r → rs R h c d k i < 256 := by
  intro i hi
  unfold rs
  split
  · exact xor_lt _ _ (hR i hi) (fm_lt _ _ hc)
  · exact hR i hi
theorem rs_sum (R h : Nat → Nat) (c d t i : Nat) : zx (rs R h c d t) (d + t) i = pa (zx R (d + t)) (pm (mn c d) (zx h t)) i := by
  show _ = zx R (d + t) i ^^^ pm (mn c d) (zx h t) i
  rw [pm_mn]
  unfold zx rs
  by_cases h1 : i < d + t
  · rw [if_pos h1, if_pos h1]
    by_cases h2 : d ≤ i
    · rw [if_pos ⟨h2, h1⟩, if_pos h2, if_pos (by omega)]
    · rw [if_neg (by omega), if_neg h2, Nat.xor_zero]
  · rw [if_neg h1, if_neg h1]
    by_cases h2 : d ≤ i
    · rw [if_pos h2, if_neg (by omega), fm_zero]; rfl
    · omega
/-- The quotient with one coefficient more. -/
def qs (Q : Nat → Nat) (c d i : Nat) : Nat := if i = d then c else Q i
theorem qs_pa {Q : Nat → Nat} {c d : Nat} (h : Q d = 0) (i : Nat) : qs Q c d i = pa Q (mn c d) i := by
  show _ = Q i ^^^ mn c d i
  unfold qs mn
  by_cases e : i = d
  · rw [if_pos e, if_pos e, e, h, Nat.zero_xor]
  · rw [if_neg e, if_neg e, Nat.xor_zero]
theorem div_step {P Q q R : Nat → Nat} {h : Nat → Nat} {c d t : Nat} (hQ : El Q) (hc : c < 256) (hq : ∀ i, q i = zx h t i) (h0 : Q d = 0) (e : ∀ i, P i = pa (pm Q q) (zx R (d + t)) i) :
    ∀ i, P i = pa (pm (qs Q c d) q) (zx (rs R h c d t) (d + t)) i := by
  intro i
  have hm : El (mn c d) := fun j => by unfold mn; split; exact hc; decide
  rw [e i]
  show pm Q q i ^^^ zx R (d + t) i = pm (qs Q c d) q i ^^^ zx (rs R h c d t) (d + t) i
  rw [pm_congr (qs_pa h0) (fun _ => rfl), pa_pm q hQ hm, rs_sum]
  show _ = (pm Q q i ^^^ pm (mn c d) q i) ^^^ (zx R (d + t) i ^^^ pm (mn c d) (zx h t) i)
  rw [pm_congr (q := zx h t) (q' := q) (fun _ => rfl) (fun j => (hq j).symm), xor4, Nat.xor_self, Nat.xor_zero]
theorem top_gone {R h : Nat → Nat} {d t : Nat} (ht : 0 < t) (hR : R (d + t - 1) < 256) (hh : h (t - 1) < 256) (h0 : h (t - 1) ≠ 0) : rs R h (fm (R (d + t - 1)) (finv (h (t - 1)))) d t (d + t - 1) = 0 := by
  unfold rs
  rw [if_pos (by omega), show d + t - 1 - d = t - 1 by omega, fm_assoc _ _ _ hR (finv_lt _), fm_comm _ _ (finv_lt _) hh, fm_finv _ hh h0, fm_one _ hR, Nat.xor_self]
theorem tlen_gone {f : Nat → Nat} {r : Nat} (hr : 0 < r) (h : f (r - 1) = 0) : tlen f r < r := by
  obtain ⟨m, rfl⟩ : ∃ m, r = m + 1 := ⟨r - 1, by omega⟩
  simp only [tlen]
  rw [if_pos (by simpa using h)]
  have := tlen_le f m
  omega
end Go.Proofs.Ythpjedoolbfjfab
