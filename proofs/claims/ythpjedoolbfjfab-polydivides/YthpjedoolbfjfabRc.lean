/-
  Contract of the polynomials' reference: Mul.
-/
import Derived.Test.YthpjedoolbfjfabRb
namespace Go.Proofs.Ythpjedoolbfjfab
open Go.RowKit
theorem tlen_idem (f : Nat → Nat) (n : Nat) : tlen f (tlen f n) = tlen f n := by
  have h := tlen_top f n
  cases e : tlen f n with
  | zero => rfl
  | succ t =>
    rw [e] at h
    simp only [tlen]
    rw [if_neg (by simpa using h (by omega))]
theorem zx_tlen (f : Nat → Nat) (n i : Nat) : zx f (tlen f n) i = zx f n i := by
  have hle := tlen_le f n
  unfold zx
  by_cases h1 : i < tlen f n
  · rw [if_pos h1, if_pos (by omega)]
  · rw [if_neg h1]
    by_cases h2 : i < n
    · rw [if_pos h2, tlen_zero f n i (by omega) h2]
    · rw [if_neg h2]
/-- The coefficient i of the product, as the reference sums it. -/
theorem conv_eq (f h : Nat → Nat) (t1 t2 i : Nat) : xs (fun k => fm (f k) (zat h t2 ((i : Int) - (k : Int)))) t1 = pm (zx f t1) (zx h t2) i := by
  have e1 : xs (fun k => fm (f k) (zat h t2 ((i : Int) - (k : Int)))) t1 = xs (fun k => if k < t1 ∧ k ≤ i then fm (f k) (zx h t2 (i - k)) else 0) (t1 + (i + 1)) := by
    rw [xs_ext (n := t1) (by omega) (fun k h1 _ => if_neg (by omega))]
    refine xs_congr (fun k hk => ?_)
    by_cases hi : k ≤ i
    · rw [if_pos ⟨hk, hi⟩]
      unfold zat
      rw [if_neg (by omega), show ((i : Int) - (k : Int)).toNat = i - k by omega]
    · rw [if_neg (by omega)]
      unfold zat
      rw [if_pos (by omega), fm_zero]
  have e2 : pm (zx f t1) (zx h t2) i = xs (fun k => if k < t1 ∧ k ≤ i then fm (f k) (zx h t2 (i - k)) else 0) (t1 + (i + 1)) := by
    rw [xs_ext (n := i + 1) (by omega) (fun k h1 _ => if_neg (by omega))]
    refine xs_congr (fun k hk => ?_)
    by_cases hi : k < t1
    · rw [if_pos ⟨hi, by omega⟩, show zx f t1 k = f k from if_pos hi]
    · rw [if_neg (by omega), show zx f t1 k = 0 from if_neg hi, zero_fm]
  rw [e1, e2]
theorem zat_lt {h : Nat → Nat} {t : Nat} (hh : ∀ i, i < t → h i < 256) (i : Int) : zat h t i < 256 := by
  unfold zat; split
  · decide
  · exact zx_el hh _
theorem long_trimmed (w : World) (a : Option Addr) (t c : Nat) (f : Nat → Nat) (h : Lk w a t c f) (ht : Hid (tlen f t = t)) (hl : t ≤ 512) :
    Calls Try.prog 35 #[.slice a t c] w fun e w' => e = .returned (.bool false) ∧ Below w.heap.size w w' :=
  long_false w a t c f h (by have := ht.out; show _ ≤ _; omega)
set_option maxRecDepth 20000 in
set_option maxHeartbeats 2000000 in
theorem rpmul_any (w : World) (a b : Option Addr) (n m c d t1 t2 : Nat) (f h : Nat → Nat) (ha : Lk w a n c f) (hb : Lk w b m d h) (H1 : Hid (tlen f n = t1)) (H2 : Hid (tlen h m = t2)) (hl1 : t1 ≤ 512) (hl2 : t2 ≤ 512) (hsum : t1 = 0 ∨ t2 = 0 ∨ t1 + t2 ≤ 513) :
    Calls Try.prog 23 #[.slice a n c, .slice b m d] w fun e w' => ∃ s k, e = .returned (.tuple #[.slice s (tlen (pm (zx f n) (zx h m)) (t1 + t2)) k, .int .i64 0]) ∧ Lk w' s (tlen (pm (zx f n) (zx h m)) (t1 + t2)) k (pm (zx f n) (zx h m)) ∧ Below w.heap.size w w' ∧ From w.heap.size s := by
  obtain ⟨i0, hi, hz0, hz1, hz2⟩ := info_parts info8
  have HI1 : Hid (tlen f t1 = t1) := by show _ = _; rw [← H1.out, tlen_idem]
  have HI2 : Hid (tlen h t2 = t2) := by show _ = _; rw [← H2.out, tlen_idem]
  have HEf : Hid (El (zx f n)) := zx_el ha.1.1
  have HEh : Hid (El (zx h m)) := zx_el hb.1.1
  have HC : Hid (∀ i : Nat, xs (fun k => fm (f k) (zat h t2 ((i : Int) - (k : Int)))) t1 = pm (zx f n) (zx h m) i) := by
    intro i
    rw [conv_eq]
    refine pm_congr (fun j => ?_) (fun j => ?_) i
    · rw [← H1.out, zx_tlen]
    · rw [← H2.out, zx_tlen]
  obtain ⟨p, HP⟩ : ∃ p, Hid (pm (zx f n) (zx h m) = p) := ⟨_, rfl⟩
  have HPE : Hid (∀ i, p i < 256) := by rw [← HP.out]; exact pm_el _ HEf.out
  obtain ⟨t, HT⟩ : ∃ t, Hid (tlen p (t1 + t2) = t) := ⟨_, rfl⟩
  rw [HP.out, HT.out]
  have cases3 : (Hid (t1 = 0) ∧ decide (0 < t1) = false ∧ ¬ 0 < t1) ∨ ((0 : Int) < (t1 : Int) ∧ decide (0 < t2) = false ∧ ¬ 0 < t2) ∨ ((0 : Int) < (t1 : Int) ∧ (0 : Int) < (t2 : Int) ∧ t1 + t2 ≤ 513) := by
    by_cases e1 : t1 = 0
    · exact .inl ⟨e1, by simp [e1], by omega⟩
    · by_cases e2 : t2 = 0
      · exact .inr (.inl ⟨by omega, by simp [e2], by omega⟩)
      · exact .inr (.inr ⟨by omega, by omega, by omega⟩)
  clear hsum
  rcases cases3 with ⟨c1, c2, c3⟩ | ⟨c1, c2, c3⟩ | ⟨c1, c2, c3⟩
  all_goals
    go_enter Try.func23, Try.ntmps23
    go_wp2_with (first
      | (go_at_call 24; have _x := hb1; refine (rtrim_at _ _ _ _ _ h hb H2).mono ?_; rintro e w2 ⟨s2, k2, rfl, hs2, hb2, hf2⟩; replace hs1 := hs1.later hb2; have hw := two_below hb1 hb2; clear ha hb)
      | (go_at_call 24; refine (rtrim_at _ _ _ _ _ f ha H1).mono ?_; rintro e w1 ⟨s1, k1, rfl, hs1, hb1, hf1⟩; replace hb := hb.later hb1)
      | (go_at_call 35; have _x := hb3; refine (long_trimmed _ _ _ _ h hs2 HI2 hl2).mono ?_; rintro e w4 ⟨rfl, hb4⟩; replace hs1 := hs1.later hb4; replace hs2 := hs2.later hb4; replace hw := two_below hw hb4)
      | (go_at_call 35; refine (long_trimmed _ _ _ _ f hs1 HI1 hl1).mono ?_; rintro e w3 ⟨rfl, hb3⟩; replace hs1 := hs1.later hb3; replace hs2 := hs2.later hb3; replace hw := two_below hw hb3))
    have HW4 : Hid (Below w.heap.size w w4) := hw
    clear hb1 hb2 hb3 hb4 hw _x
    go_loopw [6, 7] (fun v i wr => ∃ k : Nat, k ≤ t1 + t2 ∧ i = .int .i64 (k : Int) ∧ wr.ownsRow w4.heap.size 5 1 v k (row k p).toList ∧ Below w4.heap.size w4 wr) (fun _ i _ => t1 + t2 - (intOf i).toNat)
    case atStart => exact ⟨0, by omega, rfl, by rw [row_empty]; exact World.ownsRow_nil _ _ _ _, Below.refl _ _⟩
    case round =>
      obtain ⟨i, hik, rfl, hown, hbr⟩ := hrel
      by_cases hlt : i < t1 + t2
      · have HO : Hid (wr.ownsRow w4.heap.size 5 1 u6 i (row i p).toList) := hown
        have HB : Hid (Below w4.heap.size w4 wr) := hbr
        clear hown hbr
        obtain ⟨z, HZ⟩ : ∃ z, Hid (p i = z) := ⟨_, rfl⟩
        have HZ2 : Hid (xs (fun k => fm (f k) (zat h t2 ((i : Int) - (k : Int)))) t1 = z) := by show _ = _; rw [HC.out i, HP.out, HZ.out]
        go_wp2
        go_loopw [8, 9] (fun cc k' wi => ∃ k : Nat, k ≤ t1 ∧ k' = .int .i64 (k : Int) ∧ cc = .int .u8 ((xs (fun k => fm (f k) (zat h t2 ((i : Int) - (k : Int)))) k : Nat) : Int) ∧ wi.ownsRow w4.heap.size 5 1 u6 i (row i p).toList ∧ Below w4.heap.size w4 wi) (fun _ k' _ => t1 - (intOf k').toNat)
        case atStart => exact ⟨0, by omega, rfl, rfl, HO.out, HB.out⟩
        case round =>
          clear HO HB
          obtain ⟨k, hk, rfl, rfl, ho, hbi⟩ := hrel
          have HO : Hid (wr.ownsRow w4.heap.size 5 1 u6 i (row i p).toList) := ho
          have HB : Hid (Below w4.heap.size w4 wr) := hbi
          by_cases hlk : k < t1
          · obtain ⟨b1, o1, ea, hca⟩ := (hs1.1.later hbi).2 k hlk
            have hfk := hs1.1.1 k hlk
            have HS2 : Hid (Sl _ s2 t2 h) := hs2.1.later hbi
            obtain ⟨x, HX⟩ : ∃ x, Hid (f k = x) := ⟨_, rfl⟩
            rw [HX.out] at hca hfk
            obtain ⟨y, HY⟩ : ∃ y, Hid (zat h t2 ((i : Int) - (k : Int)) = y) := ⟨_, rfl⟩
            have hy : y < 256 := by rw [← HY.out]; exact zat_lt hs2.1.1 _
            obtain ⟨q, HQ⟩ : ∃ q, Hid (fm x y = q) := ⟨_, rfl⟩
            have hq : q < 256 := by rw [← HQ.out]; exact fm_lt _ _ hfk
            obtain ⟨v, HV⟩ : ∃ v, Hid (xs (fun k => fm (f k) (zat h t2 ((i : Int) - (k : Int)))) k = v) := ⟨_, rfl⟩
            have hv : v < 256 := by rw [← HV.out]; exact xs_lt (fun j hj => fm_lt _ _ (hs1.1.1 j (by omega)))
            have hxo : bits .xor .u8 (v : Int) (q : Int) = ((xs (fun k => fm (f k) (zat h t2 ((i : Int) - (k : Int)))) (k + 1) : Nat) : Int) := by
              rw [u8_xor_nat v q hv hq, ← HV.out, ← HQ.out, ← HX.out, ← HY.out]; rfl
            have HAt : Hid (∀ w, Sl w s2 t2 h → Calls Try.prog 36 #[.slice s2 t2 k2, .int .i64 ((i : Int) - (k : Int))] w fun e w' => e = .returned (.int .u8 (y : Int)) ∧ w' = w) := by rw [← HY.out]; exact fun w hw => at_any w s2 t2 k2 h _ hw
            have HMu : Hid (∀ w, Calls Try.prog 12 #[.int .u8 (x : Int), .int .u8 (y : Int)] w fun e w' => e = .returned (.int .u8 (q : Int)) ∧ w' = w) := by rw [← HQ.out]; exact fun w => rmul_nat x y w hfk hy
            rw [HV.out]
            clear ho hbi
            subst ea
            go_wp2
            go_quiet ((first | (go_at_call 36; exact Calls.quiet_of_same (HAt.out _ HS2.out)) | (go_at_call 12; exact Calls.quiet_of_same (HMu.out _))))
            go_wp2
            exact ⟨⟨k + 1, by omega, by go_num, rfl, HO.out, below_drewN HB.out _⟩, by simp [intOf]; omega⟩
          · obtain rfl : k = t1 := by omega
            rw [HZ2.out]
            have hsz := hbi.size
            have hml : i + 1 ≤ maxLen := by unfold maxLen; omega
            clear ho hbi
            go_wp2_with (at_builtin; refine wpList_append_own _ rfl _ _ 22 rfl w4.heap.size 5 i0 (.int .u8 0) 1 1 Try.underlying22 hi hz0 hz1 hz2 rfl (by decide) _ i _ rfl (HO.out.alloc _) ⟨wr.heap.size, 0, none⟩ 1 1 [.int .u8 (z : Int)] rfl rfl (one_new _ _ _) (one_one _) hml (by omega) (by simp; omega) ?_; intro v' w5 hown' hgrow' _; have HO3 : Hid (w5.ownsRow w4.heap.size 5 1 v' (i + 1) ((row i p).toList ++ [.int .u8 (z : Int)])) := hown'; have HB3 : Hid (Below w4.heap.size w4 w5) := grow_step HB.out HO.out hgrow' rfl; clear hown' hgrow')
            exact ⟨⟨i + 1, by omega, by go_num, by rw [← row_snoc, HZ.out]; exact HO3.out, HB3.out⟩, by simp [intOf]; omega⟩
      · obtain rfl : i = t1 + t2 := by omega
        obtain ⟨s, ks, ev6, hs, hfr⟩ := own_lk hown (fun i _ => HPE.out i) (by omega)
        have HB : Hid (Below w4.heap.size w4 wr) := hbr
        subst ev6
        clear hown hbr
        go_wp2_with (go_at_call 24; refine (rtrim_at _ _ _ _ _ p hs HT).mono ?_; rintro e w6 ⟨s6, k6, rfl, hs6, hb6, hf6⟩)
        go_ret2
        exact ⟨s6, k6, rfl, hs6, two_below HW4.out (two_below HB.out hb6), fun x hx => by have := hf6 x hx; have := HW4.out.size; have := HB.out.size; omega⟩
end Go.Proofs.Ythpjedoolbfjfab
