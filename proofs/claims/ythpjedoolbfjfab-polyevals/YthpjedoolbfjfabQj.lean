/-
  Contracts of the program's polynomials: folded, Roots.
-/
import Derived.Test.YthpjedoolbfjfabQc
namespace Go.Proofs.Ythpjedoolbfjfab
open Go.RowKit
theorem fpow_fold (x i : Nat) (hx : x < 256) : fpow x (256 + i) = fpow x (1 + i % 255) := by
  by_cases h0 : x = 0
  · subst h0
    rw [show 256 + i = (255 + i) + 1 by omega, show 1 + i % 255 = i % 255 + 1 by omega]
    show fm (fpow 0 (255 + i)) 0 = fm (fpow 0 (i % 255)) 0
    rw [fm_zero, fm_zero]
  · rw [fpow_lg x _ hx h0, fpow_lg x _ hx h0, ← g_mod (lg x * (256 + i)), ← g_mod (lg x * (1 + i % 255)), Nat.mul_mod, Nat.mul_mod (lg x) (1 + i % 255)]
    rw [show (256 + i) % 255 = (1 + i % 255) % 255 by omega]
theorem ev_put {S : Nat → Nat} {N p c x : Nat} (hS : ∀ i, i < N → S i < 256) (hc : c < 256) (hp : p < N) : ev (fun j => if j = p then S p ^^^ c else S j) N x = ev S N x ^^^ fm c (fpow x p) := by
  unfold ev
  have e : xs (fun i => if i = p then fm c (fpow x p) else 0) N = fm c (fpow x p) := by
    rw [xs_one hp (fun k _ hk => if_neg hk), if_pos rfl]
  rw [← e, ← xs_add]
  refine xs_congr (fun i hi => ?_)
  by_cases h : i = p
  · subst h
    show fm (if i = i then S i ^^^ c else S i) (fpow x i) = fm (S i) (fpow x i) ^^^ (if i = i then fm c (fpow x i) else 0)
    rw [if_pos rfl, if_pos rfl, xor_fm _ _ _ (hS i hi) hc]
  · show fm (if i = p then S p ^^^ c else S i) (fpow x i) = fm (S i) (fpow x i) ^^^ (if i = p then fm c (fpow x p) else 0)
    rw [if_neg h, if_neg h, Nat.xor_zero]
theorem ev_succ (f : Nat → Nat) (n x : Nat) : ev f (n + 1) x = ev f n x ^^^ fm (f n) (fpow x n) := rfl
/-- A list with the same values. -/
structure Fo (w w' : World) (s : Option Addr) (n : Nat) (S : Nat → Nat) (f : Nat → Nat) (t : Nat) : Prop where
  sl : Sl w' s n S
  le : n ≤ 256
  same : ∀ x, x < 256 → ev S n x = ev f t x
  below : Below w.heap.size w w'
set_option maxHeartbeats 400000 in
theorem folded_short (w : World) (a : Option Addr) (t c : Nat) (f : Nat → Nat) (h : Lk w a t c f) (ht : t ≤ 256) :
    Calls Try.prog 32 #[.slice a t c] w fun e w' => ∃ s n k S, e = .returned (.slice s n k) ∧ Fo w w' s n S f t := by
  have HS : Hid (Sl w a t f) := h.1
  clear h
  go_enter Try.func32, Try.ntmps32
  go_wp2
  go_ret
  exact ⟨a, t, c, f, rfl, HS.out, ht, fun _ _ => rfl, Below.refl _ _⟩
set_option maxRecDepth 20000 in
set_option maxHeartbeats 2000000 in
theorem folded_long (w : World) (a : Option Addr) (t c : Nat) (f : Nat → Nat) (h : Lk w a t c f) (ht : 256 < t) :
    Calls Try.prog 32 #[.slice a t c] w fun e w' => ∃ s n k S, e = .returned (.slice s n k) ∧ Fo w w' s n S f t := by
  obtain ⟨i0, hi, hz0, hz1, hz2⟩ := info_parts info8
  have hsz : (Try.prog.info? 5).map (·.size) = some 1 := info5
  obtain ⟨m, rfl⟩ : ∃ m, t = 256 + m := ⟨t - 256, by omega⟩
  have hm : 0 < m := by omega
  have hn := h.2.2.2
  have hnc := h.2.1
  have HS : Hid (Sl w a (256 + m) f) := h.1
  have HV : Hid (∀ i, i < 256 + m → f i < 256) := h.1.1
  obtain ⟨zs, HZ⟩ : ∃ zs, Hid (zs = (row 256 fun _ => 0).toList) := ⟨_, rfl⟩
  obtain ⟨ls, HX⟩ : ∃ xs, Hid (xs = (row 256 f).toList) := ⟨_, rfl⟩
  have hlen : ls.length = 256 := by rw [HX.out]; simp [row_size]
  have hzlen : zs.length = 256 := by rw [HZ.out]; simp [row_size]
  have HM : Hid (ls.length = Nat.min (256 + m) 256) := by show _ = _; rw [hlen]; exact (Nat.min_eq_right (by omega)).symm
  have HFit : Hid (0 + ls.length ≤ zs.length) := by show _ ≤ _; omega
  have HO : Hid (∀ v ∈ ls, v.oneCell' = true) := by
    show ∀ v ∈ ls, _
    rw [HX.out]
    intro v hv
    obtain ⟨j, hj⟩ := List.getElem?_of_mem hv
    rw [(row_listget 256 f j v hj).2]; rfl
  have HS256 : Hid (Sl w a 256 f) := ⟨fun i hi => h.1.1 i (by omega), fun i hi => h.1.2 i (by omega)⟩
  obtain ⟨b, o, ea, hc0⟩ := h.1.2 0 (by omega)
  have hblt := cell_lt hc0
  have HC : Hid (∀ i, i < 256 + m → w.cell? ⟨b, o + i, none⟩ = some (.int .u8 (f i : Nat))) := by
    intro i hi
    obtain ⟨b', o', e', hc'⟩ := HS.out.2 i hi
    rw [ea] at e'; cases e'
    exact hc'
  clear h hlen hzlen hc0
  subst ea
  have j1 : 256 + m - 256 = m := by omega
  have j2 : ¬ (c = 256) := by omega
  have j3 : decide ((256 : Int) + (m : Int) ≤ 256) = false := by simp; omega
  go_enter Try.func32, Try.ntmps32
  go_wp2_with (first
    | (at_make; refine wpList_make_full _ rfl _ _ 22 rfl w.heap.size 5 i0 (.int .u8 0) 1 Try.underlying22 hi hz0 hz1 .i64 .i64 _ _ 256 rfl rfl rfl rfl (by rw [hz2]; omega) (by unfold maxLen; omega) (Nat.le_refl _) ?_; intro w1 hown hgrow; have HR : Hid (w1.heap[w.heap.size]? = some (.cells zs.toArray 5 (0, 0))) := row_list (made_at hown) HZ.out; have HB : Hid (Below w.heap.size w w1) := grown_none.mp hgrow; clear hown hgrow)
    | (refine wpList_copy_splice rfl _ _ 22 22 rfl 5 Try.underlying22 hsz _ _ 256 256 (256 + m) c rfl rfl w.heap.size 0 zs 5 HR.out ls HM.out (copy_src HS256.out HB.out HX.out w.heap.size) HFit.out HO.out w.heap.size w HB.out (Nat.le_refl _) ?_; intro w2 HG2 hB2; have HRow : Hid (RowAt w2 w.heap.size 5 256 f) := copied_row HG2 HZ.out HX.out; have HB2 : Hid (Below w.heap.size w w2) := hB2; clear HG2 hB2))
  go_loopw [17] (fun i wr => ∃ (k : Nat) (S : Nat → Nat), k ≤ m ∧ i = .int .i64 (k : Int) ∧ RowAt wr w.heap.size 5 256 S ∧ (∀ i, i < 256 → S i < 256) ∧ (∀ x, x < 256 → ev S 256 x = ev f (256 + k) x) ∧ Below w.heap.size w wr) (fun i _ => m - (intOf i).toNat)
  case atStart => exact ⟨0, f, by omega, rfl, HRow.out, fun i hi => HV.out i (by omega), fun _ _ => rfl, HB2.out⟩
  case round =>
    clear HRow HB2
    obtain ⟨k, S, hk, rfl, hr, hS, hev, hbr⟩ := hrel
    by_cases hlt : k < m
    · have hc := HC.out (256 + k) (by omega)
      rw [← hbr.cell (p := ⟨b, o + (256 + k), none⟩) hblt, show o + (256 + k) = o + 256 + k by omega] at hc
      obtain ⟨y, HY⟩ : ∃ y, Hid (f (256 + k) = y) := ⟨_, rfl⟩
      have hy : y < 256 := by rw [← HY.out]; exact HV.out _ (by omega)
      rw [HY.out] at hc
      obtain ⟨p, HP⟩ : ∃ p, Hid (1 + k % 255 = p) := ⟨_, rfl⟩
      have hp : p < 256 := by have := HP.out; omega
      have hpi : (1 : Int) + (k : Int) % 255 = (p : Int) := by have := HP.out; omega
      obtain ⟨x, HX2⟩ : ∃ x, Hid (S p = x) := ⟨_, rfl⟩
      have hx : x < 256 := by rw [← HX2.out]; exact hS p hp
      have hcs := hr.cell p hp
      rw [HX2.out] at hcs
      have hfz := hr.free p
      have hxo : bits .xor .u8 (x : Int) (y : Int) = ((x ^^^ y : Nat) : Int) := u8_xor_nat _ _ hx hy
      have HN : Hid (RowAt (wr.setCell ⟨w.heap.size, p, none⟩ (.int .u8 (x ^^^ y : Nat))) w.heap.size 5 256 (fun j => if j = p then S p ^^^ y else S j)) := by show RowAt _ _ _ _ _; have := hr.set p (x ^^^ y); rw [HX2.out]; exact this
      have HN1 : Hid (∀ i, i < 256 → (if i = p then S p ^^^ y else S i) < 256) := fun i hi => by
        split
        · exact xor_lt _ _ (hS p hp) hy
        · exact hS i hi
      have HN2 : Hid (∀ x, x < 256 → ev (fun j => if j = p then S p ^^^ y else S j) 256 x = ev f (256 + (k + 1)) x) := fun x hx => by
        rw [ev_put hS hy hp, hev x hx, ← HP.out, ← fpow_fold x k hx, ← HY.out]; rfl
      have HB3 : Hid (Below w.heap.size w (wr.setCell ⟨w.heap.size, p, none⟩ (.int .u8 (x ^^^ y : Nat)))) := hbr.setCell (Nat.le_refl _) _
      clear hr hS hev hbr
      go_wp2
      exact ⟨⟨k + 1, _, by omega, by go_num, HN.out, HN1.out, HN2.out, HB3.out⟩, by simp [intOf]; omega⟩
    · obtain rfl : k = m := by omega
      go_wp2
      go_ret
      exact ⟨_, _, _, S, rfl, hr.sl hS, Nat.le_refl _, hev, hbr⟩
theorem folded_any (w : World) (a : Option Addr) (t c : Nat) (f : Nat → Nat) (h : Lk w a t c f) :
    Calls Try.prog 32 #[.slice a t c] w fun e w' => ∃ s n k S, e = .returned (.slice s n k) ∧ Fo w w' s n S f t := by
  by_cases ht : t ≤ 256
  · exact folded_short w a t c f h ht
  · exact folded_long w a t c f h (by omega)
theorem own_later {w w' : World} {B n : Nat} {v : Value} {ls : List Value} (h : w.ownsRow B 5 1 v n ls) (hb : Below w.heap.size w w') : w'.ownsRow B 5 1 v n ls :=
  h.kept (grown_none.mpr hb) (by cases hv : v.ownBlock <;> simp)
theorem eval_one (w : World) (a : Option Addr) (n c x y : Nat) (f : Nat → Nat) (h : Sl w a n f) (hn : n ≤ 140737488351232) (hx : x < 256) (HY : Hid (ev f n x = y)) :
    Calls Try.prog 10 #[.slice a n c, .int .u8 (x : Int)] w fun e w' => e = .returned (.int .u8 (y : Int)) ∧ Below w.heap.size w w' :=
  (eval_any w a n c x f h hn hx).mono fun _ _ ⟨he, m, hm⟩ => ⟨by rw [← HY.out]; exact he, by rw [hm]; exact below_drewN (Below.refl _ _) m⟩
theorem ev_tlen (f : Nat → Nat) (n x : Nat) : ev f (tlen f n) x = ev f n x := by
  have : ev (zx f n) n x = ev (zx f n) (tlen f n) x := ev_ext (fun i hi => by rw [← zx_tlen]; exact if_neg (by omega)) (tlen_le f n) x
  rw [ev_congr (p := zx f n) (q := f) (n := n) (fun i hi => if_pos hi) x, ev_congr (p := zx f n) (q := f) (n := tlen f n) (fun i hi => if_pos (by have := tlen_le f n; omega)) x] at this
  exact this.symm
set_option maxRecDepth 20000 in
set_option maxHeartbeats 1000000 in
theorem proots_any (w : World) (a : Option Addr) (n c t : Nat) (f : Nat → Nat) (ha : Lk w a n c f) (HT : Hid (tlen f n = t)) (h0 : t ≠ 0) :
    Calls Try.prog 18 #[.slice a n c] w fun e w' => ∃ v, e = .returned v ∧ w'.ownsRow w.heap.size 5 1 v (rootsTo f n 256).length (bsl (rootsTo f n 256)) ∧ Below w.heap.size w w' := by
  obtain ⟨i0, hi, hz0, hz1, hz2⟩ := info_parts info8
  have t0 : ((t : Int) == 0) = false := by simpa using h0
  obtain ⟨LL, HLL⟩ : ∃ L, Hid (rootsTo f n 256 = L) := ⟨_, rfl⟩
  rw [HLL.out]
  have htn : t ≤ n := by rw [← HT.out]; exact tlen_le _ _
  have HA : Hid (Lk w a n c f) := ha
  have HA1 : Hid (Lk w a t c f) := ha.cut htn
  clear ha
  go_enter Try.func18, Try.ntmps18
  go_wp2_with (first
    | (go_at_call 25; refine (trimmed_any _ _ _ _ t f HA.out HT).mono ?_; rintro e w' ⟨rfl, rfl⟩)
    | (go_at_call 32; refine (folded_any _ _ _ _ f HA1.out).mono ?_; rintro e w1 ⟨s1, n1, k1, S, rfl, hfo⟩; have HFo : Hid (Fo w w1 s1 n1 S f t) := hfo; clear hfo))
  have hn1 := HFo.out.le
  go_loopw [4, 13] (fun v i wr => ∃ k : Nat, k ≤ 256 ∧ i = .int .i64 (k : Int) ∧ wr.ownsRow w1.heap.size 5 1 v (rootsTo f n k).length (bsl (rootsTo f n k)) ∧ Below w1.heap.size w1 wr) (fun _ i _ => 256 - (intOf i).toNat)
  case atStart => exact ⟨0, by omega, rfl, by simpa [rootsTo, bsl] using World.ownsRow_nil _ _ _ _, Below.refl _ _⟩
  case round =>
    obtain ⟨k, hk, rfl, hown, hbr⟩ := hrel
    obtain ⟨l, HL⟩ : ∃ l, Hid (rootsTo f n k = l) := ⟨_, rfl⟩
    rw [HL.out] at hown
    have HO : Hid (wr.ownsRow w1.heap.size 5 1 u4 l.length (bsl l)) := hown
    have HB : Hid (Below w1.heap.size w1 wr) := hbr
    by_cases hlt : k < 256
    · have HS : Hid (Sl wr s1 n1 S) := HFo.out.sl.later hbr
      obtain ⟨v, HVv⟩ : ∃ v, Hid (ev S n1 k = v) := ⟨_, rfl⟩
      have HVf : Hid (ev f n k = v) := by show _ = _; rw [← HVv.out, HFo.out.same k hlt, ← HT.out, ev_tlen]
      have hsz := hbr.size
      have hll : l.length ≤ k := by rw [← HL.out]; exact rootsTo_len f n k
      have hml : l.length + 1 ≤ maxLen := by unfold maxLen; omega
      clear hown hbr
      by_cases hv : v = 0
      · have HN : Hid (rootsTo f n (k + 1) = l ++ [k]) := by show _ = _; rw [rootsTo_succ, HL.out, HVf.out, if_pos hv]
        subst hv
        go_wp2_with (first
          | (go_at_call 10; refine (eval_one _ _ _ _ k 0 S HS.out (by omega) hlt HVv).mono ?_; rintro e w5 ⟨rfl, hb5⟩; have HO5 : Hid (w5.ownsRow w1.heap.size 5 1 u4 l.length (bsl l)) := own_later HO.out hb5; have HB5 : Hid (Below w1.heap.size w1 w5) := two_below HB.out hb5; have hsz5 := HB5.out.size; clear hb5)
          | (at_builtin; refine wpList_append_own _ rfl _ _ 22 rfl w1.heap.size 5 i0 (.int .u8 0) 1 1 Try.underlying22 hi hz0 hz1 hz2 rfl (by decide) _ l.length _ rfl (HO5.out.alloc _) ⟨w5.heap.size, 0, none⟩ 1 1 [.int .u8 (k : Int)] rfl rfl (one_new _ _ _) (one_one _) hml (by omega) (by simp; omega) ?_; intro v' w3 hown' hgrow' _; have HO3 : Hid (w3.ownsRow w1.heap.size 5 1 v' (l.length + 1) (bsl l ++ [.int .u8 (k : Int)])) := hown'; have HB3 : Hid (Below w1.heap.size w1 w3) := grow_step HB5.out HO5.out hgrow' rfl; clear hown' hgrow'))
        exact ⟨⟨k + 1, by omega, by go_num, by rw [HN.out]; simpa [bsl] using HO3.out, HB3.out⟩, by simp [intOf]; omega⟩
      · have HN : Hid (rootsTo f n (k + 1) = l) := by show _ = _; rw [rootsTo_succ, HL.out, HVf.out, if_neg hv, List.append_nil]
        have tv : ((v : Int) == 0) = false := by simpa using hv
        clear hv
        go_wp2_with (go_at_call 10; refine (eval_one _ _ _ _ k v S HS.out (by omega) hlt HVv).mono ?_; rintro e w5 ⟨rfl, hb5⟩; have HB5 : Hid (Below wr.heap.size wr w5) := hb5; clear hb5)
        exact ⟨⟨k + 1, by omega, by go_num, by rw [HN.out]; exact own_later HO.out HB5.out, two_below HB.out HB5.out⟩, by simp [intOf]; omega⟩
    · obtain rfl : k = 256 := by omega
      obtain rfl : l = LL := HL.out.symm.trans HLL.out
      clear hown hbr
      go_wp2
      go_ret
      exact ⟨_, rfl, own_mono HO.out HFo.out.below.size, two_below HFo.out.below HB.out⟩
set_option maxHeartbeats 400000 in
theorem proots_zero (w : World) (a : Option Addr) (n c : Nat) (f : Nat → Nat) (ha : Lk w a n c f) (HT : Hid (tlen f n = 0)) :
    Calls Try.prog 18 #[.slice a n c] w fun e w' => e = .returned (.slice none 0 0) ∧ w = w' := by
  have HA : Hid (Lk w a n c f) := ha
  clear ha
  go_enter Try.func18, Try.ntmps18
  go_wp2_with (go_at_call 25; refine (trimmed_any _ _ _ _ 0 f HA.out HT).mono ?_; rintro e w' ⟨rfl, rfl⟩)
  go_ret
  exact ⟨rfl, rfl⟩
end Go.Proofs.Ythpjedoolbfjfab
