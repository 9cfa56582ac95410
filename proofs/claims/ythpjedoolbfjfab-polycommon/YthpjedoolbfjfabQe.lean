/-
  Contracts of the program's polynomials: Mul.
-/
import Derived.Test.YthpjedoolbfjfabQd
namespace Go.Proofs.Ythpjedoolbfjfab
open Go.RowKit
/-- The sum of the first k multiples. -/
def ms (f h : Nat → Nat) (t2 k j : Nat) : Nat := xs (fun i => if i ≤ j ∧ j < i + t2 then fm (f i) (h (j - i)) else 0) k
theorem ms_step (f h : Nat → Nat) (t2 k j : Nat) : rs (ms f h t2 k) h (f k) k t2 j = ms f h t2 (k + 1) j := by
  unfold rs
  show _ = ms f h t2 k j ^^^ (if k ≤ j ∧ j < k + t2 then fm (f k) (h (j - k)) else 0)
  split
  · rfl
  · rw [Nat.xor_zero]
theorem ms_pm (f h : Nat → Nat) (t1 t2 j : Nat) : ms f h t2 t1 j = pm (zx f t1) (zx h t2) j := by
  rw [← conv_eq]
  refine xs_congr (fun i _ => ?_)
  unfold zat zx
  by_cases h1 : i ≤ j
  · rw [if_neg (c := (j : Int) - (i : Int) < 0) (by omega), show ((j : Int) - (i : Int)).toNat = j - i by omega]
    by_cases h2 : j < i + t2
    · rw [if_pos ⟨h1, h2⟩, if_pos (by omega)]
    · rw [if_neg (by omega), if_neg (by omega), fm_zero]
  · rw [if_neg (by omega), if_pos (by omega), fm_zero]
theorem ms_lt {f : Nat → Nat} (h : Nat → Nat) {t2 k t1 : Nat} (hf : ∀ i, i < t1 → f i < 256) (hk : k ≤ t1) (j : Nat) : ms f h t2 k j < 256 := xs_lt (fun i hi => by split; exact fm_lt _ _ (hf i (by omega)); decide)
/-- The product's length. -/
theorem mul_len {f h : Nat → Nat} {n m u v : Nat} (H1 : tlen f n = u + 1) (H2 : tlen h m = v + 1) (hf : ∀ i, i < n → f i < 256) (hh : ∀ i, i < m → h i < 256) : tlen (pm (zx f n) (zx h m)) (u + 1 + (v + 1)) = u + v + 1 := by
  have e : ∀ i, pm (zx f n) (zx h m) i = pm (zx f (u + 1)) (zx h (v + 1)) i := fun i => pm_congr (fun i => by rw [← H1, zx_tlen]) (fun i => by rw [← H2, zx_tlen]) i
  have a1 := zx_above f (u + 1)
  have a2 := zx_above h (v + 1)
  have un : u < n := by have := tlen_le f n; omega
  have vm : v < m := by have := tlen_le h m; omega
  have f0 : f u ≠ 0 := by have := tlen_top f n (by omega); rw [H1] at this; exact this
  have h0 : h v ≠ 0 := by have := tlen_top h m (by omega); rw [H2] at this; exact this
  have top : pm (zx f n) (zx h m) (u + v) ≠ 0 := by
    rw [e, pm_top a1 a2]
    unfold zx
    rw [if_pos (by omega), if_pos (by omega)]
    intro hz
    rcases (fm_eq_zero _ _ (hf u un) (hh v vm)).1 hz with h' | h'
    · exact f0 h'
    · exact h0 h'
  have ab : Above (u + v + 1) (pm (zx f n) (zx h m)) := fun i hi => by rw [e]; exact pm_above a1 a2 i (by omega)
  rw [tlen_ext ab (by omega), tlen_of_top _ _ top]
theorem mul_len0 {f h : Nat → Nat} {n m t : Nat} (H : tlen f n = 0 ∨ tlen h m = 0) : tlen (pm (zx f n) (zx h m)) t = 0 := by
  have z : ∀ i, pm (zx f n) (zx h m) i = 0 := fun i => by
    rcases H with H | H
    · exact xs_zero (fun k _ => by rw [← zx_tlen f n, H, show zx f 0 k = 0 from if_neg (by omega)]; exact zero_fm _)
    · exact xs_zero (fun k _ => by rw [← zx_tlen h m, H, show zx h 0 (i - k) = 0 from if_neg (by omega)]; exact fm_zero _)
  have := tlen_ext (f := pm (zx f n) (zx h m)) (n := 0) (m := t) (fun i _ => z i) (by omega)
  rw [this]; rfl
set_option maxRecDepth 20000 in
set_option maxHeartbeats 2000000 in
theorem pmul_pos (w : World) (a b : Option Addr) (n m c d u v : Nat) (f h : Nat → Nat) (ha : Lk w a n c f) (hb : Lk w b m d h) (H1 : Hid (tlen f n = u + 1)) (H2 : Hid (tlen h m = v + 1)) (hs : u + v + 1 ≤ 512) :
    Calls Try.prog 9 #[.slice a n c, .slice b m d] w fun e w' => ∃ s k, e = .returned (.tuple #[.slice s (u + v + 1) k, .int .i64 0]) ∧ Ow w' w.heap.size s (u + v + 1) k (pm (zx f n) (zx h m)) ∧ Below w.heap.size w w' := by
  obtain ⟨i0, hi, hz0, hz1, hz2⟩ := info_parts info8
  have t1n : u + 1 ≤ n := by rw [← H1.out]; exact tlen_le _ _
  have t2m : v + 1 ≤ m := by rw [← H2.out]; exact tlen_le _ _
  have HA : Hid (Lk w a n c f) := ha
  have HB : Hid (Lk w b m d h) := hb
  have HA1 : Hid (Sl w a (u + 1) f) := (ha.cut t1n).1
  have HB1 : Hid (Sl w b (v + 1) h) := (hb.cut t2m).1
  have W1 : Hid (∀ i, i < u + 1 → f i < 256) := fun i hi => ha.1.1 i (by omega)
  have hml : u + v + 1 ≤ maxLen := by unfold maxLen; omega
  have HE : Hid (∀ i, ms f h (v + 1) (u + 1) i = pm (zx f n) (zx h m) i) := fun i => by
    rw [ms_pm]
    exact pm_congr (fun i => by rw [← H1.out, zx_tlen]) (fun i => by rw [← H2.out, zx_tlen]) i
  clear ha hb
  obtain ⟨P, HP⟩ : ∃ P, Hid (pm (zx f n) (zx h m) = P) := ⟨_, rfl⟩
  rw [HP.out] at HE
  rw [HP.out]
  have g1 : ((u : Int) + 1 == 0) = false := by simp; omega
  have g2 : ((v : Int) + 1 == 0) = false := by simp; omega
  have g3 : ((u : Int) + 1 + ((v : Int) + 1) - 1) = ((u + v + 1 : Nat) : Int) := by omega
  go_enter Try.func9, Try.ntmps9
  go_wp2_with (first
    | (go_at_call 25; have _x := m1; refine (trimmed_any _ _ _ _ (v + 1) h HB.out H2).mono ?_; rintro e w' ⟨rfl, rfl⟩)
    | (go_at_call 25; refine (trimmed_any _ _ _ _ (u + 1) f HA.out H1).mono ?_; rintro e w' ⟨rfl, rfl⟩; have m1 := g1)
    | (go_at_call 26; refine (toolong_no _ _ _ _ _ _ _ _ (lit_cell _ _ _ 0 _ rfl) (lit_cell _ _ _ 1 _ rfl) (by omega) (by omega)).mono ?_; rintro e w' ⟨rfl, rfl⟩)
    | (at_make; refine wpList_make_full _ rfl _ _ 22 rfl (w.heap.size + 1) 5 i0 (.int .u8 0) 1 Try.underlying22 hi hz0 hz1 .i64 .i64 _ _ (u + v + 1) rfl rfl rfl rfl (by rw [hz2]; omega) hml (by simp) ?_; intro w1 hown hgrow; have HR : Hid (RowAt w1 (w.heap.size + 1) 5 (u + v + 1) (fun _ => 0)) := by { show RowAt _ _ _ _ _; have := made_at hown; simpa using this }; have HB0 : Hid (Below w.heap.size w w1) := two_below (alloc_below _ _) (grown_none.mp hgrow); clear hown hgrow))
  go_loopw [38] (fun i wr => ∃ k : Nat, k ≤ u + 1 ∧ i = .int .i64 (k : Int) ∧ Ow wr w.heap.size (some ⟨w.heap.size + 1, 0, none⟩) (u + v + 1) (u + v + 1) (ms f h (v + 1) k) ∧ Below w.heap.size w wr) (fun i _ => u + 1 - (intOf i).toNat)
  case atStart => exact ⟨0, by omega, rfl, HR.out.ow (by omega) (by omega), HB0.out⟩
  case round =>
    clear HR HB0
    obtain ⟨k, hk, rfl, ho, hbr⟩ := hrel
    by_cases hlt : k < u + 1
    · obtain ⟨ba, oa, ea, hca⟩ := (HA1.out.later hbr).2 k hlt
      obtain ⟨x, HX⟩ : ∃ x, Hid (f k = x) := ⟨_, rfl⟩
      rw [HX.out] at hca
      have hx : x < 256 := by rw [← HX.out]; exact W1.out k hlt
      have HOr : Hid (Ow wr w.heap.size (some ⟨w.heap.size + 1, 0, none⟩) (u + v + 1) (u + v + 1) (ms f h (v + 1) k)) := ho
      have HBr : Hid (Below w.heap.size w wr) := hbr
      have e1 : IntKind.i64.wrap ((k : Int) + ((v : Int) + 1)) = ((k + (v + 1) : Nat) : Int) := by rw [IntKind.wrap_i64]; omega
      clear ho hbr
      subst ea
      go_wp2_with (go_at_call 27; refine (addm_own _ w.heap.size (w.heap.size + 1) k (v + 1) (u + v + 1) (u + v + 1) _ x _ b _ h hx HOr.out (by omega) (fun i _ => ms_lt h W1.out (by omega) i) (HB1.out.later HBr.out) (by omega)).mono ?_; rintro e w3 ⟨rfl, ho3, hg3⟩; have HO3 : Hid (Ow w3 w.heap.size (some ⟨w.heap.size + 1, 0, none⟩) (u + v + 1) (u + v + 1) (rs (ms f h (v + 1) k) h x k (v + 1))) := ho3; have HB3 : Hid (Below w.heap.size w w3) := below_row HBr.out hg3 (by omega); clear ho3 hg3)
      exact ⟨⟨k + 1, by omega, by go_num, HO3.out.cong (fun i _ => by rw [← HX.out, ms_step]), HB3.out⟩, by simp [intOf]; omega⟩
    · obtain rfl : k = u + 1 := by omega
      go_wp2
      go_ret2
      exact ⟨_, _, rfl, ho.cong (fun i _ => HE.out i), hbr⟩
set_option maxRecDepth 20000 in
set_option maxHeartbeats 400000 in
theorem pmul_long (w : World) (a b : Option Addr) (n m c d t1 t2 : Nat) (f h : Nat → Nat) (ha : Lk w a n c f) (hb : Lk w b m d h) (H1 : Hid (tlen f n = t1)) (H2 : Hid (tlen h m = t2)) (hl : 512 < t1 ∨ 512 < t2) :
    Calls Try.prog 9 #[.slice a n c, .slice b m d] w fun e w' => e = .returned (.tuple #[.slice none 0 0, .int .i64 4]) ∧ Below w.heap.size w w' := by
  have HA : Hid (Lk w a n c f) := ha
  have HB : Hid (Lk w b m d h) := hb
  have HLL : Hid (512 < t1 ∨ 512 < t2) := hl
  clear ha hb hl
  go_enter Try.func9, Try.ntmps9
  go_wp2_with (first
    | (go_at_call 25; have _x := m1; refine (trimmed_any _ _ _ _ t2 h HB.out H2).mono ?_; rintro e w' ⟨rfl, rfl⟩)
    | (go_at_call 25; refine (trimmed_any _ _ _ _ t1 f HA.out H1).mono ?_; rintro e w' ⟨rfl, rfl⟩; have m1 := HLL)
    | (go_at_call 26; refine (toolong_yes _ _ _ _ _ _ _ _ (lit_cell _ _ _ 0 _ rfl) (lit_cell _ _ _ 1 _ rfl) HLL.out).mono ?_; rintro e w' ⟨rfl, rfl⟩))
  go_ret2
  exact ⟨rfl, alloc_below _ _⟩
set_option maxRecDepth 20000 in
set_option maxHeartbeats 400000 in
theorem pmul_over (w : World) (a b : Option Addr) (n m c d u v : Nat) (f h : Nat → Nat) (ha : Lk w a n c f) (hb : Lk w b m d h) (H1 : Hid (tlen f n = u + 1)) (H2 : Hid (tlen h m = v + 1)) (hl1 : u + 1 ≤ 512) (hl2 : v + 1 ≤ 512) (hs : 512 < u + v + 1) :
    Calls Try.prog 9 #[.slice a n c, .slice b m d] w fun e w' => e = .returned (.tuple #[.slice none 0 0, .int .i64 4]) ∧ Below w.heap.size w w' := by
  have HA : Hid (Lk w a n c f) := ha
  have HB : Hid (Lk w b m d h) := hb
  clear ha hb
  have g1 : ((u : Int) + 1 == 0) = false := by simp; omega
  have g2 : ((v : Int) + 1 == 0) = false := by simp; omega
  have g3 : ((u : Int) + 1 + ((v : Int) + 1) - 1) = ((u + v + 1 : Nat) : Int) := by omega
  go_enter Try.func9, Try.ntmps9
  go_wp2_with (first
    | (go_at_call 25; have _x := m1; refine (trimmed_any _ _ _ _ (v + 1) h HB.out H2).mono ?_; rintro e w' ⟨rfl, rfl⟩)
    | (go_at_call 25; refine (trimmed_any _ _ _ _ (u + 1) f HA.out H1).mono ?_; rintro e w' ⟨rfl, rfl⟩; have m1 := g1)
    | (go_at_call 26; refine (toolong_no _ _ _ _ _ _ _ _ (lit_cell _ _ _ 0 _ rfl) (lit_cell _ _ _ 1 _ rfl) (by omega) (by omega)).mono ?_; rintro e w' ⟨rfl, rfl⟩))
  go_ret2
  exact ⟨rfl, alloc_below _ _⟩
set_option maxRecDepth 20000 in
set_option maxHeartbeats 400000 in
theorem pmul_zero (w : World) (a b : Option Addr) (n m c d t1 t2 : Nat) (f h : Nat → Nat) (ha : Lk w a n c f) (hb : Lk w b m d h) (H1 : Hid (tlen f n = t1)) (H2 : Hid (tlen h m = t2)) (hl1 : t1 ≤ 512) (hl2 : t2 ≤ 512) (hz : t1 = 0 ∨ t2 = 0) :
    Calls Try.prog 9 #[.slice a n c, .slice b m d] w fun e w' => e = .returned (.tuple #[.slice none 0 0, .int .i64 0]) ∧ Below w.heap.size w w' := by
  have HA : Hid (Lk w a n c f) := ha
  have HB : Hid (Lk w b m d h) := hb
  clear ha hb
  by_cases h0 : t1 = 0
  · subst h0
    go_enter Try.func9, Try.ntmps9
    go_wp2_with (first
      | (go_at_call 25; have _x := m1; refine (trimmed_any _ _ _ _ t2 h HB.out H2).mono ?_; rintro e w' ⟨rfl, rfl⟩)
      | (go_at_call 25; refine (trimmed_any _ _ _ _ 0 f HA.out H1).mono ?_; rintro e w' ⟨rfl, rfl⟩; have m1 := hl1)
      | (go_at_call 26; refine (toolong_no _ _ _ _ _ _ _ _ (lit_cell _ _ _ 0 _ rfl) (lit_cell _ _ _ 1 _ rfl) (by omega) (by omega)).mono ?_; rintro e w' ⟨rfl, rfl⟩))
    go_ret2
    exact ⟨rfl, alloc_below _ _⟩
  · obtain rfl : t2 = 0 := by omega
    have g1 : ((t1 : Int) == 0) = false := by simp; omega
    go_enter Try.func9, Try.ntmps9
    go_wp2_with (first
      | (go_at_call 25; have _x := m1; refine (trimmed_any _ _ _ _ 0 h HB.out H2).mono ?_; rintro e w' ⟨rfl, rfl⟩)
      | (go_at_call 25; refine (trimmed_any _ _ _ _ t1 f HA.out H1).mono ?_; rintro e w' ⟨rfl, rfl⟩; have m1 := hl1)
      | (go_at_call 26; refine (toolong_no _ _ _ _ _ _ _ _ (lit_cell _ _ _ 0 _ rfl) (lit_cell _ _ _ 1 _ rfl) (by omega) (by omega)).mono ?_; rintro e w' ⟨rfl, rfl⟩))
    go_ret2
    exact ⟨rfl, alloc_below _ _⟩
/-- Mul in the reference's words. -/
theorem pmul_any (w : World) (a b : Option Addr) (n m c d t1 t2 T : Nat) (f h : Nat → Nat) (ha : Lk w a n c f) (hb : Lk w b m d h) (H1 : Hid (tlen f n = t1)) (H2 : Hid (tlen h m = t2)) (hl1 : t1 ≤ 512) (hl2 : t2 ≤ 512) (hsum : t1 = 0 ∨ t2 = 0 ∨ t1 + t2 ≤ 513) (HT : Hid (tlen (pm (zx f n) (zx h m)) (t1 + t2) = T)) :
    Calls Try.prog 9 #[.slice a n c, .slice b m d] w fun e w' => ∃ s k, e = .returned (.tuple #[.slice s T k, .int .i64 0]) ∧ Ow w' w.heap.size s T k (pm (zx f n) (zx h m)) ∧ Below w.heap.size w w' := by
  by_cases hz : t1 = 0 ∨ t2 = 0
  · have : T = 0 := by rw [← HT.out]; exact mul_len0 (by rw [H1.out, H2.out]; exact hz)
    subst this
    exact (pmul_zero w a b n m c d t1 t2 f h ha hb H1 H2 hl1 hl2 hz).mono fun _ _ ⟨he, hb⟩ => ⟨none, 0, he, Ow.nil _ _ _, hb⟩
  · obtain ⟨u, rfl⟩ : ∃ u, t1 = u + 1 := ⟨t1 - 1, by omega⟩
    obtain ⟨v, rfl⟩ : ∃ v, t2 = v + 1 := ⟨t2 - 1, by omega⟩
    have : T = u + v + 1 := by rw [← HT.out]; exact mul_len H1.out H2.out ha.1.1 hb.1.1
    subst this
    exact pmul_pos w a b n m c d u v f h ha hb H1 H2 (by omega)
theorem pmul_bad (w : World) (a b : Option Addr) (n m c d t1 t2 : Nat) (f h : Nat → Nat) (ha : Lk w a n c f) (hb : Lk w b m d h) (H1 : Hid (tlen f n = t1)) (H2 : Hid (tlen h m = t2)) (hl : 512 < t1 ∨ 512 < t2 ∨ (0 < t1 ∧ 0 < t2 ∧ 513 < t1 + t2)) :
    Calls Try.prog 9 #[.slice a n c, .slice b m d] w fun e w' => e = .returned (.tuple #[.slice none 0 0, .int .i64 4]) ∧ Below w.heap.size w w' := by
  by_cases h1 : 512 < t1 ∨ 512 < t2
  · exact pmul_long w a b n m c d t1 t2 f h ha hb H1 H2 h1
  · obtain ⟨u, rfl⟩ : ∃ u, t1 = u + 1 := ⟨t1 - 1, by omega⟩
    obtain ⟨v, rfl⟩ : ∃ v, t2 = v + 1 := ⟨t2 - 1, by omega⟩
    exact pmul_over w a b n m c d u v f h ha hb H1 H2 (by omega) (by omega) (by omega)
theorem lk_of_row (w : World) (a : Option Addr) (len cap : Nat) (zs : List Int)
    (h : (a = none ∧ len = 0 ∧ cap = 0 ∧ zs = []) ∨ ∃ x, a = some x ∧ len ≤ cap ∧ cap ≤ 140737488351232 ∧ zs.length = cap ∧ (∀ i, i < zs.length → w.cell? (x.add i) = some (.int .u8 (zs.getD i 0))) ∧ ∀ n ∈ zs, (Lit.int .u8 n).wf = true) :
    ∃ f : Nat → Nat, Lk w a len cap f := by
  obtain ⟨f, hs, hn, h0⟩ := sl_of_row w a len cap zs h
  refine ⟨f, hs, ?_, h0, hn⟩
  rcases h with ⟨_, rfl, rfl, _⟩ | ⟨x, _, hl, _⟩
  · exact Nat.le_refl _
  · exact hl
/-! In the laws' words. -/
theorem ptrim_lk (w : World) (a : Option Addr) (n c t : Nat) (f : Nat → Nat) (h : Lk w a n c f) (HT : Hid (tlen f n = t)) :
    Calls Try.prog 15 #[.slice a n c] w fun e w' => ∃ s k, e = .returned (.slice s t k) ∧ Ow w' w.heap.size s t k f ∧ Below w.heap.size w w' :=
  (ptrim_any w a n c t f h HT).mono fun _ _ ⟨he, hr, hb⟩ => ⟨_, _, he, hr.ow (Nat.le_refl _) (by have := tlen_le f n; have := HT.out; have := h.2.2.2; omega), hb⟩
theorem eval_at (w : World) (a : Option Addr) (n c x y : Nat) (f : Nat → Nat) (h : Sl w a n f) (hn : n ≤ 140737488351232) (hx : x < 256) (HY : Hid (ev f n x = y)) :
    Calls Try.prog 10 #[.slice a n c, .int .u8 (x : Int)] w fun e w' => e = .returned (.int .u8 (y : Int)) ∧ Below w.heap.size w w' :=
  (eval_any w a n c x f h hn hx).mono fun _ _ ⟨he, m, hm⟩ => ⟨by rw [← HY.out]; exact he, by rw [hm]; exact below_drewN (Below.refl _ _) m⟩
theorem rpmul_lk (w : World) (a b : Option Addr) (n m c d t1 t2 T : Nat) (f h : Nat → Nat) (ha : Lk w a n c f) (hb : Lk w b m d h) (H1 : Hid (tlen f n = t1)) (H2 : Hid (tlen h m = t2)) (hl1 : t1 ≤ 512) (hl2 : t2 ≤ 512) (hsum : t1 = 0 ∨ t2 = 0 ∨ t1 + t2 ≤ 513) (HT : Hid (tlen (pm (zx f n) (zx h m)) (t1 + t2) = T)) :
    Calls Try.prog 23 #[.slice a n c, .slice b m d] w fun e w' => ∃ s k, e = .returned (.tuple #[.slice s T k, .int .i64 0]) ∧ Sl w' s T (pm (zx f n) (zx h m)) ∧ Below w.heap.size w w' := by
  have := rpmul_any w a b n m c d t1 t2 f h ha hb H1 H2 hl1 hl2 hsum
  rw [HT.out] at this
  exact this.mono fun _ _ ⟨s, k, he, hl, hb, _⟩ => ⟨s, k, he, hl.1, hb⟩
theorem pa_lt {f h : Nat → Nat} {n m : Nat} (hf : ∀ i, i < n → f i < 256) (hh : ∀ i, i < m → h i < 256) (i : Nat) : pa (zx f n) (zx h m) i < 256 := pa_el (zx_el hf) (zx_el hh) i
theorem pm_lt {f : Nat → Nat} {n : Nat} (q : Nat → Nat) (hf : ∀ i, i < n → f i < 256) (i : Nat) : pm (zx f n) q i < 256 := pm_el _ (zx_el hf) i
end Go.Proofs.Ythpjedoolbfjfab
