/-
  Contracts of the program's polynomials: Add, Mul.
-/
import Derived.Test.YthpjedoolbfjfabQc
namespace Go.Proofs.Ythpjedoolbfjfab
open Go.RowKit
theorem sum_core {f h : Nat → Nat} {n m t1 t2 : Nat} (H1 : tlen f n = t1) (H2 : tlen h m = t2) (hh : ∀ i, i < m → h i < 256) (i : Nat) (hi : i < t1) : rs f h 1 0 t2 i = pa (zx f n) (zx h m) i := by
  unfold rs pa
  rw [← zx_tlen f n, ← zx_tlen h m, H1, H2]
  unfold zx
  have := tlen_le f n
  have := tlen_le h m
  rw [if_pos hi]
  by_cases e : i < t2
  · rw [if_pos (by omega), if_pos e, Nat.sub_zero, one_fm _ (hh i (by omega))]
  · rw [if_neg (by omega), if_neg e, Nat.xor_zero]
theorem sum_above {f h : Nat → Nat} {n m t1 t2 : Nat} (H1 : tlen f n = t1) (H2 : tlen h m = t2) (hle : t2 ≤ t1) : Above t1 (pa (zx f n) (zx h m)) := fun i hi => by
  unfold pa
  rw [← zx_tlen f n, ← zx_tlen h m, H1, H2]
  unfold zx
  rw [if_neg (by omega), if_neg (by omega)]; rfl
theorem sum_len {f h : Nat → Nat} {n m t1 t2 T : Nat} (H1 : tlen f n = t1) (H2 : tlen h m = t2) (hh : ∀ i, i < m → h i < 256) (hle : t2 ≤ t1) (hl : t1 ≤ 512) (HT : tlen (pa (zx f n) (zx h m)) 512 = T) : tlen (rs f h 1 0 t2) t1 = T := by
  rw [tlen_congr (sum_core H1 H2 hh), ← HT, tlen_ext (sum_above H1 H2 hle) hl]
theorem pa_swap (p q : Nat → Nat) : pa p q = pa q p := funext fun _ => Nat.xor_comm _ _
theorem addm_one (w : World) (B g n N cp cd cs : Nat) (b : Option Addr) (F h : Nat → Nat) (ho : Ow w B (some ⟨g, 0, none⟩) N cp F) (hfit : n ≤ N) (hF : ∀ i, i < N → F i < 256) (hb : Sl w b n h) (hN : N ≤ 140737488351232) :
    Calls Try.prog 27 #[.slice (some ⟨g, 0, none⟩) n cd, .int .u8 1, .slice b n cs] w fun e w' => e = .returned (.tuple #[]) ∧ Ow w' B (some ⟨g, 0, none⟩) N cp (rs F h 1 0 n) ∧ w.grownBy w' (some g) :=
  addm_own w B g 0 n N cp cd 1 cs b F h (by decide) ho (by omega) hF hb hN
set_option maxRecDepth 20000 in
set_option maxHeartbeats 1000000 in
theorem padd_any (w : World) (a b : Option Addr) (n m c d t1 t2 T : Nat) (f h : Nat → Nat) (ha : Lk w a n c f) (hb : Lk w b m d h) (H1 : Hid (tlen f n = t1)) (H2 : Hid (tlen h m = t2)) (hl1 : t1 ≤ 512) (hl2 : t2 ≤ 512) (HT : Hid (tlen (pa (zx f n) (zx h m)) 512 = T)) :
    Calls Try.prog 8 #[.slice a n c, .slice b m d] w fun e w' => ∃ s k, e = .returned (.tuple #[.slice s T k, .int .i64 0]) ∧ Ow w' w.heap.size s T k (pa (zx f n) (zx h m)) ∧ Below w.heap.size w w' := by
  have t1n : t1 ≤ n := by rw [← H1.out]; exact tlen_le _ _
  have t2m : t2 ≤ m := by rw [← H2.out]; exact tlen_le _ _
  have HA : Hid (Lk w a n c f) := ha
  have HB : Hid (Lk w b m d h) := hb
  have HA1 : Hid (Lk w a t1 c f) := ha.cut t1n
  have HB1 : Hid (Lk w b t2 d h) := hb.cut t2m
  have I1 : Hid (tlen f t1 = t1) := by show _ = _; rw [← H1.out, tlen_idem]
  have I2 : Hid (tlen h t2 = t2) := by show _ = _; rw [← H2.out, tlen_idem]
  have HV1 : Hid (∀ i, i < n → f i < 256) := ha.1.1
  have HV2 : Hid (∀ i, i < m → h i < 256) := hb.1.1
  have W1 : Hid (∀ i, i < t1 → f i < 256) := fun i hi => ha.1.1 i (by omega)
  have W2 : Hid (∀ i, i < t2 → h i < 256) := fun i hi => hb.1.1 i (by omega)
  clear ha hb
  obtain ⟨P, HP⟩ : ∃ P, Hid (pa (zx f n) (zx h m) = P) := ⟨_, rfl⟩
  by_cases hlt : t1 < t2
  · have S1 : Hid (∀ i, i < t2 → rs h f 1 0 t1 i = P i) := fun i hi => by rw [← HP.out, pa_swap]; exact sum_core H2.out H1.out HV1.out i hi
    have S2 : Hid (tlen (rs h f 1 0 t1) t2 = T) := sum_len H2.out H1.out HV1.out (by omega) hl2 (by rw [pa_swap]; exact HT.out)
    rw [HP.out]
    clear HT
    have hTt : T ≤ t2 := by rw [← S2.out]; exact tlen_le _ _
    have W3 : Hid (∀ i, i < t2 → rs h f 1 0 t1 i < 256) := rs_lt W2.out (by decide)
    go_enter Try.func8, Try.ntmps8
    go_wp2_with (first
      | (go_at_call 25; have _x := HO3; refine (trimmed_any _ _ _ _ T _ (HO3.out.lk W3.out (by omega)) S2).mono ?_; rintro e w' ⟨rfl, rfl⟩)
      | (go_at_call 25; have _x := m1; refine (trimmed_any _ _ _ _ t2 h HB.out H2).mono ?_; rintro e w' ⟨rfl, rfl⟩)
      | (go_at_call 25; refine (trimmed_any _ _ _ _ t1 f HA.out H1).mono ?_; rintro e w' ⟨rfl, rfl⟩; have m1 := hlt)
      | (go_at_call 26; refine (toolong_no _ _ _ _ _ _ _ _ (lit_cell _ _ _ 0 _ rfl) (lit_cell _ _ _ 1 _ rfl) hl1 hl2).mono ?_; rintro e w' ⟨rfl, rfl⟩)
      | (go_at_call 15; refine (ptrim_any _ _ _ _ t2 h (HB1.out.later (alloc_below _ _)) I2).mono ?_; rintro e w2 ⟨rfl, hr2, hb2⟩; have HR2 : Hid (RowAt w2 (w.heap.size + 1) 5 t2 h) := by { show RowAt _ _ _ _ _; have := hr2; simpa using this }; have HB2 : Hid (Below w.heap.size w w2) := two_below (alloc_below _ _) hb2; clear hr2 hb2)
      | (go_at_call 27; refine (addm_one _ w.heap.size (w.heap.size + 1) t1 t2 t2 _ _ a h f (HR2.out.ow (by omega) (by omega)) (by omega) W2.out (HA1.out.1.later HB2.out) (by omega)).mono ?_; rintro e w3 ⟨rfl, ho3, hg3⟩; have HO3 : Hid (Ow w3 w.heap.size (some ⟨w.heap.size + 1, 0, none⟩) t2 t2 (rs h f 1 0 t1)) := ho3; have HB3 : Hid (Below w.heap.size w w3) := below_row HB2.out hg3 (by omega); clear ho3 hg3))
    go_ret2
    exact ⟨_, _, rfl, (HO3.out.cong S1.out).cut hTt, HB3.out⟩
  · have S1 : Hid (∀ i, i < t1 → rs f h 1 0 t2 i = P i) := fun i hi => by rw [← HP.out]; exact sum_core H1.out H2.out HV2.out i hi
    have S2 : Hid (tlen (rs f h 1 0 t2) t1 = T) := sum_len H1.out H2.out HV2.out (by omega) hl1 HT.out
    rw [HP.out]
    clear HT
    have hTt : T ≤ t1 := by rw [← S2.out]; exact tlen_le _ _
    have W3 : Hid (∀ i, i < t1 → rs f h 1 0 t2 i < 256) := rs_lt W1.out (by decide)
    go_enter Try.func8, Try.ntmps8
    go_wp2_with (first
      | (go_at_call 25; have _x := HO3; refine (trimmed_any _ _ _ _ T _ (HO3.out.lk W3.out (by omega)) S2).mono ?_; rintro e w' ⟨rfl, rfl⟩)
      | (go_at_call 25; have _x := m1; refine (trimmed_any _ _ _ _ t2 h HB.out H2).mono ?_; rintro e w' ⟨rfl, rfl⟩)
      | (go_at_call 25; refine (trimmed_any _ _ _ _ t1 f HA.out H1).mono ?_; rintro e w' ⟨rfl, rfl⟩; have m1 := hlt)
      | (go_at_call 26; refine (toolong_no _ _ _ _ _ _ _ _ (lit_cell _ _ _ 0 _ rfl) (lit_cell _ _ _ 1 _ rfl) hl1 hl2).mono ?_; rintro e w' ⟨rfl, rfl⟩)
      | (go_at_call 15; refine (ptrim_any _ _ _ _ t1 f (HA1.out.later (alloc_below _ _)) I1).mono ?_; rintro e w2 ⟨rfl, hr2, hb2⟩; have HR2 : Hid (RowAt w2 (w.heap.size + 1) 5 t1 f) := by { show RowAt _ _ _ _ _; have := hr2; simpa using this }; have HB2 : Hid (Below w.heap.size w w2) := two_below (alloc_below _ _) hb2; clear hr2 hb2)
      | (go_at_call 27; refine (addm_one _ w.heap.size (w.heap.size + 1) t2 t1 t1 _ _ b f h (HR2.out.ow (by omega) (by omega)) (by omega) W1.out (HB1.out.1.later HB2.out) (by omega)).mono ?_; rintro e w3 ⟨rfl, ho3, hg3⟩; have HO3 : Hid (Ow w3 w.heap.size (some ⟨w.heap.size + 1, 0, none⟩) t1 t1 (rs f h 1 0 t2)) := ho3; have HB3 : Hid (Below w.heap.size w w3) := below_row HB2.out hg3 (by omega); clear ho3 hg3))
    go_ret2
    exact ⟨_, _, rfl, (HO3.out.cong S1.out).cut hTt, HB3.out⟩
set_option maxRecDepth 20000 in
set_option maxHeartbeats 400000 in
theorem padd_long (w : World) (a b : Option Addr) (n m c d t1 t2 : Nat) (f h : Nat → Nat) (ha : Lk w a n c f) (hb : Lk w b m d h) (H1 : Hid (tlen f n = t1)) (H2 : Hid (tlen h m = t2)) (hl : 512 < t1 ∨ 512 < t2) :
    Calls Try.prog 8 #[.slice a n c, .slice b m d] w fun e w' => e = .returned (.tuple #[.slice none 0 0, .int .i64 4]) ∧ Below w.heap.size w w' := by
  have HA : Hid (Lk w a n c f) := ha
  have HB : Hid (Lk w b m d h) := hb
  have HLL : Hid (512 < t1 ∨ 512 < t2) := hl
  clear ha hb hl
  go_enter Try.func8, Try.ntmps8
  go_wp2_with (first
    | (go_at_call 25; have _x := m1; refine (trimmed_any _ _ _ _ t2 h HB.out H2).mono ?_; rintro e w' ⟨rfl, rfl⟩)
    | (go_at_call 25; refine (trimmed_any _ _ _ _ t1 f HA.out H1).mono ?_; rintro e w' ⟨rfl, rfl⟩; have m1 := HLL)
    | (go_at_call 26; refine (toolong_yes _ _ _ _ _ _ _ _ (lit_cell _ _ _ 0 _ rfl) (lit_cell _ _ _ 1 _ rfl) HLL.out).mono ?_; rintro e w' ⟨rfl, rfl⟩))
  go_ret2
  exact ⟨rfl, alloc_below _ _⟩
end Go.Proofs.Ythpjedoolbfjfab
