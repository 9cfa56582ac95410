/-
  Contracts of the program's polynomials: DivMod's other ways.
-/
import Derived.Test.YthpjedoolbfjfabQg
namespace Go.Proofs.Ythpjedoolbfjfab
open Go.RowKit
set_option maxRecDepth 20000 in
set_option maxHeartbeats 1000000 in
theorem pdivmod_lt (w : World) (a b : Option Addr) (n m c d t1 u : Nat) (f h : Nat → Nat) (ha : Lk w a n c f) (hb : Lk w b m d h) (H1 : Hid (tlen f n = t1)) (H2 : Hid (tlen h m = u + 1)) (hl2 : u + 1 ≤ 512) (hlt : t1 < u + 1) :
    Calls Try.prog 13 #[.slice a n c, .slice b m d] w fun ee w' => ∃ Q R r nq s1 k1 s2 k2, ee = .returned (.tuple #[.slice s1 nq k1, .slice s2 r k2, .int .i64 0]) ∧ PDiv w w' (zx f n) (zx h m) Q R (u + 1) r nq k1 k2 s1 s2 := by
  have t1n : t1 ≤ n := by rw [← H1.out]; exact tlen_le _ _
  have t2m : u + 1 ≤ m := by rw [← H2.out]; exact tlen_le _ _
  have HA : Hid (Lk w a n c f) := ha
  have HB : Hid (Lk w b m d h) := hb
  have HA1 : Hid (Lk w a t1 c f) := ha.cut t1n
  have HB1 : Hid (Sl w b (u + 1) h) := (hb.cut t2m).1
  have I1 : Hid (tlen f t1 = t1) := by show _ = _; rw [← H1.out, tlen_idem]
  have HPf : Hid (∀ i, i < n → f i < 256) := ha.1.1
  obtain ⟨y, HY⟩ : ∃ y, Hid (h u = y) := ⟨_, rfl⟩
  have hy0 : Hid (y ≠ 0) := by
    have := tlen_top h m (by rw [H2.out]; omega)
    rw [H2.out] at this
    rw [← HY.out]; exact this
  obtain ⟨iy, HIY⟩ : ∃ iy, Hid (finv y = iy) := ⟨_, rfl⟩
  have g2' : ((u : Int) + 1 == 0) = false := by simp; omega
  have g4 : decide ((u : Int) + 1 ≤ (t1 : Int)) = false := by simp; omega
  have g5 : decide (u + 1 ≤ t1) = false := by simp; omega
  clear ha hb
  go_enter Try.func13, Try.ntmps13
  go_wp2_with (first
    | (go_at_call 25; have _x := m1; refine (trimmed_any _ _ _ _ (u + 1) h HB.out H2).mono ?_; rintro e w' ⟨rfl, rfl⟩)
    | (go_at_call 25; refine (trimmed_any _ _ _ _ t1 f HA.out H1).mono ?_; rintro e w' ⟨rfl, rfl⟩; have m1 := g4)
    | (go_at_call 26; refine (toolong_no _ _ _ _ _ _ _ _ (lit_cell _ _ _ 0 _ rfl) (lit_cell _ _ _ 1 _ rfl) (by omega) (by omega)).mono ?_; rintro e w' ⟨rfl, rfl⟩)
    | (go_at_call 15; refine (ptrim_any _ _ _ _ t1 f (HA1.out.later (alloc_below _ _)) I1).mono ?_; rintro e w2 ⟨rfl, hr2, hb2⟩; have HR2 : Hid (RowAt w2 (w.heap.size + 1) 5 t1 f) := by { show RowAt _ _ _ _ _; have := hr2; simpa using this }; have HB2 : Hid (Below w.heap.size w w2) := two_below (alloc_below _ _) hb2; clear hr2 hb2)
    | (go_at_call 30; refine (stepby_any _ _ u _ y iy h (HB1.out.later HB2.out) (by omega) HY hy0 HIY).mono ?_; rintro e w4 ⟨g1, g2, rfl, hk4, l1, l2, hb4⟩; have HB4 : Hid (Below w2.heap.size w2 w4) := hb4; clear hk4 hb4))
  go_loopw [5] (fun v wr => v = .slice (some ⟨w.heap.size + 1, 0, none⟩) t1 t1 ∧ wr = w4) (fun _ _ => 0)
  case atStart => exact ⟨rfl, rfl⟩
  case round =>
    obtain ⟨rfl, rfl⟩ := hrel
    go_wp2
    go_ret3
    refine ⟨fun _ => 0, f, t1, 0, none, 0, _, _, rfl, Ow.nil _ _ _, (HR2.out.later HB4.out).ow (by omega) (by omega), fun g hg => by simp [Value.ownBlock] at hg, ⟨fun _ => (by decide : 0 < 256), fun _ _ => rfl, I1.out, hlt, fun i hi => HPf.out i (by omega), fun i => ?_⟩, rfl, fun _ _ => rfl, two_below HB2.out HB4.out⟩
    show zx f n i = pm (fun _ => 0) _ i ^^^ zx f t1 i
    rw [show pm (fun _ => 0) (zx h m) i = 0 from xs_zero (fun _ _ => zero_fm _), Nat.zero_xor, ← H1.out, zx_tlen]
theorem pdivmod_any (w : World) (a b : Option Addr) (n m c d t1 u : Nat) (f h : Nat → Nat) (ha : Lk w a n c f) (hb : Lk w b m d h) (H1 : Hid (tlen f n = t1)) (H2 : Hid (tlen h m = u + 1)) (hl1 : t1 ≤ 512) (hl2 : u + 1 ≤ 512) :
    Calls Try.prog 13 #[.slice a n c, .slice b m d] w fun ee w' => ∃ Q R r nq s1 k1 s2 k2, ee = .returned (.tuple #[.slice s1 nq k1, .slice s2 r k2, .int .i64 0]) ∧ PDiv w w' (zx f n) (zx h m) Q R (u + 1) r nq k1 k2 s1 s2 := by
  by_cases hlt : t1 < u + 1
  · exact pdivmod_lt w a b n m c d t1 u f h ha hb H1 H2 hl2 hlt
  · obtain ⟨e, rfl⟩ : ∃ e, t1 = u + e + 1 := ⟨t1 - (u + 1), by omega⟩
    exact pdivmod_ge w a b n m c d u e f h ha hb H1 H2 hl1
set_option maxRecDepth 20000 in
set_option maxHeartbeats 400000 in
theorem pdivmod_long (w : World) (a b : Option Addr) (n m c d t1 t2 : Nat) (f h : Nat → Nat) (ha : Lk w a n c f) (hb : Lk w b m d h) (H1 : Hid (tlen f n = t1)) (H2 : Hid (tlen h m = t2)) (hl : 512 < t1 ∨ 512 < t2) :
    Calls Try.prog 13 #[.slice a n c, .slice b m d] w fun e w' => e = .returned (.tuple #[.slice none 0 0, .slice none 0 0, .int .i64 4]) ∧ Below w.heap.size w w' := by
  have HA : Hid (Lk w a n c f) := ha
  have HB : Hid (Lk w b m d h) := hb
  have HLL : Hid (512 < t1 ∨ 512 < t2) := hl
  clear ha hb hl
  go_enter Try.func13, Try.ntmps13
  go_wp2_with (first
    | (go_at_call 25; have _x := m1; refine (trimmed_any _ _ _ _ t2 h HB.out H2).mono ?_; rintro e w' ⟨rfl, rfl⟩)
    | (go_at_call 25; refine (trimmed_any _ _ _ _ t1 f HA.out H1).mono ?_; rintro e w' ⟨rfl, rfl⟩; have m1 := HLL)
    | (go_at_call 26; refine (toolong_yes _ _ _ _ _ _ _ _ (lit_cell _ _ _ 0 _ rfl) (lit_cell _ _ _ 1 _ rfl) HLL.out).mono ?_; rintro e w' ⟨rfl, rfl⟩))
  go_ret3
  exact ⟨rfl, alloc_below _ _⟩
set_option maxRecDepth 20000 in
set_option maxHeartbeats 400000 in
theorem pdivmod_zero (w : World) (a b : Option Addr) (n m c d t1 : Nat) (f h : Nat → Nat) (ha : Lk w a n c f) (hb : Lk w b m d h) (H1 : Hid (tlen f n = t1)) (H2 : Hid (tlen h m = 0)) (hl1 : t1 ≤ 512) :
    Calls Try.prog 13 #[.slice a n c, .slice b m d] w fun e w' => e = .returned (.tuple #[.slice none 0 0, .slice none 0 0, .int .i64 5]) ∧ Below w.heap.size w w' := by
  have HA : Hid (Lk w a n c f) := ha
  have HB : Hid (Lk w b m d h) := hb
  clear ha hb
  go_enter Try.func13, Try.ntmps13
  go_wp2_with (first
    | (go_at_call 25; have _x := m1; refine (trimmed_any _ _ _ _ 0 h HB.out H2).mono ?_; rintro e w' ⟨rfl, rfl⟩)
    | (go_at_call 25; refine (trimmed_any _ _ _ _ t1 f HA.out H1).mono ?_; rintro e w' ⟨rfl, rfl⟩; have m1 := hl1)
    | (go_at_call 26; refine (toolong_no _ _ _ _ _ _ _ _ (lit_cell _ _ _ 0 _ rfl) (lit_cell _ _ _ 1 _ rfl) (by omega) (by omega)).mono ?_; rintro e w' ⟨rfl, rfl⟩))
  go_ret3
  exact ⟨rfl, alloc_below _ _⟩
end Go.Proofs.Ythpjedoolbfjfab
