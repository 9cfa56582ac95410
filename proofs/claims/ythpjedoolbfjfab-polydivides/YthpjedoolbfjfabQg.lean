/-
  Contract of the program's polynomials: DivMod.
-/
import Derived.Test.YthpjedoolbfjfabQf
namespace Go.Proofs.Ythpjedoolbfjfab
open Go.RowKit
set_option maxRecDepth 20000 in
set_option maxHeartbeats 1000000 in
theorem pdivmod_ge (w : World) (a b : Option Addr) (n m c d u e : Nat) (f h : Nat → Nat) (ha : Lk w a n c f) (hb : Lk w b m d h) (H1 : Hid (tlen f n = u + e + 1)) (H2 : Hid (tlen h m = u + 1)) (hl1 : u + e + 1 ≤ 512) :
    Calls Try.prog 13 #[.slice a n c, .slice b m d] w fun ee w' => ∃ Q R r nq s1 k1 s2 k2, ee = .returned (.tuple #[.slice s1 nq k1, .slice s2 r k2, .int .i64 0]) ∧ PDiv w w' (zx f n) (zx h m) Q R (u + 1) r nq k1 k2 s1 s2 := by
  obtain ⟨i0, hi, hz0, hz1, hz2⟩ := info_parts info8
  have t1n : u + e + 1 ≤ n := by rw [← H1.out]; exact tlen_le _ _
  have t2m : u + 1 ≤ m := by rw [← H2.out]; exact tlen_le _ _
  have HA : Hid (Lk w a n c f) := ha
  have HB : Hid (Lk w b m d h) := hb
  have HA1 : Hid (Lk w a (u + e + 1) c f) := ha.cut t1n
  have HB1 : Hid (Sl w b (u + 1) h) := (hb.cut t2m).1
  have I1 : Hid (tlen f (u + e + 1) = u + e + 1) := by show _ = _; rw [← H1.out, tlen_idem]
  have HPf : Hid (∀ i, i < n → f i < 256) := ha.1.1
  obtain ⟨y, HY⟩ : ∃ y, Hid (h u = y) := ⟨_, rfl⟩
  have hy0 : Hid (y ≠ 0) := by
    have := tlen_top h m (by rw [H2.out]; omega)
    rw [H2.out] at this
    rw [← HY.out]; exact this
  have hy : y < 256 := by rw [← HY.out]; exact hb.1.1 u (by omega)
  obtain ⟨iy, HIY⟩ : ∃ iy, Hid (finv y = iy) := ⟨_, rfl⟩
  have hiy : iy < 256 := by rw [← HIY.out]; exact finv_lt y
  have HOff : Hid (∀ g, w.heap.size ≤ g → Off g b) := fun g hg => off_of_lt HB1.out hg (by omega)
  have hml : e + 1 ≤ maxLen := by unfold maxLen; omega
  have g2' : ((u : Int) + 1 == 0) = false := by simp; omega
  have g3 : ((u : Int) + (e : Int) + 1 - ((u : Int) + 1) + 1) = ((e + 1 : Nat) : Int) := by omega
  have g4 : decide ((u : Int) + 1 ≤ (u : Int) + (e : Int) + 1) = true := by simp; omega
  clear ha hb
  go_enter Try.func13, Try.ntmps13
  go_wp2_with (first
    | (go_at_call 25; have _x := m1; refine (trimmed_any _ _ _ _ (u + 1) h HB.out H2).mono ?_; rintro e w' ⟨rfl, rfl⟩)
    | (go_at_call 25; refine (trimmed_any _ _ _ _ (u + e + 1) f HA.out H1).mono ?_; rintro e w' ⟨rfl, rfl⟩; have m1 := g4)
    | (go_at_call 26; refine (toolong_no _ _ _ _ _ _ _ _ (lit_cell _ _ _ 0 _ rfl) (lit_cell _ _ _ 1 _ rfl) (by omega) (by omega)).mono ?_; rintro e w' ⟨rfl, rfl⟩)
    | (go_at_call 15; refine (ptrim_any _ _ _ _ (u + e + 1) f (HA1.out.later (alloc_below _ _)) I1).mono ?_; rintro e w2 ⟨rfl, hr2, hb2⟩; have HR2 : Hid (RowAt w2 (w.heap.size + 1) 5 (u + e + 1) f) := by { show RowAt _ _ _ _ _; have := hr2; simpa using this }; have HB2 : Hid (Below w.heap.size w w2) := two_below (alloc_below _ _) hb2; clear hr2 hb2)
    | (at_make; refine wpList_make_full _ rfl _ _ 22 rfl w2.heap.size 5 i0 (.int .u8 0) 1 Try.underlying22 hi hz0 hz1 .i64 .i64 _ _ (e + 1) rfl rfl rfl rfl (by rw [hz2]; omega) hml (Nat.le_refl _) ?_; intro w3 hown hgrow; have HQ3 : Hid (RowAt w3 w2.heap.size 5 (e + 1) (fun _ => 0)) := made_at hown; have HB3 : Hid (Below w2.heap.size w2 w3) := grown_none.mp hgrow; clear hown hgrow)
    | (go_at_call 30; refine (stepby_any _ _ u _ y iy h (HB1.out.later (two_below HB2.out HB3.out)) (by omega) HY hy0 HIY).mono ?_; rintro e w4 ⟨g1, g2, rfl, hk4, l1, l2, hb4⟩; have HK4 : Hid (Kept w4 g1 g2 b (u + 1) d iy) := hk4; have HB4 : Hid (Below w3.heap.size w3 w4) := hb4; clear hk4 hb4))
  have hB : Below w.heap.size w w4 := two_below HB2.out (two_below HB3.out HB4.out)
  have HBeg : Hid (PInv w w4 (w.heap.size + 1) w2.heap.size g1 g2 (.slice (some ⟨w.heap.size + 1, 0, none⟩) (u + e + 1) (u + e + 1)) b d iy (e + 1) (zx f n) h (fun _ => 0) f u (u + e + 1) (u + e + 1)) :=
    pinv_begin ((HR2.out.later HB3.out).later HB4.out) hB (HB1.out.later hB) HK4.out (HQ3.out.later HB4.out) H1.out HPf.out (by omega) (by omega) (by omega)
  have n1 := HR2.out.lt
  have n2 := HB2.out.size
  have n3 := HQ3.out.lt
  have n4 : w2.heap.size ≤ w3.heap.size := HB3.out.size
  have q1 : w.heap.size + 1 ≠ w2.heap.size := by omega
  clear hB HR2 HB2 HQ3 HB3 HK4 HB4
  go_loopw [5] (fun v wr => ∃ Q R r k, PInv w wr (w.heap.size + 1) w2.heap.size g1 g2 v b d iy (e + 1) (zx f n) h Q R u r k) (fun v _ => vlen v)
  case atStart => exact ⟨_, _, _, _, HBeg.out⟩
  case round =>
    clear HBeg
    obtain ⟨Q, R, r, k, I⟩ := hrel
    obtain rfl := I.val
    have hle := I.le
    by_cases hge : u + 1 ≤ r
    · obtain ⟨dd, rfl⟩ : ∃ dd, r = u + dd + 1 := ⟨r - (u + 1), by omega⟩
      obtain ⟨z, HZ⟩ : ∃ z, Hid (fm (R (u + dd)) iy = z) := ⟨_, rfl⟩
      obtain ⟨r7, HR7⟩ : ∃ r7, Hid (tlen (rs R h z dd (u + 1)) (u + dd + 1) = r7) := ⟨_, rfl⟩
      have HI : Hid (PInv w wr (w.heap.size + 1) w2.heap.size g1 g2 (.slice (some ⟨w.heap.size + 1, 0, none⟩) (u + dd + 1) k) b d iy (e + 1) (zx f n) h Q R u (u + dd + 1) k) := I
      have hdd : ((u : Int) + (dd : Int) + 1 - ((u : Int) + 1)) = (dd : Int) := by omega
      have hdl : dd < e + 1 := by omega
      have hdi : (dd : Int) < (e : Int) + 1 := by omega
      clear I
      go_wp2_with (go_at_call 40; refine (step_any _ w.heap.size g1 g2 (w.heap.size + 1) k d u dd iy z r7 b h R HI.out.kept HI.out.den HI.out.own HI.out.bytes hiy (by omega) HZ HR7).mono ?_; rintro e w7 ⟨rfl, ho7, hg7⟩; have hcq := (HI.out.quo.kept hg7 (Ne.symm q1)).cell dd (by omega); have hfq := (HI.out.quo.kept hg7 (Ne.symm q1)).free dd; have HO7 : Hid (Ow w7 w.heap.size (some ⟨w.heap.size + 1, 0, none⟩) (u + dd + 1) k (rs R h z dd (u + 1))) := ho7; have HG7 : Hid (wr.grownBy w7 (some (w.heap.size + 1))) := hg7; clear ho7 hg7)
      have fin := pinv_next HI.out HO7.out HG7.out (by rw [← HZ.out, ← HIY.out, ← HY.out]) (by rw [HY.out]; exact hy) (by rw [HY.out]; exact hy0.out) HR7.out q1 (by omega) (by omega) (by omega) (by omega) (HOff.out _ (by omega)) (HOff.out _ (by omega)) (by omega) (by omega)
      exact ⟨⟨_, _, _, _, fin.1⟩, by simp only [vlen]; exact fin.2⟩
    · have HI : Hid (PInv w wr (w.heap.size + 1) w2.heap.size g1 g2 (.slice (some ⟨w.heap.size + 1, 0, none⟩) r k) b d iy (e + 1) (zx f n) h Q R u r k) := I
      clear I
      go_wp2
      go_ret3
      exact ⟨Q, R, r, e + 1, _, _, _, _, rfl, pinv_end HI.out (by omega) H1.out H2.out hl1 q1 (by omega)⟩
end Go.Proofs.Ythpjedoolbfjfab
