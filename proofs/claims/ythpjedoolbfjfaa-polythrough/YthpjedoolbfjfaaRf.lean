/-
  Contracts of the polynomials' reference: DivMod's errors, GCD.
-/
import Derived.Test.YthpjedoolbfjfaaRe
namespace Go.Proofs.Ythpjedoolbfjfaa
open Go.RowKit
set_option maxHeartbeats 1000000 in
theorem rdivmod_long (w : World) (a b : Option Addr) (n m c d : Nat) (f h : Nat → Nat) (ha : Lk w a n c f) (hb : Lk w b m d h) (hl : 512 < tlen f n ∨ 512 < tlen h m) :
    Calls Try.prog 20 #[.slice a n c, .slice b m d] w fun e w' => e = .returned (.tuple #[.slice none 0 0, .slice none 0 0, .int .i64 4]) ∧ Below w.heap.size w w' := by
  by_cases h1 : 512 < tlen f n
  · have H1 : Hid (512 < tlen f n) := h1
    clear h1 hl
    go_enter Try.func20, Try.ntmps20
    go_wp2_with (go_at_call 38; refine (long_true _ _ _ _ f ha H1).mono ?_; rintro e w1 ⟨rfl, hb1⟩)
    go_ret3
    exact ⟨rfl, hb1⟩
  · have H1 : Hid (tlen f n ≤ 512) := Nat.not_lt.mp h1
    have H2 : Hid (512 < tlen h m) := hl.resolve_left h1
    clear h1 hl
    go_enter Try.func20, Try.ntmps20
    go_wp2_with (first
      | (go_at_call 38; have _x := hb1; refine (long_true _ _ _ _ h hb H2).mono ?_; rintro e w2 ⟨rfl, hb2⟩; have hw := two_below hb1 hb2)
      | (go_at_call 38; refine (long_false _ _ _ _ f ha H1).mono ?_; rintro e w1 ⟨rfl, hb1⟩; replace hb := hb.later hb1))
    go_ret3
    exact ⟨rfl, hw⟩
set_option maxHeartbeats 1000000 in
theorem rdivmod_zero (w : World) (a b : Option Addr) (n m c d : Nat) (f h : Nat → Nat) (ha : Lk w a n c f) (hb : Lk w b m d h) (h1 : tlen f n ≤ 512) (h2 : tlen h m = 0) :
    Calls Try.prog 20 #[.slice a n c, .slice b m d] w fun e w' => e = .returned (.tuple #[.slice none 0 0, .slice none 0 0, .int .i64 5]) ∧ Below w.heap.size w w' := by
  have L1 : Hid (tlen f n ≤ 512) := h1
  have L2 : Hid (tlen h m ≤ 512) := by show _ ≤ _; omega
  have H2 : Hid (tlen h m = 0) := h2
  clear h1 h2
  go_enter Try.func20, Try.ntmps20
  go_wp2_with (first
    | (go_at_call 38; have _x := hb1; refine (long_false _ _ _ _ h hb L2).mono ?_; rintro e w2 ⟨rfl, hb2⟩; replace hb := hb.later hb2; have hw := two_below hb1 hb2)
    | (go_at_call 38; refine (long_false _ _ _ _ f ha L1).mono ?_; rintro e w1 ⟨rfl, hb1⟩; replace ha := ha.later hb1; replace hb := hb.later hb1)
    | (go_at_call 11; refine (rtrim_at _ _ _ _ _ h hb H2).mono ?_; rintro e w3 ⟨sq, kq, rfl, hsq, hb3, hf3⟩; replace hw := two_below hw hb3))
  go_ret3
  exact ⟨rfl, hw⟩

/-- D, of g coefficients, is the greatest common divisor of P and Q. -/
structure GcdOk (P Q D : Nat → Nat) (g : Nat) : Prop where
  el : El D
  above : Above g D
  zero : g = 0 → (∀ i, P i = 0) ∧ ∀ i, Q i = 0
  top : 0 < g → D (g - 1) = 1
  left : Dv D P
  right : Dv D Q
  most : ∀ d, El d → Dv d P → Dv d Q → Dv d D
theorem mn_po {c d : Nat} (h : c < 256) : Po (mn c d) := ⟨fun i => by unfold mn; split; exact h; decide, d + 1, fun i hi => if_neg (by omega)⟩
theorem pm_const {p : Nat → Nat} {c : Nat} (hp : El p) (hc : c < 256) (i : Nat) : pm p (mn c 0) i = fm c (p i) := by
  rw [pm_comm hp (mn_po hc).1, pm_mn, if_pos (Nat.zero_le _), Nat.sub_zero]
/-- What Euclid's loop keeps. -/
structure GcdInv (w wr : World) (vp vq : Value) (P Q F G : Nat → Nat) (tp kp tq kq : Nat) (sp sq : Option Addr) : Prop where
  vp : vp = .slice sp tp kp
  vq : vq = .slice sq tq kq
  lp : Lk wr sp tp kp F
  lq : Lk wr sq tq kq G
  ip : tlen F tp = tp
  iq : tlen G tq = tq
  bp : tp ≤ 512
  bq : tq ≤ 512
  below : Below w.heap.size w wr
  inv : ∀ d, El d → ((Dv d P ∧ Dv d Q) ↔ (Dv d (zx F tp) ∧ Dv d (zx G tq)))
theorem gcd_next {w wr w1 : World} {vp vq : Value} {P Q F G Qt R : Nat → Nat} {tp kp tq kq r k2 : Nat} {sp sq s2 : Option Addr} (I : GcdInv w wr vp vq P Q F G tp kp tq kq sp sq) (hd : DivOk (zx F tp) (zx G tq) Qt R tq r) (hl : Lk w1 s2 r k2 R) (hb : Below wr.heap.size wr w1) :
    GcdInv w w1 (.slice sq tq kq) (.slice s2 r k2) P Q G R tq kq r k2 sq s2 where
  vp := rfl
  vq := rfl
  lp := I.lq.later hb
  lq := hl
  ip := I.iq
  iq := hd.trimmed
  bp := I.bq
  bq := by have := hd.less; have := I.bq; omega
  below := two_below I.below hb
  inv := fun d hdl => (I.inv d hdl).trans (euclid hdl (zx_el I.lq.1.1) ⟨hd.el, 512, hd.above⟩ hd.eq)
theorem zx_nil (f : Nat → Nat) (i : Nat) : zx f 0 i = 0 := if_neg (by omega)
theorem gcd_end {w wr : World} {vp vq : Value} {P Q F G : Nat → Nat} {tp kp kq : Nat} {sp sq : Option Addr} (I : GcdInv w wr vp vq P Q F G tp kp 0 kq sp sq) :
    GcdOk P Q (zx (fun i => fm (finv (F (tp - 1))) (F i)) tp) tp := by
  have inv : ∀ d, El d → ((Dv d P ∧ Dv d Q) ↔ Dv d (zx F tp)) := fun d hd => (I.inv d hd).trans ⟨fun h => h.1, fun h => ⟨h, (Dv.zero d).congr (fun _ => rfl) (fun i => (zx_nil G i).symm)⟩⟩
  have hF := I.lp.1.1
  by_cases h0 : tp = 0
  · subst h0
    have z0 : El (fun _ : Nat => 0) := fun _ => (by decide : 0 < 256)
    have e := (inv _ z0).mpr ((Dv.zero _).congr (fun _ => rfl) (fun i => (zx_nil F i).symm))
    have zz : ∀ {X : Nat → Nat}, Dv (fun _ => 0) X → ∀ i, X i = 0 := by
      intro X hX i
      obtain ⟨q, _, h⟩ := hX
      rw [h i]
      exact xs_zero (fun _ _ => zero_fm _)
    have hP := zz e.1
    have hQ := zz e.2
    have dz : ∀ i, zx (fun i => fm (finv (F (0 - 1))) (F i)) 0 i = 0 := fun i => zx_nil _ i
    exact { el := fun i => by rw [dz]; decide, above := fun i _ => dz i, zero := fun _ => ⟨hP, hQ⟩, top := fun h => by omega,
            left := (Dv.zero _).congr (fun _ => rfl) (fun i => (hP i).symm), right := (Dv.zero _).congr (fun _ => rfl) (fun i => (hQ i).symm),
            most := fun d _ _ _ => (Dv.zero d).congr (fun _ => rfl) (fun i => (dz i).symm) }
  · have hx : F (tp - 1) < 256 := hF _ (by omega)
    have hx0 : F (tp - 1) ≠ 0 := by
      have := tlen_top F tp (by rw [I.ip]; exact h0)
      rwa [I.ip] at this
    have hc := finv_lt (F (tp - 1))
    have hE : El (zx F tp) := zx_el hF
    have hD : ∀ i, zx (fun i => fm (finv (F (tp - 1))) (F i)) tp i = pm (zx F tp) (mn (finv (F (tp - 1))) 0) i := by
      intro i
      rw [pm_const hE hc]
      unfold zx
      split
      · rfl
      · exact (fm_zero _).symm
    have hDel : El (zx (fun i => fm (finv (F (tp - 1))) (F i)) tp) := zx_el (fun i _ => fm_lt _ _ hc)
    have back : Dv (zx (fun i => fm (finv (F (tp - 1))) (F i)) tp) (zx F tp) := by
      refine ⟨mn (F (tp - 1)) 0, mn_po hx, fun i => ?_⟩
      rw [pm_const hDel hx]
      unfold zx
      split
      · rename_i hi
        rw [← fm_assoc _ _ _ hx hc, fm_finv _ hx hx0, one_fm _ (hF i hi)]
      · exact (fm_zero _).symm
    have both := (inv _ hDel).mpr back
    exact { el := hDel, above := zx_above _ _, zero := fun h => absurd h h0,
            top := fun _ => by unfold zx; rw [if_pos (by omega)]; show fm (finv (F (tp - 1))) (F (tp - 1)) = 1; rw [fm_comm _ _ hc hx, fm_finv _ hx hx0],
            left := both.1, right := both.2,
            most := fun d hd h1 h2 => (Dv.pm hd ((inv d hd).mp ⟨h1, h2⟩) (mn_po hc)).congr (fun _ => rfl) (fun i => (hD i).symm) }
set_option maxRecDepth 20000 in
set_option maxHeartbeats 2000000 in
theorem rgcd_any (w : World) (a b : Option Addr) (n m c d t1 t2 : Nat) (f h : Nat → Nat) (ha : Lk w a n c f) (hb : Lk w b m d h) (H1 : Hid (tlen f n = t1)) (H2 : Hid (tlen h m = t2)) (hl1 : t1 ≤ 512) (hl2 : t2 ≤ 512) :
    Calls Try.prog 22 #[.slice a n c, .slice b m d] w fun e w' => ∃ D g s k, e = .returned (.tuple #[.slice s g k, .int .i64 0]) ∧ Lk w' s g k D ∧ GcdOk (zx f n) (zx h m) (zx D g) g ∧ Below w.heap.size w w' := by
  have L1 : Hid (tlen f n ≤ 512) := by show _ ≤ _; rw [H1.out]; exact hl1
  have L2 : Hid (tlen h m ≤ 512) := by show _ ≤ _; rw [H2.out]; exact hl2
  go_enter Try.func22, Try.ntmps22
  go_wp2_with (first
    | (go_at_call 38; have _x := hb1; refine (long_false _ _ _ _ h hb L2).mono ?_; rintro e w2 ⟨rfl, hb2⟩; replace ha := ha.later hb2; replace hb := hb.later hb2; have hw := two_below hb1 hb2)
    | (go_at_call 38; refine (long_false _ _ _ _ f ha L1).mono ?_; rintro e w1 ⟨rfl, hb1⟩; replace ha := ha.later hb1; replace hb := hb.later hb1)
    | (go_at_call 11; have _x := hb3; refine (rtrim_at _ _ _ _ _ h hb H2).mono ?_; rintro e w4 ⟨s4, k4, rfl, hs4, hb4, hf4⟩; replace hs3 := hs3.later hb4; replace hw := two_below hw hb4)
    | (go_at_call 11; refine (rtrim_at _ _ _ _ _ f ha H1).mono ?_; rintro e w3 ⟨s3, k3, rfl, hs3, hb3, hf3⟩; replace hb := hb.later hb3; replace hw := two_below hw hb3))
  have HBeg : Hid (GcdInv w w4 (.slice s3 t1 k3) (.slice s4 t2 k4) (zx f n) (zx h m) f h t1 k3 t2 k4 s3 s4) :=
    { vp := rfl, vq := rfl, lp := hs3, lq := hs4, ip := by rw [← H1.out, tlen_idem], iq := by rw [← H2.out, tlen_idem], bp := hl1, bq := hl2, below := hw,
      inv := fun d _ => ⟨fun h => ⟨h.1.congr (fun _ => rfl) (fun i => by rw [← H1.out, zx_tlen]), h.2.congr (fun _ => rfl) (fun i => by rw [← H2.out, zx_tlen])⟩, fun h => ⟨h.1.congr (fun _ => rfl) (fun i => by rw [← H1.out, zx_tlen]), h.2.congr (fun _ => rfl) (fun i => by rw [← H2.out, zx_tlen])⟩⟩ }
  clear ha hb hb1 hb2 hb3 hb4 hw hf3 hf4 hs3 hs4 _x
  go_loopw [0, 1] (fun vp vq wr => ∃ F G tp kp tq kq sp sq, GcdInv w wr vp vq (zx f n) (zx h m) F G tp kp tq kq sp sq) (fun _ vq _ => vlen vq)
  case atStart => exact ⟨_, _, _, _, _, _, _, _, HBeg.out⟩
  case round =>
    clear HBeg
    obtain ⟨F, G, tp, kp, tq, kq, sp, sq, I⟩ := hrel
    obtain rfl := I.vp
    obtain rfl := I.vq
    have b1 := I.bp
    have b2 := I.bq
    have HI : Hid (GcdInv w wr (.slice sp tp kp) (.slice sq tq kq) (zx f n) (zx h m) F G tp kp tq kq sp sq) := I
    clear I
    by_cases h0 : tq = 0
    · subst h0
      by_cases h1 : tp = 0
      · subst h1
        go_wp2
        go_ret2
        have ok := gcd_end HI.out
        refine ⟨_, 0, sp, kp, rfl, ?_, ok, HI.out.below⟩
        exact HI.out.lp.congr (fun i hi => by omega)
      · obtain ⟨u, rfl⟩ : ∃ u, tp = u + 1 := ⟨tp - 1, by omega⟩
        obtain ⟨bp, op, ep, hcp⟩ := HI.out.lp.1.2 u (by omega)
        obtain ⟨x, HX⟩ : ∃ x, Hid (F u = x) := ⟨_, rfl⟩
        rw [HX.out] at hcp
        have hx : x < 256 := by rw [← HX.out]; exact HI.out.lp.1.1 u (by omega)
        have hx0 : Hid (x ≠ 0) := by
          have := tlen_top F (u + 1) (by rw [HI.out.ip]; omega)
          rw [HI.out.ip] at this
          rw [← HX.out]; exact this
        obtain ⟨ix, HIX⟩ : ∃ ix, Hid (finv x = ix) := ⟨_, rfl⟩
        have hix : ix < 256 := by rw [← HIX.out]; exact finv_lt x
        have HInv : Hid (∀ w, Calls Try.prog 41 #[.int .u8 (x : Int)] w fun e w' => e = .returned (.tuple #[.int .u8 (ix : Int), .int .i64 0]) ∧ w = w') := by
          intro w
          have := rinv_any x w hx
          rw [HIX.out, show ive x = 0 from if_neg hx0.out] at this
          exact this.mono fun _ _ h => ⟨h.1, h.2.symm⟩
        subst ep
        go_wp2_with (first
          | (go_at_call 41; refine (HInv.out _).mono ?_; rintro e w' ⟨rfl, rfl⟩)
          | (go_at_call 43; refine (rscale_lk _ _ _ _ _ F hix HI.out.lp).mono ?_; rintro e w6 ⟨s6, k6, rfl, hs6, hb6⟩))
        go_ret2
        have ok := gcd_end HI.out
        refine ⟨fun i => fm (finv (F (u + 1 - 1))) (F i), u + 1, s6, k6, rfl, ?_, ok, two_below HI.out.below hb6⟩
        rw [show u + 1 - 1 = u from rfl, HX.out, HIX.out]
        exact hs6
    · obtain ⟨u, rfl⟩ : ∃ u, tq = u + 1 := ⟨tq - 1, by omega⟩
      go_wp2_with (go_at_call 20; refine (rdivmod_any _ _ _ _ _ _ _ _ u F G HI.out.lp HI.out.lq HI.out.ip HI.out.iq b1 b2).mono ?_; rintro e w6 ⟨Qt, R, r, s1, k1, s2, k2, rfl, _, hl2, hd2, hb6⟩)
      exact ⟨⟨_, _, _, _, _, _, _, _, gcd_next HI.out hd2 hl2 hb6⟩, by simp only [vlen]; exact hd2.less⟩
end Go.Proofs.Ythpjedoolbfjfaa
