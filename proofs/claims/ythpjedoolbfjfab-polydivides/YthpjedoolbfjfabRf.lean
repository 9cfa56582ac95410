/-
  Contracts of the polynomials' reference: DivMod's errors, GCD.
-/
import Derived.Test.YthpjedoolbfjfabRe
namespace Go.Proofs.Ythpjedoolbfjfab
open Go.RowKit
/-- D, of g coefficients, is the greatest common divisor of P and Q. -/
structure GcdOk (P Q D : Nat → Nat) (g : Nat) : Prop where
  el : El D
  above : Above g D
  zero : g = 0 → (∀ i, P i = 0) ∧ ∀ i, Q i = 0
  top : 0 < g → D (g - 1) = 1
  left : Dv D P
  right : Dv D Q
  most : ∀ d, El d → Dv d P → Dv d Q → Dv d D
theorem mn_po {c d : Nat} (h : c < 256) : Po (mn c d) := ⟨fun i => by unfold mn; split; exact h; decide, d + 1, fun i hi => if_neg (by omega)⟩
theorem pm_const {p : Nat → Nat} {c : Nat} (hp : El p) (hc : c < 256) (i : Nat) : pm p (mn c 0) i = fm c (p i) := by
  rw [pm_comm hp (mn_po hc).1, pm_mn, if_pos (Nat.zero_le _), Nat.sub_zero]
/-- What Euclid's loop keeps. -/
structure GcdInv (w wr : World) (vp vq : Value) (P Q F G : Nat → Nat) (tp kp tq kq : Nat) (sp sq : Option Addr) : Prop where
  vp : vp = .slice sp tp kp
  vq : vq = .slice sq tq kq
  lp : Lk wr sp tp kp F
  lq : Lk wr sq tq kq G
  ip : tlen F tp = tp
  iq : tlen G tq = tq
  bp : tp ≤ 512
  bq : tq ≤ 512
  below : Below w.heap.size w wr
  inv : ∀ d, El d → ((Dv d P ∧ Dv d Q) ↔ (Dv d (zx F tp) ∧ Dv d (zx G tq)))
theorem gcd_next {w wr w1 : World} {vp vq : Value} {P Q F G Qt R : Nat → Nat} {tp kp tq kq r k2 : Nat} {sp sq s2 : Option Addr} (I : GcdInv w wr vp vq P Q F G tp kp tq kq sp sq) (hd : DivOk (zx F tp) (zx G tq) Qt R tq r) (hl : Lk w1 s2 r k2 R) (hb : Below wr.heap.size wr w1) :
    GcdInv w w1 (.slice sq tq kq) (.slice s2 r k2) P Q G R tq kq r k2 sq s2 where
  vp := rfl
  vq := rfl
  lp := I.lq.later hb
  lq := hl
  ip := I.iq
  iq := hd.trimmed
  bp := I.bq
  bq := by have := hd.less; have := I.bq; omega
  below := two_below I.below hb
  inv := fun d hdl => (I.inv d hdl).trans (euclid hdl (zx_el I.lq.1.1) ⟨hd.el, 512, hd.above⟩ hd.eq)
theorem zx_nil (f : Nat → Nat) (i : Nat) : zx f 0 i = 0 := if_neg (by omega)
theorem gcd_end {w wr : World} {vp vq : Value} {P Q F G : Nat → Nat} {tp kp kq : Nat} {sp sq : Option Addr} (I : GcdInv w wr vp vq P Q F G tp kp 0 kq sp sq) :
    GcdOk P Q (zx (fun i => fm (finv (F (tp - 1))) (F i)) tp) tp := by
  have inv : ∀ d, El d → ((Dv d P ∧ Dv d Q) ↔ Dv d (zx F tp)) := fun d hd => (I.inv d hd).trans ⟨fun h => h.1, fun h => ⟨h, (Dv.zero d).congr (fun _ => rfl) (fun i => (zx_nil G i).symm)⟩⟩
  have hF := I.lp.1.1
  by_cases h0 : tp = 0
  · subst h0
    have z0 : El (fun _ : Nat => 0) := fun _ => (by decide : 0 < 256)
    have e := (inv _ z0).mpr ((Dv.zero _).congr (fun _ => rfl) (fun i => (zx_nil F i).symm))
    have zz : ∀ {X : Nat → Nat}, Dv (fun _ => 0) X → ∀ i, X i = 0 := by
      intro X hX i
      obtain ⟨q, _, h⟩ := hX
      rw [h i]
      exact xs_zero (fun _ _ => zero_fm _)
    have hP := zz e.1
    have hQ := zz e.2
    have dz : ∀ i, zx (fun i => fm (finv (F (0 - 1))) (F i)) 0 i = 0 := fun i => zx_nil _ i
    exact { el := fun i => by rw [dz]; decide, above := fun i _ => dz i, zero := fun _ => ⟨hP, hQ⟩, top := fun h => by omega,
            left := (Dv.zero _).congr (fun _ => rfl) (fun i => (hP i).symm), right := (Dv.zero _).congr (fun _ => rfl) (fun i => (hQ i).symm),
            most := fun d _ _ _ => (Dv.zero d).congr (fun _ => rfl) (fun i => (dz i).symm) }
  · have hx : F (tp - 1) < 256 := hF _ (by omega)
    have hx0 : F (tp - 1) ≠ 0 := by
      have := tlen_top F tp (by rw [I.ip]; exact h0)
      rwa [I.ip] at this
    have hc := finv_lt (F (tp - 1))
    have hE : El (zx F tp) := zx_el hF
    have hD : ∀ i, zx (fun i => fm (finv (F (tp - 1))) (F i)) tp i = pm (zx F tp) (mn (finv (F (tp - 1))) 0) i := by
      intro i
      rw [pm_const hE hc]
      unfold zx
      split
      · rfl
      · exact (fm_zero _).symm
    have hDel : El (zx (fun i => fm (finv (F (tp - 1))) (F i)) tp) := zx_el (fun i _ => fm_lt _ _ hc)
    have back : Dv (zx (fun i => fm (finv (F (tp - 1))) (F i)) tp) (zx F tp) := by
      refine ⟨mn (F (tp - 1)) 0, mn_po hx, fun i => ?_⟩
      rw [pm_const hDel hx]
      unfold zx
      split
      · rename_i hi
        rw [← fm_assoc _ _ _ hx hc, fm_finv _ hx hx0, one_fm _ (hF i hi)]
      · exact (fm_zero _).symm
    have both := (inv _ hDel).mpr back
    exact { el := hDel, above := zx_above _ _, zero := fun h => absurd h h0,
            top := fun _ => by unfold zx; rw [if_pos (by omega)]; show fm (finv (F (tp - 1))) (F (tp - 1)) = 1; rw [fm_comm _ _ hc hx, fm_finv _ hx hx0],
            left := both.1, right := both.2,
            most := fun d hd h1 h2 => (Dv.pm hd ((inv d hd).mp ⟨h1, h2⟩) (mn_po hc)).congr (fun _ => rfl) (fun i => (hD i).symm) }
end Go.Proofs.Ythpjedoolbfjfab
