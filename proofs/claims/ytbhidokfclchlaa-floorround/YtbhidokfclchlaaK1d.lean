/-
  The walk along the spiral: what its function keeps; Spiral, At.
-/
import Derived.Test.YtbhidokfclchlaaK1c
import Derived.RangeFuncBox
namespace Go.Proofs.Ytbhidokfclchlaa
open Go.RowKit
/-- Blocks that a step of the walk may write. -/
structure Kp (w w' : World) (b0 b1 b2 b3 : Nat) : Prop where
  os : w'.os = w.os
  tape : w'.tape = w.tape
  output : w'.output = w.output
  size : w'.heap.size = w.heap.size
  block : ∀ k, k ≠ b0 → k ≠ b1 → k ≠ b2 → k ≠ b3 → w'.heap[k]? = w.heap[k]?
theorem Kp.refl (w : World) (b0 b1 b2 b3 : Nat) : Kp w w b0 b1 b2 b3 := ⟨rfl, rfl, rfl, rfl, fun _ _ _ _ _ => rfl⟩
theorem Kp.set {w w' : World} {b0 b1 b2 b3 : Nat} (h : Kp w w' b0 b1 b2 b3) (b : Nat) (v : Value) (hb : b = b0 ∨ b = b1 ∨ b = b2 ∨ b = b3) : Kp w (w'.setCell ⟨b, 0, none⟩ v) b0 b1 b2 b3 :=
  ⟨h.os, h.tape, h.output, by rw [← h.size]; simp [World.setCell], fun k h0 h1 h2 h3 => by
    rw [Below.heap_setCell _ _ _ k (by rcases hb with rfl | rfl | rfl | rfl <;> assumption)]; exact h.block k h0 h1 h2 h3⟩
theorem Kp.below {w w' : World} {b0 b1 b2 b3 : Nat} (h : Kp w w' b0 b1 b2 b3) {B : Nat} (h0 : B ≤ b0) (h1 : B ≤ b1) (h2 : B ≤ b2) (h3 : B ≤ b3) : Below B w w' :=
  ⟨h.os, h.tape, h.output, by rw [h.size]; exact Nat.le_refl _, fun k hk => h.block k (by omega) (by omega) (by omega) (by omega)⟩
theorem bx_off {W : World} {B b : Nat} {t : TypeId} {v : Value} (h : Boxed W B t v) (hne : b ≠ B) (u : Value) : Boxed (W.setCell ⟨b, 0, none⟩ u) B t v :=
  h.kept (grownBy_setCell' W b u) (by simpa using Ne.symm hne)
/-- What the walk's function keeps in its four variables: it stands at the cell k. -/
structure Wk (w : World) (b0 b1 b2 b3 k : Nat) : Prop where
  nx : ∃ a b, Boxed w b0 25 (.complex .f64 a b) ∧ Fw a (spl k).x ∧ Fw b (spl k).y
  st : ∃ a b, Boxed w b1 25 (.complex .f64 a b) ∧ Fw a (spl k).dx ∧ Fw b (spl k).dy
  lf : Boxed w b2 3 (.int .i64 ((spl k).lf : Nat))
  sd : Boxed w b3 3 (.int .i64 ((spl k).sd : Nat))
  d : (b0 ≠ b1 ∧ b0 ≠ b2 ∧ b0 ≠ b3) ∧ (b1 ≠ b2 ∧ b1 ≠ b3) ∧ b2 ≠ b3
theorem Wk.kept {w w' : World} {b0 b1 b2 b3 k : Nat} (h : Wk w b0 b1 b2 b3 k) {row : Option Nat} (hg : w.grownBy w' row) (h0 : some b0 ≠ row) (h1 : some b1 ≠ row) (h2 : some b2 ≠ row) (h3 : some b3 ≠ row) : Wk w' b0 b1 b2 b3 k := by
  obtain ⟨⟨a, b, e1, f1⟩, ⟨c, d, e2, f2⟩, e3, e4, hd⟩ := h
  exact ⟨⟨a, b, e1.kept hg h0, f1⟩, ⟨c, d, e2.kept hg h1, f2⟩, e3.kept hg h2, e4.kept hg h3, hd⟩
theorem spl_last {k : Nat} (h : (spl k).lf = 1) : spl (k + 1) = ⟨(spl k).x + (spl k).dx, (spl k).y + (spl k).dy, -(spl k).dy, (spl k).dx, (spl k).sd + 1, ((spl k).sd + 1) / 2 + 1⟩ := by
  show (spl k).go = _
  unfold Stp.go
  rw [if_pos h]
theorem spl_more {k : Nat} (h : (spl k).lf ≠ 1) : spl (k + 1) = ⟨(spl k).x + (spl k).dx, (spl k).y + (spl k).dy, (spl k).dx, (spl k).dy, (spl k).sd, (spl k).lf - 1⟩ := by
  show (spl k).go = _
  unfold Stp.go
  rw [if_neg h]
set_option maxHeartbeats 1000000 in
theorem pwalk1 (w : World) (b0 b1 b2 b3 k : Nat) (hk : k ≤ 64) (H : Wk w b0 b1 b2 b3 k) :
    Calls Try.prog 22 #[.pointer (some ⟨b0, 0, none⟩), .pointer (some ⟨b1, 0, none⟩), .pointer (some ⟨b2, 0, none⟩), .pointer (some ⟨b3, 0, none⟩)] w
      fun e w' => ∃ a b, e = .returned (.complex .f64 a b) ∧ Fw a (spl k).x ∧ Fw b (spl k).y ∧ Wk w' b0 b1 b2 b3 (k + 1) ∧ Kp w w' b0 b1 b2 b3 := by
  obtain ⟨⟨a, b, e1, fa, fb⟩, ⟨c, d, e2, fc, fd⟩, e3, e4, hd⟩ := H
  obtain ⟨l1, l2, l3, l4, l5, l6, l7⟩ := spl_fit (show k ≤ 65 by omega)
  obtain ⟨x, y, hs, fx, fy⟩ := fw_csum fa fb fc fd (by omega) (by omega) (by omega) (by omega)
  have hop := fun t w => run_complex_sum (P := Try.prog) w .add (Or.inl rfl) t .f64 a b c d x y hs
  obtain ⟨x', y', ht, fx', fy'⟩ := fw_turn (c := 0) (d := 4607182418800017408) fc fd (Or.inl (by decide +kernel)) (Or.inl (by decide +kernel)) (by omega) (by omega)
  have htn := fun t w => run_complex_mul (P := Try.prog) w t c d 0 4607182418800017408 x' y' ht
  obtain ⟨D, hD⟩ : ∃ D, (spl k).sd = D := ⟨_, rfl⟩
  have HD := hd
  obtain ⟨⟨d1, d2, d3⟩, ⟨d4, d5⟩, d6⟩ := hd
  have c0 := e1.cell
  have c1 := e2.cell
  have z0 := e1.frozen
  have x0 := e1.set (.complex .f64 x y)
  have x1 := bx_off e2 d1 (.complex .f64 x y)
  have x2 := bx_off e3 d2 (.complex .f64 x y)
  have x3 := bx_off e4 d3 (.complex .f64 x y)
  have K1 : Kp w (w.setCell ⟨b0, 0, none⟩ (.complex .f64 x y)) b0 b1 b2 b3 := (Kp.refl _ _ _ _ _).set b0 _ (Or.inl rfl)
  have HFA : Hid (Fw a (spl k).x ∧ Fw b (spl k).y) := ⟨fa, fb⟩
  rw [hD] at x3 l5
  by_cases hl : (spl k).lf = 1
  · have E := spl_last hl
    rw [hl] at x2
    have y0 := bx_off x0 (Ne.symm d2) (.int .i64 0)
    have y1 := bx_off x1 (Ne.symm d4) (.int .i64 0)
    have y2 := x2.set (.int .i64 0)
    have y3 := bx_off x3 d6 (.int .i64 0)
    have u0 := bx_off y0 (Ne.symm d3) (.int .i64 ((D : Int) + 1))
    have u1 := bx_off y1 (Ne.symm d5) (.int .i64 ((D : Int) + 1))
    have u2 := bx_off y2 (Ne.symm d6) (.int .i64 ((D : Int) + 1))
    have u3 := y3.set (.int .i64 ((D : Int) + 1))
    have v0 := bx_off u0 (Ne.symm d2) (.int .i64 (((D : Int) + 1) / 2 + 1))
    have v1 := bx_off u1 (Ne.symm d4) (.int .i64 (((D : Int) + 1) / 2 + 1))
    have v2 := u2.set (.int .i64 (((D : Int) + 1) / 2 + 1))
    have v3 := bx_off u3 d6 (.int .i64 (((D : Int) + 1) / 2 + 1))
    have s0 := bx_off v0 (Ne.symm d1) (.complex .f64 x' y')
    have s1 := v1.set (.complex .f64 x' y')
    have s2 := bx_off v2 d4 (.complex .f64 x' y')
    have s3 := bx_off v3 d5 (.complex .f64 x' y')
    have KF : Hid (Kp w (((((w.setCell ⟨b0, 0, none⟩ (.complex .f64 x y)).setCell ⟨b2, 0, none⟩ (.int .i64 0)).setCell ⟨b3, 0, none⟩ (.int .i64 ((D : Int) + 1))).setCell ⟨b2, 0, none⟩ (.int .i64 (((D : Int) + 1) / 2 + 1))).setCell ⟨b1, 0, none⟩ (.complex .f64 x' y')) b0 b1 b2 b3) := (((K1.set b2 _ (by simp)).set b3 _ (by simp)).set b2 _ (by simp)).set b1 _ (by simp)
    have c2 := x2.cell
    have z2 := x2.frozen
    have c2' := y2.cell
    have c3 := y3.cell
    have z3 := y3.frozen
    have c3' := u3.cell
    have z2' := u2.frozen
    have c1' := v1.cell
    have z1' := v1.frozen
    have HQ : Hid (Wk (((((w.setCell ⟨b0, 0, none⟩ (.complex .f64 x y)).setCell ⟨b2, 0, none⟩ (.int .i64 0)).setCell ⟨b3, 0, none⟩ (.int .i64 ((D : Int) + 1))).setCell ⟨b2, 0, none⟩ (.int .i64 (((D : Int) + 1) / 2 + 1))).setCell ⟨b1, 0, none⟩ (.complex .f64 x' y')) b0 b1 b2 b3 (k + 1)) := by
      refine ⟨⟨x, y, s0, ?_, ?_⟩, ⟨x', y', s1, ?_, ?_⟩, ?_, ?_, HD⟩
      · rw [E]; exact fx
      · rw [E]; exact fy
      · rw [E]; exact fx'
      · rw [E]; exact fy'
      · rw [E]
        show Boxed _ b2 _ (.int .i64 ((((spl k).sd + 1) / 2 + 1 : Nat) : Int))
        rw [hD]
        exact s2
      · rw [E]
        show Boxed _ b3 _ (.int .i64 (((spl k).sd + 1 : Nat) : Int))
        rw [hD]
        exact s3
    clear e1 e2 e3 e4 x0 x1 x2 x3 y0 y1 y2 y3 u0 u1 u2 u3 v0 v1 v2 v3 s0 s1 s2 s3 K1 E fx fy fx' fy' fa fb fc fd hs ht hD hl HD
    go_enter Try.func22, Try.ntmps22
    go_wp2_with (first | simp only [hop] | simp only [htn] | simp only [run_store_cx c0 z0] | simp only [run_store_cx c1' z1'])
    go_ret
    exact ⟨a, b, rfl, HFA.out.1, HFA.out.2, HQ.out, KF.out⟩
  · have E := spl_more hl
    obtain ⟨m, hm⟩ : ∃ m, (spl k).lf = m + 1 := ⟨(spl k).lf - 1, by omega⟩
    have hm1 : 1 ≤ m := by omega
    rw [hm] at x2 l7
    have y0 := bx_off x0 (Ne.symm d2) (.int .i64 (m : Int))
    have y1 := bx_off x1 (Ne.symm d4) (.int .i64 (m : Int))
    have y2 := x2.set (.int .i64 (m : Int))
    have y3 := bx_off x3 d6 (.int .i64 (m : Int))
    have KF : Hid (Kp w ((w.setCell ⟨b0, 0, none⟩ (.complex .f64 x y)).setCell ⟨b2, 0, none⟩ (.int .i64 (m : Int))) b0 b1 b2 b3) := K1.set b2 _ (by simp)
    have c2 : (w.setCell ⟨b0, 0, none⟩ (.complex .f64 x y)).cell? ⟨b2, 0, none⟩ = some (.int .i64 ((m : Int) + 1)) := x2.cell
    have z2 := x2.frozen
    have c2' := y2.cell
    have HQ : Hid (Wk ((w.setCell ⟨b0, 0, none⟩ (.complex .f64 x y)).setCell ⟨b2, 0, none⟩ (.int .i64 (m : Int))) b0 b1 b2 b3 (k + 1)) := by
      refine ⟨⟨x, y, y0, ?_, ?_⟩, ⟨c, d, y1, ?_, ?_⟩, ?_, ?_, HD⟩
      · rw [E]; exact fx
      · rw [E]; exact fy
      · rw [E]; exact fc
      · rw [E]; exact fd
      · rw [E]
        show Boxed _ b2 _ (.int .i64 (((spl k).lf - 1 : Nat) : Int))
        rw [hm]
        exact y2
      · rw [E]
        show Boxed _ b3 _ (.int .i64 (((spl k).sd : Nat) : Int))
        rw [hD]
        exact y3
    have g1 : ¬ ((m : Int) = 0) := by omega
    clear e1 e2 e3 e4 x0 x1 x2 x3 y0 y1 y2 y3 K1 E fx fy fx' fy' fa fb fc fd hs ht hD hl HD
    go_enter Try.func22, Try.ntmps22
    go_wp2_with (first | simp only [hop] | simp only [htn] | simp only [run_store_cx c0 z0])
    go_ret
    exact ⟨a, b, rfl, HFA.out.1, HFA.out.2, HQ.out, KF.out⟩
end Go.Proofs.Ytbhidokfclchlaa
