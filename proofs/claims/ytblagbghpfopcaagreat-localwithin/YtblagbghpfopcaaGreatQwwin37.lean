/-
  Contracts of the program's gauss: Solve, Combine.
-/
import Derived.Test.YtblagbghpfopcaaGreatQwwin00
import Derived.Test.YtblagbghpfopcaaGreatQwwin36
set_option maxRecDepth 100000
set_option maxHeartbeats 16000000
namespace Go.Proofs.YtblagbghpfopcaaGreat
open Go.RowKit
theorem RowAt.frs {w : World} {B g n : Nat} {f : Nat → Nat} (h : RowAt w g 5 n f) (hB : B ≤ g) (hn : n ≤ 4096) : Frs w B (some ⟨g, 0, none⟩) n n := ⟨Nat.le_refl _, by unfold maxLen; omega, (fun e => by cases e), fun x hx => by
 cases hx
 exact ⟨g, rfl, hB, fun i hi => ⟨⟨_, h.cell i hi⟩, h.free i⟩⟩⟩
/-- What stands beside in Solve and Inverse. -/
theorem bes_one {w : World} {B gs gd r c kb : Nat} {M N : Nat → Nat → Nat} (G : Grid w B gs gd r kb N) (hgd : gd < w.heap.size) (hB : B ≤ w.heap.size) (hk : kb ≤ 64) (hp : 0 < c → 0 < r → 0 < kb) : Bes w B 1 r c [.slice (some ⟨gs, 0, none⟩) r r] (fun _ => gs) (fun _ => gd) (fun _ => kb) (fun _ => c) (wd M c N) :=
 ⟨hB, Nat.le_refl _, fun t ht => by rw [show t = 0 by omega]; rfl, fun _ _ => G.congr (fun i l _ _ => (wd_r M N c i l).symm), fun _ _ => hgd, fun _ _ => hk, fun h1 h2 _ _ => hp h1 h2⟩
theorem lit_own (w : World) (B : Nat) (v : Value) (hB : B ≤ w.heap.size) : (w.alloc (.cells #[v] 120)).ownsRow B 120 1 (.slice (some ⟨w.heap.size, 0, none⟩) 1 1) 1 [v] :=
 ⟨rfl, .inr ⟨w.heap.size, 1, #[v], rfl, hB, qbz w _, Nat.le_refl _, by unfold maxLen; omega, rfl, rfl⟩⟩
theorem gsolve_x (w : World) (r c n k kb : Nat) (a b : Option Addr) (F X : Nat → Nat) (ha : Mt w a n k F) (R : Rt r c n) (hb : Sl w b r X) : Calls Tryz.prog 66 #[mv r c a n k, .slice b r kb] w fun e w' => (∃ s d x, e = .returned (.tuple #[.slice s c d, .bool true, .int .i64 0]) ∧ Mt w' s c d x ∧ SolA F X r c x ∧ Frs w' w.heap.size s c d ∧ Below w.heap.size w w') ∨ (NoneP w w' e 0 ∧ ∀ x, ¬ Sol (m2 F r c) r c (ext0 X r) x) := by
 have HA : Hid (Mt w a n k F) := ha
 have HBS : Hid (Sl w b r X) := hb
 have HR : Hid (Rt r c n) := R
 have hr := R.r64
 have hc := R.c64
 have HR1 : Hid (Rt r 1 r) := ⟨hr, by omega, Nat.mul_one r⟩
 have g0 : ((r : Int) == (r : Int)) = true := by simp
 clear ha R hb
 go_enter Tryz.func66, Tryz.ntmps66
 go_wp2_with (first
  | (go_at_call 60; refine (qaj _ _ _ _ _ _ HR.out.p).mono ?_; rintro e w1 ⟨rfl, hb1⟩; have HB1 : Hid (Below w.heap.size w w1) := qa0 (qa1 _ _) hb1; have HVA : Hid (Vr w1 w.heap.size (.int .i64 (r : Int)) (.int .i64 (c : Int)) (.slice a n k)) := (Vr.new w (.int .i64 (r : Int)) (.int .i64 (c : Int)) (.slice a n k)).later hb1; have a0 := HVA.out.c0; clear hb1)
  | (go_at_call 91; refine (qes _ r 1 r kb b X (HBS.out.later HB1.out) HR1.out).mono ?_; rintro e w2 ⟨gs, gd, rfl, hg2, hl2, hu2, hb2⟩; have HG2 : Hid (Grid w2 w1.heap.size gs gd r 1 (m2 X r 1)) := hg2; have HB2 : Hid (Below w1.heap.size w1 w2) := hb2; have HV2 : Hid (Vr w2 w.heap.size (.int .i64 (r : Int)) (.int .i64 (c : Int)) (.slice a n k)) := HVA.out.later hb2; have HVL : Hid (Vr (w2.alloc (.cells #[.slice (some ⟨gs, 0, none⟩) r r] 120)) w.heap.size (.int .i64 (r : Int)) (.int .i64 (c : Int)) (.slice a n k)) := HV2.out.later (qa1 _ _); have v0 := HV2.out.c0; have v1 := HV2.out.c1; have v2 := HV2.out.c2; have l0 := HVL.out.c0; have l1 := HVL.out.c1; have l2 := HVL.out.c2; have hs2 : w1.heap.size ≤ w2.heap.size := hb2.size; clear hg2 hb2)
  | (go_at_call 85; refine (qgt _ r c n k w1.heap.size 1 1 a (some ⟨w2.heap.size, 0, none⟩) F [.slice (some ⟨gs, 0, none⟩) r r] (fun _ => gs) (fun _ => gd) (fun _ => 1) (fun _ => c) (wd (m2 F r c) c (m2 X r 1)) (HA.out.later (qa0 (qa0 HB1.out HB2.out) (qa1 _ _))) HR.out (bes_one (HG2.out.later (qa1 _ _)) (by simp; omega) (by simp; omega) (by omega) (fun _ _ => by omega)) (lit_own _ _ _ hs2) (wd_el (qax HA.out.sl.1 HR.out) (qax HBS.out.1 HR1.out) c) (fun i l _ hl => wd_l _ _ i hl)).mono ?_; rintro e w3 ⟨C, rfl, hk3, hx3, e1, en, ec, em, hq3, hb3⟩; have HK : Hid C.Ok := hk3; have HX3 : Hid (Rst w3 C none 0 0 (fun _ => 0) (wd (m2 F r c) c (m2 X r 1))) := hx3; have HEQ : Hid (C.n = r ∧ C.c = c ∧ C.m = 1 ∧ C.B = w1.heap.size ∧ C.gr 0 = gs ∧ C.kk 0 = 1 ∧ C.o 0 = c) := ⟨en, ec, em, e1, (hq3 0 (by omega)).1, (hq3 0 (by omega)).2.2.1, (hq3 0 (by omega)).2.2.2⟩; have HB3 : Hid (Below w1.heap.size w1 w3) := ((HB2.out.trans ((qa1 w2 _).mono hs2)).trans hb3); clear hk3 hx3 e1 en ec em hq3 hb3)
  | (go_at_call 86; refine (qcu _ C _ HK.out HX3.out).mono ?_; rintro e w4 ⟨rfl, ps, pd, top, p, J, hx4, he4, hs4, hb4⟩; have HX4 : Hid (Rst w4 C ps pd top p J) := hx4; have HE4 : Hid (Ech J r top c p) := by { have := he4; rw [HEQ.out.1, HEQ.out.2.1] at this; exact this }; have HS4 : Hid (SpEq J r (wd (m2 F r c) c (m2 X r 1)) r) := by { have := hs4; rw [HEQ.out.1] at this; exact this }; have HB4 : Hid (Below w1.heap.size w1 w4) := HB3.out.trans (by { have := hb4; rw [HEQ.out.2.2.2.1] at this; exact this }); have c2 := hx4.fix.c2; have htr : top ≤ r := HE4.out.tr; clear hx4 he4 hs4 hb4))
 all_goals clear v0 v1 v2 l0 l1 l2 a0
 ·obtain ⟨L, HL⟩ : ∃ L, Hid (r - top = L) := ⟨_, rfl⟩
  have hL : top + L = r := by rw [← HL.out]; omega
  have hL0 : L = 0 := by rw [← HL.out]; omega
  have HL0 : Hid (L = 0) := hL0
  clear hL0
  try rw [HL.out]
  have HRW : Hid (∀ (w9 : World) (J9 : Nat → Nat → Nat), Rst w9 C ps pd top p J9 → ∀ i, i < r → ∃ b8 o8, w9.cell? ⟨gs, i, none⟩ = some (.slice (some ⟨b8, o8, none⟩) 1 1) ∧ w9.cell? ⟨b8, o8, none⟩ = some (.int .u8 ((J9 i c : Nat) : Int)) ∧ J9 i c < 256) := fun w9 J9 hx i hi => by
   have hq := HEQ.out
   obtain ⟨x, hcl, hs, _⟩ := (hx.gs 0 (by omega)).row (i := i) (by rw [hq.1]; exact hi)
   rw [hq.2.2.2.2.1, hq.2.2.2.2.2.1] at hcl
   rw [hq.2.2.2.2.2.1] at hs
   obtain ⟨b8, o8, rfl, hc8⟩ := hs.2 0 (by omega)
   have e8 : C.H J9 0 i 0 = J9 i c := by show J9 i (C.o 0 + 0) = _; rw [hq.2.2.2.2.2.2, Nat.add_zero]
   rw [e8, Nat.add_zero] at hc8
   exact ⟨b8, o8, hcl, hc8, hx.el i c⟩
  go_loop [42] (fun si => ∃ q : Nat, si = .int .i64 (q : Int) ∧ q ≤ L ∧ Hid (∀ i, top ≤ i → i < top + q → J i c = 0)) (fun si => L - (intOf si).toNat)
  case atStart => exact ⟨0, rfl, by omega, fun i h1 h2 => by omega⟩
  case round =>
   obtain ⟨q, rfl, hq, HZ⟩ := hrel
   by_cases hlt : q < L
   ·exact absurd hlt (by rw [HL0.out]; omega)
   ·obtain rfl : q = L := by omega
    obtain ⟨i0, hi8, hz0, hz1, hz2⟩ := info_parts qee
    have hml : c ≤ maxLen := by unfold maxLen; omega
    have hgl : w.heap.size < w1.heap.size := HVA.out.lt
    go_wp2_with (first | (go_at_call 87; refine (qdk _ C ps pd top p J HK.out HX4.out (by rw [HEQ.out.1, HEQ.out.2.1]; exact HE4.out)).mono ?_; rintro e w5 ⟨rfl, J5, hx5, ha5, hs5, hb5, hq5⟩; have HX5 : Hid (Rst w5 C ps pd top p J5) := hx5; have HA5 : Hid (Asc J5 r top c p 0) := by { have := ha5; rw [HEQ.out.1, HEQ.out.2.1] at this; exact this }; have HS5 : Hid (SpEq J5 r (wd (m2 F r c) c (m2 X r 1)) r) := by { have := hs5; rw [HEQ.out.1] at this; exact this.trans HS4.out }; have HB5 : Hid (Below w1.heap.size w1 w5) := HB4.out.trans (by { have := hb5; rw [HEQ.out.2.2.2.1] at this; exact this }); have HQ5 : Hid (∀ i, top ≤ i → i < r → J5 i c = 0) := fun i h1 h2 => by { rw [hq5 i c h1]; exact HZ.out i h1 (by omega) }; have v5 := (HVA.out.later HB5.out).c1; clear hx5 ha5 hs5 hb5 hq5) | (at_make; refine wpList_make_full _ rfl _ _ 22 rfl w5.heap.size 5 i0 (.int .u8 0) 1 Tryz.underlying22 hi8 hz0 hz1 .i64 .i64 _ _ c rfl rfl rfl rfl (by rw [hz2]; omega) hml (Nat.le_refl _) ?_; intro w6 hown hgrow; have HR6 : Hid (RowAt w6 w5.heap.size 5 c (fun _ => 0)) := qct hown; have HB6 : Hid (Below w5.heap.size w5 w6) := qa8.mp hgrow; have c6 := qah (qa8.mp hgrow) HX5.out.fix.c2; clear hown hgrow))
    have hz5 : w1.heap.size ≤ w5.heap.size := HB5.out.size
    go_loopw [61] (fun si wr => ∃ i : Nat, si = .int .i64 (i : Int) ∧ i ≤ top ∧ Hid (RowAt wr w5.heap.size 5 c (pp p i (fun t => J5 t c))) ∧ Hid (Below w5.heap.size w5 wr)) (fun si _ => top - (intOf si).toNat)
    case atStart => exact ⟨0, rfl, by omega, HR6.out.congr (fun j _ => rfl), HB6.out⟩
    case round =>
     clear HR6 HB6 c6
     obtain ⟨i, rfl, hit, HRW6, HBW⟩ := hrel
     by_cases hlt : i < top
     ·obtain ⟨b8, o8, hcl, hc8, hy⟩ := HRW.out _ _ HX5.out i (by omega)
      obtain ⟨y, HY⟩ : ∃ y, Hid (J5 i c = y) := ⟨_, rfl⟩
      rw [HY.out] at hc8 hy
      obtain ⟨bp, op, eps, hcp⟩ := HX5.out.fix.piv.il i hlt
      dsimp only at hcp
      obtain ⟨pi, HPI⟩ : ∃ pi, Hid (p i = pi) := ⟨_, rfl⟩
      rw [HPI.out] at hcp
      have hpc : pi < c := by rw [← HPI.out]; exact HA5.out.ech.lt i hlt
      have HEP : Hid (ps = some ⟨bp, op, none⟩) := eps
      have d1 := qah HBW.out hcl
      have d2 := qah HBW.out hc8
      have d3 := qah HBW.out hcp
      have d4 := HRW6.out.cell pi hpc
      have d5 := HRW6.out.free pi
      have hpi : (pi : Int) < (c : Int) := by omega
      have hii : (i : Int) < (r : Int) := by omega
      clear hcl hc8 hcp
      subst eps
      go_wp2
      refine ⟨⟨i + 1, by go_num, by omega, (HRW6.out.set pi y).congr (fun j _ => ?_), HBW.out.setCell (Nat.le_refl _) _⟩, by simp [intOf]; omega⟩
      rw [← HPI.out, ← HY.out]
      exact qhe HA5.out.ech.up hlt (fun t => J5 t c) j
     ·obtain rfl : i = top := by omega
      go_wp2
      go_ret3
      exact .inl ⟨_, _, _, rfl, HRW6.out.mt (fun j _ => qkr p i (fun t => HX5.out.el t c) j), qm0 HX5.out.el HA.out.sl.1 HR.out HBS.out.1 HS5.out HA5.out HQ5.out, HRW6.out.frs (by omega) (by omega), qa0 HB1.out (HB5.out.trans (HBW.out.mono hz5))⟩
 ·obtain ⟨L, HL⟩ : ∃ L, Hid (r - top = L) := ⟨_, rfl⟩
  have hL : top + L = r := by rw [← HL.out]; omega
  try rw [HL.out]
  have HRW : Hid (∀ (w9 : World) (J9 : Nat → Nat → Nat), Rst w9 C ps pd top p J9 → ∀ i, i < r → ∃ b8 o8, w9.cell? ⟨gs, i, none⟩ = some (.slice (some ⟨b8, o8, none⟩) 1 1) ∧ w9.cell? ⟨b8, o8, none⟩ = some (.int .u8 ((J9 i c : Nat) : Int)) ∧ J9 i c < 256) := fun w9 J9 hx i hi => by
   have hq := HEQ.out
   obtain ⟨x, hcl, hs, _⟩ := (hx.gs 0 (by omega)).row (i := i) (by rw [hq.1]; exact hi)
   rw [hq.2.2.2.2.1, hq.2.2.2.2.2.1] at hcl
   rw [hq.2.2.2.2.2.1] at hs
   obtain ⟨b8, o8, rfl, hc8⟩ := hs.2 0 (by omega)
   have e8 : C.H J9 0 i 0 = J9 i c := by show J9 i (C.o 0 + 0) = _; rw [hq.2.2.2.2.2.2, Nat.add_zero]
   rw [e8, Nat.add_zero] at hc8
   exact ⟨b8, o8, hcl, hc8, hx.el i c⟩
  go_loop [42] (fun si => ∃ q : Nat, si = .int .i64 (q : Int) ∧ q ≤ L ∧ Hid (∀ i, top ≤ i → i < top + q → J i c = 0)) (fun si => L - (intOf si).toNat)
  case atStart => exact ⟨0, rfl, by omega, fun i h1 h2 => by omega⟩
  case round =>
   obtain ⟨q, rfl, hq, HZ⟩ := hrel
   by_cases hlt : q < L
   ·obtain ⟨b8, o8, hcl, hc8, hy⟩ := HRW.out _ _ HX4.out (top + q) (by omega)
    obtain ⟨y, HY⟩ : ∃ y, Hid (J (top + q) c = y) := ⟨_, rfl⟩
    rw [HY.out] at hc8 hy
    by_cases hy0 : y = 0
    ·subst hy0
     go_wp2
     exact ⟨⟨q + 1, by go_num, by omega, fun i h1 h2 => by
      by_cases e : i = top + q
      ·rw [e]; exact HY.out
      ·exact HZ.out i h1 (by omega)⟩, by simp [intOf]; omega⟩
    ·have hyb : ((y : Int) == 0) = false := by simpa using hy0
     have HY0 : Hid (y ≠ 0) := hy0
     go_wp2
     go_ret3
     exact .inr ⟨⟨rfl, qa0 HB1.out HB4.out⟩, no_sola HX4.out.el HA.out.sl.1 HR.out HBS.out.1 HS4.out HE4.out (i := top + q) (by omega) (by omega) (by rw [HY.out]; exact HY0.out)⟩
   ·obtain rfl : q = L := by omega
    obtain ⟨i0, hi8, hz0, hz1, hz2⟩ := info_parts qee
    have hml : c ≤ maxLen := by unfold maxLen; omega
    have hgl : w.heap.size < w1.heap.size := HVA.out.lt
    go_wp2_with (first | (go_at_call 87; refine (qdk _ C ps pd top p J HK.out HX4.out (by rw [HEQ.out.1, HEQ.out.2.1]; exact HE4.out)).mono ?_; rintro e w5 ⟨rfl, J5, hx5, ha5, hs5, hb5, hq5⟩; have HX5 : Hid (Rst w5 C ps pd top p J5) := hx5; have HA5 : Hid (Asc J5 r top c p 0) := by { have := ha5; rw [HEQ.out.1, HEQ.out.2.1] at this; exact this }; have HS5 : Hid (SpEq J5 r (wd (m2 F r c) c (m2 X r 1)) r) := by { have := hs5; rw [HEQ.out.1] at this; exact this.trans HS4.out }; have HB5 : Hid (Below w1.heap.size w1 w5) := HB4.out.trans (by { have := hb5; rw [HEQ.out.2.2.2.1] at this; exact this }); have HQ5 : Hid (∀ i, top ≤ i → i < r → J5 i c = 0) := fun i h1 h2 => by { rw [hq5 i c h1]; exact HZ.out i h1 (by omega) }; have v5 := (HVA.out.later HB5.out).c1; clear hx5 ha5 hs5 hb5 hq5) | (at_make; refine wpList_make_full _ rfl _ _ 22 rfl w5.heap.size 5 i0 (.int .u8 0) 1 Tryz.underlying22 hi8 hz0 hz1 .i64 .i64 _ _ c rfl rfl rfl rfl (by rw [hz2]; omega) hml (Nat.le_refl _) ?_; intro w6 hown hgrow; have HR6 : Hid (RowAt w6 w5.heap.size 5 c (fun _ => 0)) := qct hown; have HB6 : Hid (Below w5.heap.size w5 w6) := qa8.mp hgrow; have c6 := qah (qa8.mp hgrow) HX5.out.fix.c2; clear hown hgrow))
    have hz5 : w1.heap.size ≤ w5.heap.size := HB5.out.size
    go_loopw [61] (fun si wr => ∃ i : Nat, si = .int .i64 (i : Int) ∧ i ≤ top ∧ Hid (RowAt wr w5.heap.size 5 c (pp p i (fun t => J5 t c))) ∧ Hid (Below w5.heap.size w5 wr)) (fun si _ => top - (intOf si).toNat)
    case atStart => exact ⟨0, rfl, by omega, HR6.out.congr (fun j _ => rfl), HB6.out⟩
    case round =>
     clear HR6 HB6 c6
     obtain ⟨i, rfl, hit, HRW6, HBW⟩ := hrel
     by_cases hlt : i < top
     ·obtain ⟨b8, o8, hcl, hc8, hy⟩ := HRW.out _ _ HX5.out i (by omega)
      obtain ⟨y, HY⟩ : ∃ y, Hid (J5 i c = y) := ⟨_, rfl⟩
      rw [HY.out] at hc8 hy
      obtain ⟨bp, op, eps, hcp⟩ := HX5.out.fix.piv.il i hlt
      dsimp only at hcp
      obtain ⟨pi, HPI⟩ : ∃ pi, Hid (p i = pi) := ⟨_, rfl⟩
      rw [HPI.out] at hcp
      have hpc : pi < c := by rw [← HPI.out]; exact HA5.out.ech.lt i hlt
      have HEP : Hid (ps = some ⟨bp, op, none⟩) := eps
      have d1 := qah HBW.out hcl
      have d2 := qah HBW.out hc8
      have d3 := qah HBW.out hcp
      have d4 := HRW6.out.cell pi hpc
      have d5 := HRW6.out.free pi
      have hpi : (pi : Int) < (c : Int) := by omega
      have hii : (i : Int) < (r : Int) := by omega
      clear hcl hc8 hcp
      subst eps
      go_wp2
      refine ⟨⟨i + 1, by go_num, by omega, (HRW6.out.set pi y).congr (fun j _ => ?_), HBW.out.setCell (Nat.le_refl _) _⟩, by simp [intOf]; omega⟩
      rw [← HPI.out, ← HY.out]
      exact qhe HA5.out.ech.up hlt (fun t => J5 t c) j
     ·obtain rfl : i = top := by omega
      go_wp2
      go_ret3
      exact .inl ⟨_, _, _, rfl, HRW6.out.mt (fun j _ => qkr p i (fun t => HX5.out.el t c) j), qm0 HX5.out.el HA.out.sl.1 HR.out HBS.out.1 HS5.out HA5.out HQ5.out, HRW6.out.frs (by omega) (by omega), qa0 HB1.out (HB5.out.trans (HBW.out.mono hz5))⟩
theorem gcomb_x (w : World) (r c n k kb : Nat) (a b : Option Addr) (F Y : Nat → Nat) (ha : Mt w a n k F) (R : Rt r c n) (hb : Sl w b c Y) : Calls Tryz.prog 31 #[mv r c a n k, .slice b c kb] w fun e w' => (∃ s d x, e = .returned (.tuple #[.slice s r d, .bool true, .int .i64 0]) ∧ Mt w' s r d x ∧ CmbA F Y r c x ∧ Frs w' w.heap.size s r d ∧ Below w.heap.size w w') ∨ (NoneP w w' e 0 ∧ ¬ Spn (m2 F r c) r (ext0 Y c)) := by
 have HA : Hid (Mt w a n k F) := ha
 have HBS : Hid (Sl w b c Y) := hb
 have HR : Hid (Rt r c n) := R
 clear ha R hb
 go_enter Tryz.func31, Tryz.ntmps31
 go_wp2_with (first
  | (go_at_call 57; refine (qd9 _ r c n k a F (HA.out.later (qa1 _ _)) HR.out).mono ?_; rintro e w1 ⟨gt, rfl, hr1, _, hb1⟩; have HB1 : Hid (Below w.heap.size w w1) := qa0 (qa1 _ _) hb1; have HM1 : Hid (Mt w1 (some ⟨gt, 0, none⟩) n n (trf F r c)) := hr1.mt (trf_lt HA.out.sl.1 HR.out); have va := Vr.new w1 (.int .i64 (c : Int)) (.int .i64 (r : Int)) (.slice (some ⟨gt, 0, none⟩) n n); have a0 := va.c0; have a1 := va.c1; have a2 := va.c2; clear hr1 hb1 va)
  | (go_at_call 66; refine (gsolve_x _ c r n n kb (some ⟨gt, 0, none⟩) b (trf F r c) Y (HM1.out.later (qa1 _ _)) HR.out.turn (HBS.out.later (qa0 HB1.out (qa1 _ _)))).mono ?_; rintro e w2 h2; have HB2 : Hid (Below w.heap.size w (w1.alloc (.cells #[.int .i64 (c : Int), .int .i64 (r : Int), .slice (some ⟨gt, 0, none⟩) n n] 24))) := qa0 HB1.out (qa1 _ _); rcases h2 with ⟨s, d, x, rfl, hm2, hs2, hf2, hb2⟩ | ⟨⟨rfl, hb2⟩, hn2⟩))
 ·go_ret3
  exact .inl ⟨s, d, x, rfl, hm2, cmba_of HA.out.sl.1 HR.out hs2, hf2.mono HB2.out.size, qa0 HB2.out hb2⟩
 ·go_ret3
  refine .inr ⟨⟨rfl, qa0 HB2.out hb2⟩, fun hs => ?_⟩
  obtain ⟨x, hx⟩ := qjr HA.out.sl.1 HR.out hs
  exact hn2 x hx
theorem qm4 (w : World) (r c n k kb : Nat) (a b : Option Addr) (F Y : Nat → Nat) (ha : Mt w a n k F) (R : Rt r c n) (hb : Sl w b c Y) (hs : Spn (m2 F r c) r (ext0 Y c)) : Calls Tryz.prog 31 #[mv r c a n k, .slice b c kb] w fun e w' => LstP w w' e r (CmbA F Y r c) :=
 (gcomb_x w r c n k kb a b F Y ha R hb).mono fun _ _ h => by
  rcases h with ⟨s, d, x, h1, h2, h3, _, h5⟩ | ⟨_, h2⟩
  ·exact ⟨s, d, x, h1, h2, h3, h5⟩
  ·exact absurd hs h2
end Go.Proofs.YtblagbghpfopcaaGreat
