/-
  Stage 21: valuesOf.
-/
import Derived.Test.YtkfnedpnkeacpaaQffsh00
import Derived.Test.YtkfnedpnkeacpaaQffsh31
import Derived.Test.YtkfnedpnkeacpaaQffsh08
set_option maxRecDepth 100000
set_option maxHeartbeats 16000000
namespace Go.Proofs.Ytkfnedpnkeacpaa
open Go.RowKit
/-- Blocks of one length. -/
structure Bl (w : World) (b : Option Addr) (n T : Nat) (A : Nat → Option Addr) (C : Nat → Nat) (f : Nat → Nat → Nat) : Prop where
 rl : Rl w b n A (fun _ => T) C f
 room : ∀ i, i < n → T ≤ C i
theorem Bl.later {w w' : World} {b : Option Addr} {n T : Nat} {A : Nat → Option Addr} {C : Nat → Nat} {f : Nat → Nat → Nat} (h : Bl w b n T A C f) (hb : Below w.heap.size w w') : Bl w' b n T A C f := ⟨h.rl.later hb, h.room⟩
theorem Vx.imp {w : World} {P : Nat → Prop} {gv N L : Nat} {vs : Nat → Value} {m m' : Nat → Prop} {x : Nat → Nat → Nat} (h : Vx w P gv N L vs m x) (hi : ∀ v, v < N → m' v → m v) : Vx w P gv N L vs m' x :=
 ⟨h.ga, fun v hv hm => h.at' v hv (hi v hv hm)⟩
theorem Vx.beside {w w' : World} {P : Nat → Prop} {gv N L g : Nat} {vs : Nat → Value} {m : Nat → Prop} {x : Nat → Nat → Nat} (h : Vx w P gv N L vs m x) (hg : w.grownBy w' (some g)) (hP : P g) (hne : g ≠ gv) : Vx w' P gv N L vs m x :=
 ⟨h.ga.kept hg (fun e => hne (by cases e; rfl)), fun v hv hm => by
  obtain ⟨s, c, e, ho, hs⟩ := h.at' v hv hm
  exact ⟨s, c, e, ho, hs.kept hg (ho _ hP)⟩⟩
theorem Vx.put {w : World} {P : Nat → Prop} {gv N L v c : Nat} {vs : Nat → Value} {m m' : Nat → Prop} {x : Nat → Nat → Nat} {s : Option Addr} (h : Vx w P gv N L vs m x) (hP : P gv) (hs : Sl w s L (x v)) (ho : ∀ b, P b → Off b s) (hi : ∀ u, u < N → m' u → m u ∨ u = v) :
  Vx (w.setCell ⟨gv, v, none⟩ (.slice s L c)) P gv N L (fun u => if u = v then .slice s L c else vs u) m' x :=
 ⟨h.ga.set v _, fun u hu hm => by
  by_cases e : u = v
  ·subst e
   exact ⟨s, c, by rw [if_pos rfl], ho, hs.kept (qa2 _ _ _ _) (ho _ hP)⟩
  ·rcases hi u hu hm with h1 | h1
   ·obtain ⟨s', c', e', ho', hs'⟩ := h.at' u hu h1
    exact ⟨s', c', by rw [if_neg e]; exact e', ho', hs'.kept (qa2 _ _ _ _) (ho' _ hP)⟩
   ·exact absurd h1 e⟩
/-- Values are answered. -/
def VxA (w0 w : World) (P : Nat → Prop) (N L : Nat) (m : Nat → Prop) (x : Nat → Nat → Nat) (e : Ending) : Prop := ∃ (g : Nat) (vs : Nat → Value), e = .returned (.slice (some ⟨g, 0, none⟩) N N) ∧ w0.heap.size ≤ g ∧ Vx w (fun b => b = g ∨ P b) g N L vs m x
theorem jsl8 : (Try.prog.info? 22).map (fun i => (i.zero, i.size, i.bytes)) = some (some (.slice none 0 0), 1, 24) := by kernel_rfl
theorem qej (w : World) (P : Nat → Prop) (a b c bl : Option Addr) (p q r nb kb gm N T fr L : Nat) (F : Fl) (m : Nat → Bool) (A : Nat → Option Addr) (C : Nat → Nat) (bt : Nat → Nat → Nat)
  (h : FlR w a b c F) (hM : MayP F) (hN : F.ni + F.nn = N) (hG : Ga w gm 4 N (fun i => .bool (m i))) (hmc : ∀ v j, v < N → m v = true → j < tn F v → m (tv F v j) = true) (hB : Bl w bl nb T A C bt) (hI : ∀ i, i < F.ni → F.inp i < (nb : Int)) (hP : ∀ b, P b → b < w.heap.size) (hPA : ∀ z b, z < nb → P b → Off b (A z)) (hT : T ≤ 140737488351232) (hL : 0 < L) (hto : fr + L ≤ T) :
  Calls Try.prog 54 #[flv a F.ni p b F.nn q c F.no r, .slice (some ⟨gm, 0, none⟩) N N, .slice bl nb kb, .int .i64 (fr : Int), .int .i64 ((fr + L : Nat) : Int)] w fun e w' => VxA w w' P N L (fun v => m v = true) (fun v i => vlx F bt v (fr + i)) e ∧ Below w.heap.size w w' := by
 obtain ⟨i0, hi0, hz0, hz1, hz2⟩ := info_parts jsl8
 have hi := h.hi
 have hn := h.hn
 have hn4 := hM.n4
 have hi64 := hM.inp.le
 have hN7 : N ≤ 4160 := by omega
 have hml : N ≤ maxLen := by unfold maxLen; omega
 have HH := qa0 h
 have HM := qa0 hM
 have HG := qa0 hG
 have HBl := qa0 hB
 have HI := qa0 hI
 have HMC := qa0 hmc
 have HPl := qa0 hP
 have HPA := qa0 hPA
 obtain ⟨x, HX⟩ : ∃ x : Nat → Nat → Nat, Hid ((fun v i => vlx F bt v (fr + i)) = x) := ⟨_, rfl⟩
 have HX1 : Hid (∀ v, v < F.ni → x v = fun i => bt (F.inp v).toNat (fr + i)) := fun v hv => by rw [← HX.out]; funext i; show vlx F bt v (fr + i) = _; rw [qfg hv]
 have HX2 : Hid (∀ v, F.ni ≤ v → v < N → x v = sx (fun j => x (tv F v j)) (F.fc (v - F.ni)) (tn F v)) := fun v h1 h2 => by
  rw [← HX.out]
  funext i
  show vlx F bt v (fr + i) = _
  rw [qcm hM h1 (by omega)]
  have : ∀ k, sx (fun j => vlx F bt (tv F v j)) (F.fc (v - F.ni)) k (fr + i) = sx (fun j i => vlx F bt (tv F v j) (fr + i)) (F.fc (v - F.ni)) k i := by
   intro k
   induction k with
   | zero => rfl
   | succ k ih => show _ ^^^ _ = _ ^^^ _; rw [ih]
  exact this _
 rw [HX.out]
 obtain ⟨Q, HQ⟩ : ∃ Q : World → Ending → Prop, Hid ((fun w2 e => VxA w w2 P N L (fun v => m v = true) x e) = Q) := ⟨_, rfl⟩
 have HQ2 : Hid (∀ (w2 : World) (g : Nat) (vs : Nat → Value), w.heap.size ≤ g → Vx w2 (fun b => b = g ∨ P b) g N L vs (fun v => m v = true) x → Q w2 (.returned (.slice (some ⟨g, 0, none⟩) N N))) := fun w2 g vs h1 h2 => by
  rw [← HQ.out]
  exact ⟨g, vs, rfl, h1, h2⟩
 show Calls _ _ _ _ fun e w' => (fun w2 e => VxA w w2 P N L (fun v => m v = true) x e) w' e ∧ _
 rw [HQ.out]
 have HCnt := qa0 (fun w2 => qci w2 a b c F.ni p F.nn q F.no r hi hn)
 have hN2 : ((F.ni : Int) + (F.nn : Int)) = (N : Int) := by rw [← hN]; simp
 rw [hN2] at HCnt
 have HTr := qa0 (fun (w2 : World) (hb : Below w.heap.size w w2) (v : Nat) (hv : v < N) => qck w w2 a b c p q r F h hb v (by omega))
 have HB0 := qa0 (jlow w (.cells #[.slice a F.ni p, .slice b F.nn q, .slice c F.no r] 28))
 have HV0 := qa0 (Vf.new w 28 #[.slice a F.ni p, .slice b F.nn q, .slice c F.no r])
 have HNi := qa0 hN
 obtain ⟨ni, HNi1⟩ : ∃ x, Hid (F.ni = x) := ⟨_, rfl⟩
 obtain ⟨nn, HNn⟩ : ∃ x, Hid (F.nn = x) := ⟨_, rfl⟩
 obtain ⟨no, HNo⟩ : ∃ x, Hid (F.no = x) := ⟨_, rfl⟩
 rw [HNi1.out, HNn.out, HNo.out] at HCnt HB0 HV0 HTr ⊢
 rw [HNi1.out] at HX1 HX2 HI hi hi64
 have hnN : ni ≤ N := by have := HNi.out; have := HNi1.out; omega
 have wL : IntKind.i64.wrap (((fr + L : Nat) : Int) - (fr : Int)) = (L : Int) := by rw [IntKind.wrap_i64]; omega
 have hto2 : fr + L ≤ 140737488351232 := by omega
 clear hP hPA h hM hN hN2 hG hmc hB hI HQ HX hn hn4
 go_enter Try.func54, Try.ntmps54
 go_wp2
 go_step3
 go_wp2_with (first
  | (go_at_call 52; refine (HCnt.out _).mono ?_; rintro e w1 ⟨rfl, hb1⟩; have HB1 := qa0 (jtwo HB0.out hb1); have HV1 := qa0 (HV0.out.later hb1); clear hb1)
  | (at_make; refine wpList_make_full _ rfl _ _ 41 rfl w1.heap.size 22 i0 (.slice none 0 0) 1 Try.underlying41 hi0 hz0 hz1 .i64 .i64 _ _ N rfl rfl rfl rfl (by rw [hz2]; omega) hml (Nat.le_refl _) ?_; intro w2 hown hgrow; have HG2 : Hid (Ga w2 w1.heap.size 22 N (fun _ => .slice none 0 0)) := qbi rfl hown; have hb2 : Below w1.heap.size w1 w2 := qag.mp hgrow; have HB2 := qa0 (jtwo HB1.out hb2); have HV2 := qa0 (HV1.out.later hb2); have hg2 : w.heap.size < w1.heap.size := HV1.out.lt; clear hown hgrow hb2))
 go_step3
 go_wp2
 obtain ⟨g, HGe⟩ : ∃ g, Hid (w1.heap.size = g) := ⟨_, rfl⟩
 rw [HGe.out] at HG2 hg2 ⊢
 have HI0 : Hid (Vx w2 (fun b => b = g ∨ P b) g N L (fun _ => .slice none 0 0) (fun u => u < 0 ∧ m u = true) x) := ⟨HG2.out, fun u hu h => by omega⟩
 clear HB1 HV1 HGe HCnt HB0 HV0 HG2
 go_loopw [18] (fun vi wr => ∃ (v : Nat) (vs : Nat → Value), v ≤ N ∧ vi = .int .i64 (v : Int) ∧ Vx wr (fun b => b = g ∨ P b) g N L vs (fun u => u < v ∧ m u = true) x ∧ Vf wr w.heap.size 28 #[.slice a ni p, .slice b nn q, .slice c no r] ∧ Below w.heap.size w wr) (fun vi _ => N - (intOf vi).toNat)
 case atStart => exact ⟨0, _, by omega, rfl, HI0.out, HV2.out, HB2.out⟩
 case round =>
  clear HI0 HV2 HB2
  obtain ⟨v, vs, hv, rfl, hX, hv3, hb3⟩ := hrel
  have HX3 := qa0 hX
  have HV3 := qa0 hv3
  have HB3 := qa0 hb3
  have x0 := hv3.cell 0 (.slice a ni p) rfl
  clear hX hv3
  by_cases hlt : v < N
  ·have m0 := (HG.out.later hb3).cell v hlt
   have q0 : (0 : Int) ≤ (v : Int) := by omega
   have q1 : (v : Int) < (N : Int) := by omega
   cases hmv : m v with
   | false =>
    have HMv := qa0 hmv
    rw [hmv] at m0
    clear hmv hb3
    go_wp2
    exact ⟨⟨v + 1, vs, by omega, by go_num, HX3.out.imp (fun u hu ⟨h1, h2⟩ => ⟨by
     by_cases e : u = v
     ·rw [e, HMv.out] at h2; cases h2
     ·omega, h2⟩), HV3.out, HB3.out⟩, by simp [intOf]; omega⟩
   | true =>
    have HMv := qa0 hmv
    rw [hmv] at m0
    clear hmv
    by_cases hin : v < ni
    ·have ho := HI.out v hin
     obtain ⟨ib, io, rfl, i1⟩ := (HH.out.inp.later hb3) v (by rw [HNi1.out]; exact hin)
     have hi2 := HM.out.inp v (by rw [HNi1.out]; exact hin)
     obtain ⟨z, HZ⟩ : ∃ z, Hid ((F.inp v).toNat = z) := ⟨_, rfl⟩
     have e1 : F.inp v = (z : Int) := by have := HZ.out; omega
     rw [e1] at i1 ho
     have hz : z < nb := by omega
     obtain ⟨bb, bo, rfl, b0⟩ := (HBl.out.rl.later hb3).at' z hz
     have hr := HBl.out.room z hz
     have hs := HBl.out.rl.sl z hz
     obtain ⟨k, HK⟩ : ∃ k, Hid (C z = k) := ⟨_, rfl⟩
     rw [HK.out] at hr b0
     try dsimp only at b0 hs
     obtain ⟨sb, so, es, _⟩ := hs.2 0 (by omega)
     have hPz := fun b hb => HPA.out z b hz hb
     rw [es] at b0 hs hPz
     have HPz := qa0 hPz
     have HS := qa0 hs
     have z0 : (0 : Int) ≤ (z : Int) := by omega
     have z1 : (z : Int) < (nb : Int) := by omega
     have r0 : (0 : Int) ≤ (fr : Int) := by omega
     have r1 : (fr : Int) ≤ ((fr + L : Nat) : Int) := by omega
     have r2 : ((fr + L : Nat) : Int) ≤ (k : Int) := by omega
     have HOf : Hid (∀ y, (y = g ∨ P y) → Off y (some ⟨sb, so + fr, none⟩)) := fun y hy => by
      rcases hy with rfl | hy
      ·intro u hu
       cases hu
       obtain ⟨b', o', e', hc'⟩ := hs.2 0 (by omega)
       cases e'
       have := qa5 hc'
       show sb ≠ _
       omega
      ·intro u hu
       cases hu
       exact HPz.out y hy ⟨sb, so, none⟩ rfl
     have HSp : Hid (Sl wr (some ⟨sb, so + fr, none⟩) L (x v)) := by
      have h1 := (hs.later hb3).piece (p := fr) (c := L) hto
      have e2 : pc (some ⟨sb, so, none⟩) fr L = some ⟨sb, so + fr, none⟩ := by
       unfold pc
       rw [if_neg (by omega)]
       show some (Addr.add _ _) = _
       rw [add_plain]
      rw [e2] at h1
      rw [HX1.out v (by rw [HNi1.out] at *; exact hin), HZ.out]
      exact h1
     have g0 := HX3.out.ga.cell v hlt
     have gf := HX3.out.ga.free v
     clear hs es hi2 hb3 hPz
     go_wp2
     exact ⟨⟨v + 1, _, by omega, by go_num, HX3.out.put (.inl rfl) HSp.out HOf.out (fun u hu ⟨h1, h2⟩ => by
      by_cases e : u = v
      ·exact .inr e
      ·exact .inl ⟨by omega, h2⟩), HV3.out.kept (qa2 _ _ _ _) (fun e => by cases e; omega), HB3.out.setCell (by show w.heap.size ≤ g; omega) _⟩, by simp [intOf]; omega⟩
    ·have HT2 := qa0 (HTr.out wr hb3 v hlt)
     have x1 := HV3.out.cell 1 (.slice b nn q) rfl
     have x2 := HV3.out.cell 2 (.slice c no r) rfl
     obtain ⟨tl, HTL⟩ : ∃ l, Hid (tn F v = l) := ⟨_, rfl⟩
     have g0 := HX3.out.ga.cell v hlt
     have gf := HX3.out.ga.free v
     have HXv : Hid (x v = sx (fun j => x (tv F v j)) (F.fc (v - F.ni)) tl) := by rw [HX2.out v (by omega) hlt, HTL.out, HNi1.out]; exact rfl
     have HTm : Hid (∀ j, j < tl → F.of (v - F.ni) j = (tv F v j : Int) ∧ tv F v j < N ∧ (tv F v j < v ∧ m (tv F v j) = true)) := fun j hj => by
      have h1 := HM.out.term (v := v) (j := j) (by have := HNi.out; omega) (by rw [HTL.out]; exact hj)
      exact ⟨h1.1, by omega, h1.2.1, HMC.out v j hlt HMv.out (by rw [HTL.out]; exact hj)⟩
     clear hb3
     go_wp2_with (first
      | (go_at_call 45; refine HT2.out.mono ?_; rintro e w4 ⟨⟨t, d, rfl, ht, hn⟩, hb4⟩; rw [HTL.out] at ht hn ⊢; have HTT := qa0 ht; have HX4 := qa0 (HX3.out.later hb4); have HV4 := qa0 (HV3.out.later hb4); have HB4 := qa0 (jtwo HB3.out hb4); clear ht hb4)
      | (go_at_call 58; rw [show ((fr : Int) + (L : Int) - (fr : Int)) = (L : Int) by omega]; refine (qei w4 (fun b => b = g ∨ P b) t tl d g N L (F.of (v - F.ni)) (tv F v) (F.fc (v - F.ni)) vs (fun u => u < v ∧ m u = true) x (HTT.out.later HB4.out) HTm.out HX4.out hn (by omega)).mono ?_; rintro e w5 ⟨⟨gs, rfl, hgs, hG5⟩, hb5⟩; have HG5 := qa0 hG5; have HX5 := qa0 (HX4.out.later hb5); have HV5 := qa0 (HV4.out.later hb5); have HB5 := qa0 (jtwo HB4.out hb5); have hgl := HX4.out.ga.lt; have hgs2 := hgs; have g1 := HX5.out.ga.cell v hlt; have gf1 := HX5.out.ga.free v; clear hG5 hb5 hgs))
     have HSs : Hid (Sl w5 (some ⟨gs, 0, none⟩) L (x v)) := by
      refine ⟨fun i _ => ?_, fun i hi => ⟨gs, 0, rfl, ?_⟩⟩
      ·rw [HXv.out]
       exact sx_lt _ fun j hj => (HTT.out j hj).1
      ·rw [Nat.zero_add, HG5.out.cell i hi, HXv.out]
     exact ⟨⟨v + 1, _, by omega, by go_num, HX5.out.put (.inl rfl) HSs.out (fun y hy u hu => by
      cases hu
      show gs ≠ y
      rcases hy with rfl | hy
      ·omega
      ·have := HPl.out y hy; have := HB4.out.size; omega) (fun u hu ⟨h1, h2⟩ => by
      by_cases e : u = v
      ·exact .inr e
      ·exact .inl ⟨by omega, h2⟩), HV5.out.kept (qa2 _ _ _ _) (fun e => by cases e; omega), HB5.out.setCell (by show w.heap.size ≤ g; omega) _⟩, by simp [intOf]; omega⟩
  ·obtain rfl : v = N := by omega
   clear hb3
   go_wp2
   try rw [Exit.noGoto_ret]
   go_ret
   exact ⟨HQ2.out _ g vs (by omega) (HX3.out.imp fun u hu hm => ⟨hu, hm⟩), HB3.out⟩
end Go.Proofs.Ytkfnedpnkeacpaa
