/-
  Proved: for every expression and every environment that may be, the program's Eval hangs neither on the environment's order nor on a name more that the expression has not; else Eval tells the fault of its arguments (P12.4); no condition.
-/
import Derived.Test.YtgmndjbicandfaaDoorQtted00
import Derived.Test.YtgmndjbicandfaaDoorQtted37
import Derived.Test.YtgmndjbicandfaaDoorTie
import Derived.Test.YtgmndjbicandfaaDoorCards
import Derived.Test.YtgmndjbicandfaaDoorQtted38
import Derived.Test.YtgmndjbicandfaaDoorQtted40
import Derived.WalkKit
import Derived.SizedLaws
import Derived.ProofKit
import Derived.LaidMore
import Derived.OpenShut
import Derived.ShutString
import Derived.ChangeOld
import Derived.Below
import Derived.Stop.Joined
import Derived.SevenTiedAt
import Derived.Lib.SmallJoins
import Derived.Lib.LaidTab
import Derived.MakeChecks
import Derived.Handed
import Derived.Stop.LaidErr
set_option maxRecDepth 100000
set_option maxHeartbeats 16000000
namespace Go.Proofs.YtgmndjbicandfaaDoor.numberTurned
open Go.ChangeShapes Go.WideShapes Go.ChangeAt Go.RowKit Go.Joins
set_option linter.unusedVariables false
theorem own : ownKnob Tryd.prog.godebug = none := by kernel_rfl
theorem laidOut : laidOutB Tryd.prog = true := by kernel_rfl
/-- What the listed variables hold. -/
def laidL : List (String × DataW Unit) := [("recoup/token.words", Rows.laid_recoup_token_words)]
theorem door_met (os : Os) (args : Array Value) : laidMetH Tryd.prog laidL ((World.doorLaid Tryd.prog 4000 os).forCall (fun _ _ => 0) ⟨#[], args, []⟩).memory :=
 laidMetH_of_parts3 (fuel := 8) (laidMet_of_run' 8 (by kernel_rfl) (by kernel_rfl)) (by kernel_rfl) (by kernel_rfl)
theorem gWds : Tryd.prog.globalNamed "recoup/token.words" = some 0 := by kernel_rfl
theorem tWds : (Tryd.prog.globals[0]?).map (·.type) = some 117 := by kernel_rfl
theorem dWds : (Rows.laid_recoup_token_words : DataW Unit) = .agg ((wds.map fun x => x.data.toList).map fun z => .lit (.string z)) := by kernel_rfl
theorem of_words {W : World} (h : laidMet Tryd.prog laidL W) : Wt9 W := by
 have hk := h
 obtain ⟨ps, ⟨g0, t0, cs0, f0, p0, q0, hg0, ht0, hv0, hd0, _, _⟩, _, _⟩ := hk
 obtain rfl := Option.some.inj (gWds.symm.trans hg0)
 obtain rfl := Option.some.inj (tWds.symm.trans ht0)
 rw [dWds] at hd0
 have hc := qbb Tryd.underlying117 Tryd.underlying9 (by kernel_rfl) (by kernel_rfl) hd0
 unfold Wt9
 rw [hv0]
 obtain ⟨l⟩ := cs0
 have hl : l = wds.map Value.string := hc.trans (by kernel_rfl)
 rw [hl]
theorem walk (v0 : Value) (T0 : Xt) (a1 : Option Addr) (len1 cap1 : Nat) (F1 : Nat → Cn) (w : World) (w0 : XV w v0 T0) (w1 : EL w a1 len1 F1) (l1 : len1 ≤ 5864062014634) (t1 : Wt9 w) :
  Calls Tryd.prog 6 #[v0, .slice a1 len1 cap1] w fun e w' => e = .returned (.bool true) ∧ Below w.heap.size w w' := by
 have hOk : ∀ i, i < len1 → CnOk (F1 i) := fun i hi => (w1 i hi).1
 have HTa := qa0 t1
 obtain ⟨V, HVV⟩ : ∃ V, Hid (evl F1 len1 T0 = V) := ⟨_, rfl⟩
 obtain ⟨V2, HV2⟩ : ∃ V, Hid (evl (tH F1 len1 3) (len1 + 1) T0 = V) := ⟨_, rfl⟩
 have H1 : Hid (∀ w' : World, Below w.heap.size w w' → Calls Tryd.prog 8 #[v0, .slice a1 len1 cap1] w' fun e w'' => e = .returned (vtV V) ∧ Below w'.heap.size w' w'') := fun w' hb => by rw [← HVV.out]; exact qbn w' T0 v0 a1 len1 cap1 F1 (w0.later hb) (w1.later hb) (by omega) (t1.later hb)
 have HME : Hid (∀ w' : World, Below w.heap.size w w' → Calls Tryd.prog 18 #[.slice a1 len1 cap1] w' fun e w'' => e = .returned (.bool (mayE F1 len1)) ∧ Below w'.heap.size w' w'') := fun w' hb => rmayenv w' a1 len1 cap1 F1 (w1.later hb) (by omega)
 have HMX : Hid (∀ w' : World, Below w.heap.size w w' → Calls Tryd.prog 19 #[v0] w' fun e w'' => e = .returned (.bool (mayX T0)) ∧ Below w'.heap.size w' w'') := fun w' hb => qbu w' T0 v0 (w0.later hb)
 have HAn : Hid (∀ w' : World, Below w.heap.size w w' → Calls Tryd.prog 17 #[] w' fun e w'' => e = .returned (.bool true) ∧ Below w'.heap.size w' w'') := fun w' hb => qd9 w' (t1.later hb)
 have HEL := qa0 w1
 have HNm : Hid (mayX T0 = true → ∀ w' : World, Below w.heap.size w w' → Calls Tryd.prog 11 #[v0] w' fun e w'' => NmA w'' w'.heap.size e T0 ∧ Below w'.heap.size w' w'') := fun h w' hb => qe2 w' T0 v0 (w0.later hb) h
 obtain ⟨L, HLr⟩ : ∃ L, Hid (rvE F1 len1 = L) := ⟨_, rfl⟩
 obtain ⟨LL, HLL⟩ : ∃ LL, Hid (L ++ [(⟨zzn, 3⟩ : Cn)] = LL) := ⟨_, rfl⟩
 obtain ⟨LZ, HLZ⟩ : ∃ LL, Hid (L ++ [(⟨zzn, 0⟩ : Cn)] = LL) := ⟨_, rfl⟩
 have hLl : L.length = len1 := by rw [← HLr.out]; exact qbo F1 len1
 have hLLl : LL.length = len1 + 1 := by rw [← HLL.out, List.length_append, hLl]; rfl
 have hLZl : LZ.length = len1 + 1 := by rw [← HLZ.out, List.length_append, hLl]; rfl
 have HEv0 : Hid (∀ (B0 : Nat) (w5 W : World) (x : Option Addr) (d : Nat), w.heap.size ≤ B0 → Below w.heap.size w w5 → Below B0 w5 W → Cw W B0 (.slice x LL.length d) LL → Calls Tryd.prog 8 #[v0, .slice x LL.length d] W fun e w'' => e = .returned (vtV V2) ∧ Below W.heap.size W w'') := fun B0 w5 W x d hB hb5 hb hC => by
  have hbW : Below w.heap.size w W := hb5.trans (hb.mono hB)
  have hE := (hC.el (by rw [← HLL.out, ← HLr.out]; exact qc7 3 (by omega) hOk)).2
  have h := qbn W T0 v0 x LL.length d (fun i => LL.getD i cn0) (w0.later hbW) hE (by omega) (t1.later hbW)
  have e : evl (fun i => LL.getD i cn0) LL.length T0 = V2 := by rw [hLLl, ← HV2.out, ← HLL.out, ← HLr.out]; rfl
  rw [e] at h
  exact h
 have HMz0 : Hid (∀ (B0 : Nat) (W : World) (x : Option Addr) (d : Nat), Cw W B0 (.slice x LZ.length d) LZ → Calls Tryd.prog 18 #[.slice x LZ.length d] W fun e w'' => e = .returned (.bool (mayE (tH F1 len1 3) (len1 + 1))) ∧ Below W.heap.size W w'') := fun B0 W x d hC => by
  have hE := (hC.el (by rw [← HLZ.out, ← HLr.out]; exact qc7 0 (by omega) hOk)).2
  have h := rmayenv W x LZ.length d (fun i => LZ.getD i cn0) hE (by omega)
  have e : mayE (fun i => LZ.getD i cn0) LZ.length = mayE (tH F1 len1 3) (len1 + 1) := by rw [← qd7, hLZl, ← HLZ.out, ← HLr.out]; rfl
  rw [e] at h
  exact h
 have hlim : (L.length + 1) * 24 ≤ 140737488355328 := by omega
 have HA2 : Hid (mayE F1 len1 = true → mayX T0 = true → mayE (tH F1 len1 3) (len1 + 1) = true → zzn.data.toList ∉ nmx 16 T0 → V2 = V) := fun h1 _ h2 h3 => by rw [← HVV.out, ← HV2.out]; exact qcg h2 h1 h3
 have HA3 : Hid (mayE F1 len1 = true → mayX T0 = true → nmB V.v = true) := fun h1 h2 => by rw [← HVV.out]; exact qd8 h1 h2
 have HA4 : Hid (mayE (tH F1 len1 3) (len1 + 1) = false → V2.c = 2) := fun h => by rw [← HV2.out]; unfold evl; rw [h]; rfl
 have HA5 : Hid ((mayE F1 len1 = true ∧ mayX T0 = true) ∨ V.c = 2) := by
  show _ ∨ _
  rw [← HVV.out]
  unfold evl
  cases h1 : mayE F1 len1 with
  | false => exact .inr rfl
  | true =>
   cases h2 : mayX T0 with
   | false => exact .inr rfl
   | true => exact .inl ⟨rfl, rfl⟩
 obtain ⟨i0, hi0, hz0, hz1, hz2⟩ := info_parts jcnst
 clear HVV HV2 w1 t1 hOk
 obtain ⟨Vv, Vc, Vl, Vk⟩ := V
 obtain ⟨V2v, V2c, V2l, V2k⟩ := V2
 unfold vtV at H1 HEv0
 dsimp only at H1 HEv0 HA3 HA4 HA5
 obtain ⟨⟨a, cap, rfl, _⟩, _⟩ := w0
 generalize hT0 : T0 [] = l at *
 obtain ⟨k, n, nm, len, ln, cl⟩ := l
 dsimp only at H1 HEv0 HMX HNm ⊢
 clear hT0
 obtain ⟨wb, HW⟩ : ∃ wb, Hid (wb = w.alloc (.cells #[.int .u8 (k : Int), .int .i64 n, .string nm, .slice a len cap, .int .i64 ln, .int .i64 cl] 25)) := ⟨_, rfl⟩
 have HX : Hid (Vn wb w.heap.size 25 #[.int .u8 (k : Int), .int .i64 n, .string nm, .slice a len cap, .int .i64 ln, .int .i64 cl]) := by show Vn _ _ _ _; rw [HW.out]; exact Vn.new w _ _
 have HB := qa0 (show Below w.heap.size w wb by rw [HW.out]; exact jlow _ _)
 have c0 := HX.out.cell 0 _ rfl
 have c1 := HX.out.cell 1 _ rfl
 have c2 := HX.out.cell 2 _ rfl
 have c3 := HX.out.cell 3 _ rfl
 have c4 := HX.out.cell 4 _ rfl
 have c5 := HX.out.cell 5 _ rfl
 have hxb := HX.out.lt
 have M1 : True := trivial
 have hC := HA5.out
 cases h1 : mayE F1 len1 with
 | false =>
  have hVc : Vc = 2 := by
   rcases hC with h | h
   ·rw [h1] at h; cases h.1
   ·exact h
  subst hVc
  rw [h1] at HME
  clear hC HA2 HA3 HA4 HA5 HEv0 HMz0 HNm
  go_enter Tryd.func6, Tryd.ntmps6
  go_wp2_with (first
   | rw [← HW.out]
   | (go_at_call 8; go_loud (refine (H1.out _ HB.out).mono ?_; rintro e w2 ⟨rfl, hb2⟩; have HB2 := qa0 (jtwo HB.out hb2); have HX2 := qa0 (HX.out.later hb2); clear hb2))
   | (clear M1; refine qa1 rfl 29 _ _ rfl w2.heap.size _ #[.int .i64 2, .int .i64 Vl, .int .i64 Vk] rfl rfl (Vn.new w2 _ _) sizeFau rfl (all3 rfl rfl rfl) ?_; intro w3 HG3 hg3; go_loud (have hb3 : Below w2.heap.size w2 w3 := (jlow _ _).trans (jbelow hg3.out (jlow _ _).size (fun g e => by cases e; exact Nat.le_refl _)); have HB3 := qa0 (jtwo HB2.out hb3); have HX3 := qa0 (HX2.out.later hb3); clear hg3 hb3))
   | (go_at_call 18; go_loud (refine (HME.out _ HB3.out).mono ?_; rintro e w4 ⟨rfl, hb4⟩; have HB4 := qa0 (jtwo HB3.out hb4); have HG4 := qa0 (HG3.out.later hb4); clear hb4))
   | (go_at_call 17; go_loud (refine (HAn.out _ HB4.out).mono ?_; rintro e w6 ⟨rfl, hb6⟩; have HB6 := qa0 (jtwo HB4.out hb6); have HG6 := qa0 (HG4.out.later hb6); have o0 := HG6.out.cell 0 _ rfl; clear hb6)))
  go_ret
  exact ⟨rfl, HB6.out⟩
 | true =>
  cases h2 : mayX T0 with
  | false =>
   have hVc : Vc = 2 := by
    rcases hC with h | h
    ·rw [h2] at h; cases h.2
    ·exact h
   subst hVc
   rw [h1] at HME
   rw [h2] at HMX
   clear hC HA2 HA3 HA4 HA5 HEv0 HMz0 HNm
   go_enter Tryd.func6, Tryd.ntmps6
   go_wp2_with (first
    | rw [← HW.out]
    | (go_at_call 8; go_loud (refine (H1.out _ HB.out).mono ?_; rintro e w2 ⟨rfl, hb2⟩; have HB2 := qa0 (jtwo HB.out hb2); have HX2 := qa0 (HX.out.later hb2); clear hb2))
    | (clear M1; refine qa1 rfl 29 _ _ rfl w2.heap.size _ #[.int .i64 2, .int .i64 Vl, .int .i64 Vk] rfl rfl (Vn.new w2 _ _) sizeFau rfl (all3 rfl rfl rfl) ?_; intro w3 HG3 hg3; go_loud (have hb3 : Below w2.heap.size w2 w3 := (jlow _ _).trans (jbelow hg3.out (jlow _ _).size (fun g e => by cases e; exact Nat.le_refl _)); have HB3 := qa0 (jtwo HB2.out hb3); have HX3 := qa0 (HX2.out.later hb3); clear hg3 hb3))
    | (go_at_call 18; go_loud (refine (HME.out _ HB3.out).mono ?_; rintro e w4 ⟨rfl, hb4⟩; have HB4 := qa0 (jtwo HB3.out hb4); have HG4 := qa0 (HG3.out.later hb4); have HX4 := qa0 (HX3.out.later hb4); have k0 := HX4.out.cell 0 _ rfl; have k1 := HX4.out.cell 1 _ rfl; have k2 := HX4.out.cell 2 _ rfl; have k3 := HX4.out.cell 3 _ rfl; have k4 := HX4.out.cell 4 _ rfl; have k5 := HX4.out.cell 5 _ rfl; clear hb4))
    | (go_at_call 19; go_loud (refine (HMX.out _ HB4.out).mono ?_; rintro e w5 ⟨rfl, hb5⟩; have HB5 := qa0 (jtwo HB4.out hb5); have HG5 := qa0 (HG4.out.later hb5); clear hb5))
    | (go_at_call 17; go_loud (refine (HAn.out _ HB5.out).mono ?_; rintro e w6 ⟨rfl, hb6⟩; have HB6 := qa0 (jtwo HB5.out hb6); have HG6 := qa0 (HG5.out.later hb6); have o0 := HG6.out.cell 0 _ rfl; clear hb6)))
   go_ret
   exact ⟨rfl, HB6.out⟩
  | true =>
   have hnv := HA3.out h1 h2
   have HNm2 := qa0 (HNm.out h2)
   have HA2b := qa0 (HA2.out h1 h2)
   rw [h1] at HME
   rw [h2] at HMX
   clear hC HA2 HA3 HA5 HNm h1 h2
   go_enter Tryd.func6, Tryd.ntmps6
   go_wp2_with (first
    | rw [← HW.out]
    | (go_at_call 8; go_loud (refine (H1.out _ HB.out).mono ?_; rintro e w2 ⟨rfl, hb2⟩; have HB2 := qa0 (jtwo HB.out hb2); have HX2 := qa0 (HX.out.later hb2); clear hb2))
    | (clear M1; refine qa1 rfl 29 _ _ rfl w2.heap.size _ #[.int .i64 (Vc : Int), .int .i64 Vl, .int .i64 Vk] rfl rfl (Vn.new w2 _ _) sizeFau rfl (all3 rfl rfl rfl) ?_; intro w3 HG3 hg3; go_loud (have hb3 : Below w2.heap.size w2 w3 := (jlow _ _).trans (jbelow hg3.out (jlow _ _).size (fun g e => by cases e; exact Nat.le_refl _)); have HB3 := qa0 (jtwo HB2.out hb3); have HX3 := qa0 (HX2.out.later hb3); clear hg3 hb3))
    | (go_at_call 18; go_loud (refine (HME.out _ HB3.out).mono ?_; rintro e w4 ⟨rfl, hb4⟩; have HB4 := qa0 (jtwo HB3.out hb4); have HG4 := qa0 (HG3.out.later hb4); have HX4 := qa0 (HX3.out.later hb4); have k0 := HX4.out.cell 0 _ rfl; have k1 := HX4.out.cell 1 _ rfl; have k2 := HX4.out.cell 2 _ rfl; have k3 := HX4.out.cell 3 _ rfl; have k4 := HX4.out.cell 4 _ rfl; have k5 := HX4.out.cell 5 _ rfl; clear hb4))
    | (go_at_call 19; go_loud (refine (HMX.out _ HB4.out).mono ?_; rintro e w5 ⟨rfl, hb5⟩; have HB5 := qa0 (jtwo HB4.out hb5); have HG5 := qa0 (HG4.out.later hb5); have HX5 := qa0 (HX4.out.later hb5); clear hb5)))
   have hxB : w.heap.size < w5.heap.size := HX5.out.lt
   have hgB : w2.heap.size < w5.heap.size := HG5.out.lt
   have hwB := HB5.out.size
   obtain ⟨B0, HB0e⟩ : ∃ B0, Hid (w5.heap.size = B0) := ⟨_, rfl⟩
   rw [HB0e.out] at hxB hgB hwB
   have HEv : Hid (∀ (W : World) (x : Option Addr) (d : Nat), Below B0 w5 W → Cw W B0 (.slice x LL.length d) LL → Calls Tryd.prog 8 #[.agg #[.int .u8 (k : Int), .int .i64 n, .string nm, .slice a len cap, .int .i64 ln, .int .i64 cl], .slice x LL.length d] W fun e w'' => e = .returned (.tuple #[.int .i64 V2v, .agg #[.int .i64 (V2c : Int), .int .i64 V2l, .int .i64 V2k]]) ∧ Below W.heap.size W w'') := fun W x d hb hC => HEv0.out B0 w5 W x d hwB HB5.out hb hC
   have HMz : Hid (∀ (W : World) (x : Option Addr) (d : Nat), Cw W B0 (.slice x LZ.length d) LZ → Calls Tryd.prog 18 #[.slice x LZ.length d] W fun e w'' => e = .returned (.bool (mayE (tH F1 len1 3) (len1 + 1))) ∧ Below W.heap.size W w'') := fun W x d hC => HMz0.out B0 W x d hC
   have HS5 : Hid (B0 ≤ w5.heap.size) := by show _ ≤ _; rw [HB0e.out]; exact Nat.le_refl _
   clear HEv0 HMz0 HME HMX H1 HX HB HB2 HX2 HB3 HG3 HX3 HB4 HG4 HX4 HW HB0e c0 c1 c2 c3 c4 c5 hxb
   go_loopw [7, 8] (fun vt vi wr => ∃ (i : Nat) (M : List Cn), i ≤ len1 ∧ vi = .int .i64 ((len1 : Int) - 1 - (i : Int)) ∧ Hid (L.take i = M) ∧ Hid (M.length = i) ∧ (∃ x d, vt = .slice x M.length d) ∧ Hid (Cw wr B0 vt M) ∧ Hid (Below B0 w5 wr)) (fun _ vi _ => (intOf vi + 1).toNat)
   case atStart => exact ⟨0, [], by omega, by go_num, rfl, rfl, ⟨none, 0, rfl⟩, Cw.nil _ _, Below.refl _ _⟩
   case round =>
    obtain ⟨i, M, hi, rfl, HM, HMl, ⟨xt, dt, rfl⟩, HCr, HBr⟩ := hrel
    have hMle : M.length ≤ 5864062014634 := by have := HMl.out; omega
    have hBr : B0 ≤ wr.heap.size := Nat.le_trans HS5.out HBr.out.size
    by_cases hlt : i < len1
    ·obtain ⟨j, hj⟩ : ∃ j, len1 - 1 - i = j := ⟨_, rfl⟩
     have ej : (len1 : Int) - 1 - (i : Int) = (j : Int) := by omega
     rw [ej]
     have p0 : (0 : Int) ≤ (j : Int) := by omega
     have p1 : (j : Int) < (len1 : Int) := by omega
     obtain ⟨ok, b, o, rfl, t0, t1⟩ := (HEL.out.later (HB5.out.trans (HBr.out.mono hwB))) j (by omega)
     obtain ⟨y, Hy⟩ : ∃ y, Hid (F1 j = y) := ⟨_, rfl⟩
     rw [Hy.out] at t0 t1
     obtain ⟨ynm, yn⟩ := y
     dsimp only at t0 t1
     obtain ⟨M2, HM2⟩ : ∃ M2, Hid (M ++ [(⟨ynm, yn⟩ : Cn)] = M2) := ⟨_, rfl⟩
     have HT2 : Hid (L.take (i + 1) = M2) := by
      show _ = _
      rw [← HM2.out, ← HM.out, ← HLr.out, ← rvE_take F1 len1 i hlt, hj, Hy.out]
     have HM2l : Hid (M2.length = i + 1) := by show _ = _; rw [← HM2.out, List.length_append, HMl.out]; rfl
     clear ok Hy HM HNm2 HA2b HEv HMz
     go_wp2_with (at_builtin; go_loud (refine wpList_append_own _ rfl _ _ 26 rfl B0 50 i0 (.agg #[.string ⟨#[]⟩, .int .i64 0]) 2 24 Tryd.underlying26 hi0 hz0 hz1 hz2 rfl (by decide) _ M.length _ rfl (HCr.out.later (jlow _ _)) ⟨wr.heap.size, 0, none⟩ 1 1 [.string ynm, .int .i64 yn] rfl rfl (qar _ _ _) (by intro u hu; simp at hu; rcases hu with rfl | rfl <;> rfl) (by unfold maxLen; omega) (by omega) (by simp; omega) ?_; intro v' w6 hown' hgrow' _; have hC6 : Cw w6 B0 v' (M ++ [⟨ynm, yn⟩]) := Cw.push hown'; rw [HM2.out] at hC6; have HC6 := qa0 hC6; have HB6 : Hid (Below B0 w5 w6) := (HBr.out.trans ((jlow _ _).mono hBr)).trans (jbelow hgrow' (by simp; omega) (fun g hg => (HCr.out.base hg).1)); obtain ⟨x6, d6, e6, -⟩ := hC6.form; subst e6; clear hown' hgrow' hC6))
     exact ⟨⟨i + 1, M2, by omega, by go_num, HT2, HM2l, ⟨_, _, rfl⟩, HC6, HB6⟩, by simp [intOf]⟩
    ·obtain rfl : i = len1 := by omega
     have eM : M = L := by rw [← HM.out]; exact List.take_of_length_le (by omega)
     subst eM
     clear hLl hLLl hLZl
     have ej : (i : Int) - 1 - (i : Int) = -1 := by omega
     rw [ej]
     have HXr : Hid (Vn wr w.heap.size 25 #[.int .u8 (k : Int), .int .i64 n, .string nm, .slice a len cap, .int .i64 ln, .int .i64 cl]) := HX5.out.lowB HBr.out hxB
     clear HM
     go_wp2
     refine wp_region_held (S := fun w' => Vn w' w.heap.size 25 #[.int .u8 (k : Int), .int .i64 n, .string nm, .slice a len cap, .int .i64 ln, .int .i64 cl]) (by kernel_rfl) ?_
     change wpAnyH _ _ _ _ _ _ _ _ (World.drew _)
     obtain ⟨W0, HW0⟩ : ∃ W0, Hid (wr.drew = W0) := ⟨_, rfl⟩
     have bl0 : Below wr.heap.size wr W0 := by rw [← HW0.out]; exact (Below.refl _ _).drew
     rw [HW0.out]
     clear HW0
     have HX0 := qa0 (HXr.out.later bl0)
     have HC0 := qa0 (HCr.out.later bl0)
     have HB0 := qa0 (HBr.out.trans (bl0.mono hBr))
     have HCt := qa0 HC0.out
     have hB0 : B0 ≤ W0.heap.size := Nat.le_trans hBr bl0.size
     refine wtkq 0 ?vt0_1 rfl (by kernel_rfl) (fun _ _ _ h => h) (by rfl) ?yt0_1 HX0.out ?zt0_1
     case yt0_1 => (intro wq hSw; (try dsimp only at hSw); have r0 := hSw.cell 0 _ rfl; have r1 := hSw.cell 1 _ rfl; have r2 := hSw.cell 2 _ rfl; have r3 := hSw.cell 3 _ rfl; have r4 := hSw.cell 4 _ rfl; have r5 := hSw.cell 5 _ rfl; clear hSw; go_simp; try with_reducible rfl)
     try simp only [mz1, mz3, Act.put, mz4, mz5, mz6]
     refine wtkq 1 ?vt1_2 rfl (by kernel_rfl) (fun _ _ _ h => h) (by rfl) ?yt1_2 HX0.out ?zt1_2
     case yt1_2 => (intro wq hSw; (try dsimp only at hSw); go_simp; try with_reducible rfl)
     try simp only [mz1, mz2, mz3, Act.put, mz4, mz5, mz6]
     refine wtkq 2 ?vt2_3 rfl (by kernel_rfl) (fun _ _ _ h => h) (by rfl) ?yt2_3 HX0.out ?zt2_3
     case yt2_3 => (intro wq hSw; (try dsimp only at hSw); go_simp; try with_reducible rfl)
     try simp only [mz1, mz2, mz3, Act.put, mz4, mz5, mz6]
     apply joinT (fun _ _ g w' => Vn w' g 29 #[.int .i64 (V2c : Int), .int .i64 V2l, .int .i64 V2k] ∧ Below B0 w5 w' ∧ (∀ q, (Value.slice xt M.length dt).ownBlock = some q → q ≠ g) ∧ Cw w' B0 (.slice xt M.length dt) M)
     ·intro hG
      refine wpAnyH_ready (rs := [3, 9]) (by kernel_rfl) (by simp) ?_
      refine AllReadyH.cons rfl (fun KK hKK => ?_) (AllReadyH.cons rfl (fun KK hKK => ?_) AllReadyH.nil)
      ·go_simp
       obtain ⟨W4, HW4⟩ : ∃ W, Hid (W0.alloc (.cells #[.string ⟨#[122, 122, 122, 122, 122, 122, 122, 122, 122, 122, 122, 122, 122, 122]⟩, .int .i64 3] 50) = W) := ⟨_, rfl⟩
       have bl4 : Below W0.heap.size W0 W4 := by rw [← HW4.out]; exact jlow _ _
       have fr4 : Vn W4 W0.heap.size 50 #[.string ⟨#[122, 122, 122, 122, 122, 122, 122, 122, 122, 122, 122, 122, 122, 122]⟩, .int .i64 3] := by rw [← HW4.out]; exact Vn.new _ _ _
       have JX4 := qa0 (HX0.out.later bl4)
       have JC4 := qa0 (HC0.out.later bl4)
       have JB4 := qa0 (HB0.out.trans (bl4.mono (Nat.le_trans hB0 (Nat.le_refl _))))
       have Hlit4 := qa0 fr4
       obtain ⟨g4, Hg4⟩ : ∃ g, Hid (W0.heap.size = g) := ⟨_, rfl⟩
       rw [Hg4.out] at Hlit4
       rw [HW4.out]
       try rw [Hg4.out]
       refine hKK.out _ _ JX4.out (fun _ => ?_)
       clear hKK KK
       try simp only [mz1, mz2, mz3, Act.put, mz4, mz5, mz6]
       refine wpAnyH_ready (rs := [4, 9]) (by kernel_rfl) (by simp) ?_
       refine AllReadyH.cons rfl (fun KK hKK => ?_) (AllReadyH.cons rfl (fun KK hKK => ?_) AllReadyH.nil)
       ·refine qac rfl _ _ rfl B0 _ M ⟨zzn, 3⟩ rfl JC4.out ⟨g4, 0, none⟩ rfl (qe5 Hlit4.out) hlim (Nat.le_trans hB0 (Nat.le_trans (Nat.le_refl _) bl4.size)) ?_
        intro v5 W5 hn5 hk5 hr5 hb5
        rw [HLL.out] at hn5
        obtain ⟨x5, d5, rfl, -⟩ := hn5.form
        have JX5 : Hid (Vn W5 w.heap.size 25 #[.int .u8 (k : Int), .int .i64 n, .string nm, .slice a len cap, .int .i64 ln, .int .i64 cl]) := JX4.out.lowB hb5 hxB
        have JC5 := qa0 hk5
        have JB5 := qa0 (JB4.out.trans hb5)
        have Hnw5 := qa0 hn5
        refine hKK.out _ _ JX5.out (fun _ => ?_)
        clear hKK KK
        try simp only [mz1, mz2, mz3, Act.put, mz4, mz5, mz6]
        refine wpAnyH_ready (rs := [5, 9]) (by kernel_rfl) (by simp) ?_
        refine AllReadyH.cons rfl (fun KK hKK => ?_) (AllReadyH.cons rfl (fun KK hKK => ?_) AllReadyH.nil)
        ·go_simp
         refine (HEv.out _ _ _ JB5.out Hnw5.out).mono ?_
         rintro e W6 ⟨rfl, bl6⟩
         have JX6 := qa0 (JX5.out.later bl6)
         have JC6 := qa0 (JC5.out.later bl6)
         have JB6 := qa0 (JB5.out.trans (bl6.mono (Nat.le_trans hB0 (Nat.le_trans (Nat.le_trans (Nat.le_refl _) bl4.size) hb5.size))))
         have Hnw6 := qa0 (Hnw5.out.later bl6)
         refine hKK.out _ _ JX6.out (fun _ => ?_)
         clear hKK KK
         try simp only [mz1, mz2, mz3, Act.put, mz4, mz5, mz6]
         refine wtkq 6 ?vt6_7 rfl (by kernel_rfl) (fun _ _ _ h => h) (by rfl) ?yt6_7 JX6.out ?zt6_7
         case yt6_7 => (intro wq hSw; (try dsimp only at hSw); go_simp; try with_reducible rfl)
         try simp only [mz1, mz2, mz3, Act.put, mz4, mz5, mz6]
         refine wtkq 7 ?vt7_8 rfl (by kernel_rfl) (fun _ _ _ h => h) (by rfl) ?yt7_8 JX6.out ?zt7_8
         case yt7_8 => (intro wq hSw; (try dsimp only at hSw); go_simp; try with_reducible rfl)
         try simp only [mz1, mz2, mz3, Act.put, mz4, mz5, mz6]
         refine wtkq 8 ?vt8_9 rfl (by kernel_rfl) (fun _ _ _ h => h) (by rfl) ?yt8_9 JX6.out ?zt8_9
         case yt8_9 => (intro wq hSw; (try dsimp only at hSw); go_simp; try with_reducible rfl)
         try simp only [mz1, mz2, mz3, Act.put, mz4, mz5, mz6]
         refine wpAnyH_ready (rs := [9]) (by kernel_rfl) (by simp) ?_
         refine AllReadyH.cons rfl (fun KK hKK => ?_) AllReadyH.nil
         go_simp
         obtain ⟨W10, HW10⟩ : ∃ W, Hid (W6.alloc (.cells #[.int .i64 0, .int .i64 0, .int .i64 0] 29) = W) := ⟨_, rfl⟩
         have bl10 : Below W6.heap.size W6 W10 := by rw [← HW10.out]; exact jlow _ _
         have fr10 : Vn W10 W6.heap.size 29 #[.int .i64 0, .int .i64 0, .int .i64 0] := by rw [← HW10.out]; exact Vn.new _ _ _
         have JX10 := qa0 (JX6.out.later bl10)
         have JC10 := qa0 (JC6.out.later bl10)
         have JB10 := qa0 (JB6.out.trans (bl10.mono (Nat.le_trans hB0 (Nat.le_trans (Nat.le_trans (Nat.le_trans (Nat.le_refl _) bl4.size) hb5.size) bl6.size))))
         have Hnw10 := qa0 (Hnw6.out.later bl10)
         have Hal10 := qa0 fr10
         obtain ⟨g10, Hg10⟩ : ∃ g, Hid (W6.heap.size = g) := ⟨_, rfl⟩
         rw [Hg10.out] at Hal10
         have hge10 : W0.heap.size ≤ g10 := by rw [← Hg10.out]; exact (Nat.le_trans (Nat.le_trans (Nat.le_trans (Nat.le_refl _) bl4.size) hb5.size) bl6.size)
         rw [HW10.out]
         try rw [Hg10.out]
         refine hKK.out _ _ JX10.out (fun _ => ?_)
         clear hKK KK
         try simp only [mz1, mz2, mz3, Act.put, mz4, mz5, mz6]
         refine wtkq 10 ?vt10_12 rfl (by kernel_rfl) (fun _ _ _ h => h) (by rfl) ?yt10_12 JX10.out ?zt10_12
         case yt10_12 => (intro wq hSw; (try dsimp only at hSw); go_simp; try with_reducible rfl)
         try simp only [mz1, mz2, mz3, Act.put, mz4, mz5, mz6]
         refine wpAnyH_ready (rs := [11]) (by kernel_rfl) (by simp) ?_
         refine AllReadyH.cons rfl (fun KK hKK => ?_) AllReadyH.nil
         refine qah 29 _ _ rfl g10 _ #[.int .i64 (V2c : Int), .int .i64 V2l, .int .i64 V2k] rfl rfl Hal10.out sizeFau rfl (all3 rfl rfl rfl) ?_
         intro w8 HF8 hg8
         have hC8 : Cw w8 B0 (.slice xt M.length dt) M := JC10.out.kept hg8.out (.inr (fun e => by have := (HCt.out.base e).2; omega))
         have hb8 : Below B0 w5 w8 := JB10.out.trans (jbelow hg8.out (Nat.le_trans hB0 (Nat.le_trans (Nat.le_trans (Nat.le_trans (Nat.le_trans (Nat.le_refl _) bl4.size) hb5.size) bl6.size) bl10.size)) (fun g e => by cases e; omega))
         have hx8 : Vn w8 w.heap.size 25 #[.int .u8 (k : Int), .int .i64 n, .string nm, .slice a len cap, .int .i64 ln, .int .i64 cl] := HX5.out.lowB hb8 hxB
         refine hKK.out _ _ hx8 (fun _ => ?_)
         clear hKK KK
         try simp only [mz1, mz2, mz3, Act.put]
         refine wpAnyH_done (by kernel_rfl) ?_ _
         try simp only [mz1, mz2, mz3, Act.put, mz4, mz5, mz6]
         have hgB8 : ∀ q, (Value.slice xt M.length dt).ownBlock = some q → q ≠ g10 := fun q e => by have := (HCt.out.base e).2; omega
         generalize Value.slice (some ⟨g4, 0, none⟩) 1 1 = vL1
         generalize Value.slice x5 LL.length d5 = vL2
         exact hG vL1 vL2 g10 w8 ⟨HF8.out, hb8, hgB8, hC8⟩
        ·go_simp
         obtain ⟨W13, HW13⟩ : ∃ W, Hid (W5.alloc (.cells #[.int .i64 0, .int .i64 0, .int .i64 0] 29) = W) := ⟨_, rfl⟩
         have bl13 : Below W5.heap.size W5 W13 := by rw [← HW13.out]; exact jlow _ _
         have fr13 : Vn W13 W5.heap.size 29 #[.int .i64 0, .int .i64 0, .int .i64 0] := by rw [← HW13.out]; exact Vn.new _ _ _
         have JX13 := qa0 (JX5.out.later bl13)
         have JC13 := qa0 (JC5.out.later bl13)
         have JB13 := qa0 (JB5.out.trans (bl13.mono (Nat.le_trans hB0 (Nat.le_trans (Nat.le_trans (Nat.le_refl _) bl4.size) hb5.size))))
         have Hnw13 := qa0 (Hnw5.out.later bl13)
         have Hal13 := qa0 fr13
         obtain ⟨g13, Hg13⟩ : ∃ g, Hid (W5.heap.size = g) := ⟨_, rfl⟩
         rw [Hg13.out] at Hal13
         have hge13 : W0.heap.size ≤ g13 := by rw [← Hg13.out]; exact (Nat.le_trans (Nat.le_trans (Nat.le_refl _) bl4.size) hb5.size)
         rw [HW13.out]
         try rw [Hg13.out]
         refine hKK.out _ _ JX13.out (fun _ => ?_)
         clear hKK KK
         try simp only [mz1, mz2, mz3, Act.put, mz4, mz5, mz6]
         refine wpAnyH_ready (rs := [5]) (by kernel_rfl) (by simp) ?_
         refine AllReadyH.cons rfl (fun KK hKK => ?_) AllReadyH.nil
         go_simp
         refine (HEv.out _ _ _ JB13.out Hnw13.out).mono ?_
         rintro e W14 ⟨rfl, bl14⟩
         have JX14 := qa0 (JX13.out.later bl14)
         have JC14 := qa0 (JC13.out.later bl14)
         have JB14 := qa0 (JB13.out.trans (bl14.mono (Nat.le_trans hB0 (Nat.le_trans (Nat.le_trans (Nat.le_trans (Nat.le_refl _) bl4.size) hb5.size) bl13.size))))
         have Hal14 := qa0 (Hal13.out.later bl14)
         have Hnw14 := qa0 (Hnw13.out.later bl14)
         refine hKK.out _ _ JX14.out (fun _ => ?_)
         clear hKK KK
         try simp only [mz1, mz2, mz3, Act.put, mz4, mz5, mz6]
         refine wtkq 6 ?vt6_15 rfl (by kernel_rfl) (fun _ _ _ h => h) (by rfl) ?yt6_15 JX14.out ?zt6_15
         case yt6_15 => (intro wq hSw; (try dsimp only at hSw); go_simp; try with_reducible rfl)
         try simp only [mz1, mz2, mz3, Act.put, mz4, mz5, mz6]
         refine wtkq 7 ?vt7_16 rfl (by kernel_rfl) (fun _ _ _ h => h) (by rfl) ?yt7_16 JX14.out ?zt7_16
         case yt7_16 => (intro wq hSw; (try dsimp only at hSw); go_simp; try with_reducible rfl)
         try simp only [mz1, mz2, mz3, Act.put, mz4, mz5, mz6]
         refine wtkq 8 ?vt8_17 rfl (by kernel_rfl) (fun _ _ _ h => h) (by rfl) ?yt8_17 JX14.out ?zt8_17
         case yt8_17 => (intro wq hSw; (try dsimp only at hSw); go_simp; try with_reducible rfl)
         try simp only [mz1, mz2, mz3, Act.put, mz4, mz5, mz6]
         refine wtkq 10 ?vt10_19 rfl (by kernel_rfl) (fun _ _ _ h => h) (by rfl) ?yt10_19 JX14.out ?zt10_19
         case yt10_19 => (intro wq hSw; (try dsimp only at hSw); go_simp; try with_reducible rfl)
         try simp only [mz1, mz2, mz3, Act.put, mz4, mz5, mz6]
         refine wpAnyH_ready (rs := [11]) (by kernel_rfl) (by simp) ?_
         refine AllReadyH.cons rfl (fun KK hKK => ?_) AllReadyH.nil
         refine qah 29 _ _ rfl g13 _ #[.int .i64 (V2c : Int), .int .i64 V2l, .int .i64 V2k] rfl rfl Hal14.out sizeFau rfl (all3 rfl rfl rfl) ?_
         intro w8 HF8 hg8
         have hC8 : Cw w8 B0 (.slice xt M.length dt) M := JC14.out.kept hg8.out (.inr (fun e => by have := (HCt.out.base e).2; omega))
         have hb8 : Below B0 w5 w8 := JB14.out.trans (jbelow hg8.out (Nat.le_trans hB0 (Nat.le_trans (Nat.le_trans (Nat.le_trans (Nat.le_trans (Nat.le_refl _) bl4.size) hb5.size) bl13.size) bl14.size)) (fun g e => by cases e; omega))
         have hx8 : Vn w8 w.heap.size 25 #[.int .u8 (k : Int), .int .i64 n, .string nm, .slice a len cap, .int .i64 ln, .int .i64 cl] := HX5.out.lowB hb8 hxB
         refine hKK.out _ _ hx8 (fun _ => ?_)
         clear hKK KK
         try simp only [mz1, mz2, mz3, Act.put]
         refine wpAnyH_done (by kernel_rfl) ?_ _
         try simp only [mz1, mz2, mz3, Act.put, mz4, mz5, mz6]
         exact hG _ _ _ _ ⟨HF8.out, hb8, (fun q e => by have := (HCt.out.base e).2; omega), hC8⟩
       ·go_simp
        obtain ⟨W20, HW20⟩ : ∃ W, Hid (W4.alloc (.cells #[.int .i64 0, .int .i64 0, .int .i64 0] 29) = W) := ⟨_, rfl⟩
        have bl20 : Below W4.heap.size W4 W20 := by rw [← HW20.out]; exact jlow _ _
        have fr20 : Vn W20 W4.heap.size 29 #[.int .i64 0, .int .i64 0, .int .i64 0] := by rw [← HW20.out]; exact Vn.new _ _ _
        have JX20 := qa0 (JX4.out.later bl20)
        have JC20 := qa0 (JC4.out.later bl20)
        have JB20 := qa0 (JB4.out.trans (bl20.mono (Nat.le_trans hB0 (Nat.le_trans (Nat.le_refl _) bl4.size))))
        have Hlit20 := qa0 (Hlit4.out.later bl20)
        have Hal20 := qa0 fr20
        obtain ⟨g20, Hg20⟩ : ∃ g, Hid (W4.heap.size = g) := ⟨_, rfl⟩
        rw [Hg20.out] at Hal20
        have hge20 : W0.heap.size ≤ g20 := by rw [← Hg20.out]; exact (Nat.le_trans (Nat.le_refl _) bl4.size)
        rw [HW20.out]
        try rw [Hg20.out]
        refine hKK.out _ _ JX20.out (fun _ => ?_)
        clear hKK KK
        try simp only [mz1, mz2, mz3, Act.put, mz4, mz5, mz6]
        refine wpAnyH_ready (rs := [4]) (by kernel_rfl) (by simp) ?_
        refine AllReadyH.cons rfl (fun KK hKK => ?_) AllReadyH.nil
        refine qac rfl _ _ rfl B0 _ M ⟨zzn, 3⟩ rfl JC20.out ⟨g4, 0, none⟩ rfl (qe5 Hlit20.out) hlim (Nat.le_trans hB0 (Nat.le_trans (Nat.le_trans (Nat.le_refl _) bl4.size) bl20.size)) ?_
        intro v21 W21 hn21 hk21 hr21 hb21
        rw [HLL.out] at hn21
        obtain ⟨x21, d21, rfl, -⟩ := hn21.form
        have JX21 : Hid (Vn W21 w.heap.size 25 #[.int .u8 (k : Int), .int .i64 n, .string nm, .slice a len cap, .int .i64 ln, .int .i64 cl]) := JX20.out.lowB hb21 hxB
        have JC21 := qa0 hk21
        have JB21 := qa0 (JB20.out.trans hb21)
        have Hnw21 := qa0 hn21
        have Hal21 : Hid (Vn W21 g20 29 #[.int .i64 0, .int .i64 0, .int .i64 0]) := Vn.keptB Hal20.out hr21 (fun q e => by have := (HCt.out.base e).2; omega)
        refine hKK.out _ _ JX21.out (fun _ => ?_)
        clear hKK KK
        try simp only [mz1, mz2, mz3, Act.put, mz4, mz5, mz6]
        refine wpAnyH_ready (rs := [5]) (by kernel_rfl) (by simp) ?_
        refine AllReadyH.cons rfl (fun KK hKK => ?_) AllReadyH.nil
        go_simp
        refine (HEv.out _ _ _ JB21.out Hnw21.out).mono ?_
        rintro e W22 ⟨rfl, bl22⟩
        have JX22 := qa0 (JX21.out.later bl22)
        have JC22 := qa0 (JC21.out.later bl22)
        have JB22 := qa0 (JB21.out.trans (bl22.mono (Nat.le_trans hB0 (Nat.le_trans (Nat.le_trans (Nat.le_trans (Nat.le_refl _) bl4.size) bl20.size) hb21.size))))
        have Hal22 := qa0 (Hal21.out.later bl22)
        have Hnw22 := qa0 (Hnw21.out.later bl22)
        refine hKK.out _ _ JX22.out (fun _ => ?_)
        clear hKK KK
        try simp only [mz1, mz2, mz3, Act.put, mz4, mz5, mz6]
        refine wtkq 6 ?vt6_23 rfl (by kernel_rfl) (fun _ _ _ h => h) (by rfl) ?yt6_23 JX22.out ?zt6_23
        case yt6_23 => (intro wq hSw; (try dsimp only at hSw); go_simp; try with_reducible rfl)
        try simp only [mz1, mz2, mz3, Act.put, mz4, mz5, mz6]
        refine wtkq 7 ?vt7_24 rfl (by kernel_rfl) (fun _ _ _ h => h) (by rfl) ?yt7_24 JX22.out ?zt7_24
        case yt7_24 => (intro wq hSw; (try dsimp only at hSw); go_simp; try with_reducible rfl)
        try simp only [mz1, mz2, mz3, Act.put, mz4, mz5, mz6]
        refine wtkq 8 ?vt8_25 rfl (by kernel_rfl) (fun _ _ _ h => h) (by rfl) ?yt8_25 JX22.out ?zt8_25
        case yt8_25 => (intro wq hSw; (try dsimp only at hSw); go_simp; try with_reducible rfl)
        try simp only [mz1, mz2, mz3, Act.put, mz4, mz5, mz6]
        refine wtkq 10 ?vt10_27 rfl (by kernel_rfl) (fun _ _ _ h => h) (by rfl) ?yt10_27 JX22.out ?zt10_27
        case yt10_27 => (intro wq hSw; (try dsimp only at hSw); go_simp; try with_reducible rfl)
        try simp only [mz1, mz2, mz3, Act.put, mz4, mz5, mz6]
        refine wpAnyH_ready (rs := [11]) (by kernel_rfl) (by simp) ?_
        refine AllReadyH.cons rfl (fun KK hKK => ?_) AllReadyH.nil
        refine qah 29 _ _ rfl g20 _ #[.int .i64 (V2c : Int), .int .i64 V2l, .int .i64 V2k] rfl rfl Hal22.out sizeFau rfl (all3 rfl rfl rfl) ?_
        intro w8 HF8 hg8
        have hC8 : Cw w8 B0 (.slice xt M.length dt) M := JC22.out.kept hg8.out (.inr (fun e => by have := (HCt.out.base e).2; omega))
        have hb8 : Below B0 w5 w8 := JB22.out.trans (jbelow hg8.out (Nat.le_trans hB0 (Nat.le_trans (Nat.le_trans (Nat.le_trans (Nat.le_trans (Nat.le_refl _) bl4.size) bl20.size) hb21.size) bl22.size)) (fun g e => by cases e; omega))
        have hx8 : Vn w8 w.heap.size 25 #[.int .u8 (k : Int), .int .i64 n, .string nm, .slice a len cap, .int .i64 ln, .int .i64 cl] := HX5.out.lowB hb8 hxB
        refine hKK.out _ _ hx8 (fun _ => ?_)
        clear hKK KK
        try simp only [mz1, mz2, mz3, Act.put]
        refine wpAnyH_done (by kernel_rfl) ?_ _
        try simp only [mz1, mz2, mz3, Act.put, mz4, mz5, mz6]
        exact hG _ _ _ _ ⟨HF8.out, hb8, (fun q e => by have := (HCt.out.base e).2; omega), hC8⟩
      ·go_simp
       obtain ⟨W28, HW28⟩ : ∃ W, Hid (W0.alloc (.cells #[.int .i64 0, .int .i64 0, .int .i64 0] 29) = W) := ⟨_, rfl⟩
       have bl28 : Below W0.heap.size W0 W28 := by rw [← HW28.out]; exact jlow _ _
       have fr28 : Vn W28 W0.heap.size 29 #[.int .i64 0, .int .i64 0, .int .i64 0] := by rw [← HW28.out]; exact Vn.new _ _ _
       have JX28 := qa0 (HX0.out.later bl28)
       have JC28 := qa0 (HC0.out.later bl28)
       have JB28 := qa0 (HB0.out.trans (bl28.mono (Nat.le_trans hB0 (Nat.le_refl _))))
       have Hal28 := qa0 fr28
       obtain ⟨g28, Hg28⟩ : ∃ g, Hid (W0.heap.size = g) := ⟨_, rfl⟩
       rw [Hg28.out] at Hal28
       have hge28 : W0.heap.size ≤ g28 := by rw [← Hg28.out]; exact (Nat.le_refl _)
       rw [HW28.out]
       try rw [Hg28.out]
       refine hKK.out _ _ JX28.out (fun _ => ?_)
       clear hKK KK
       try simp only [mz1, mz2, mz3, Act.put, mz4, mz5, mz6]
       refine wpAnyH_ready (rs := [3]) (by kernel_rfl) (by simp) ?_
       refine AllReadyH.cons rfl (fun KK hKK => ?_) AllReadyH.nil
       go_simp
       obtain ⟨W29, HW29⟩ : ∃ W, Hid (W28.alloc (.cells #[.string ⟨#[122, 122, 122, 122, 122, 122, 122, 122, 122, 122, 122, 122, 122, 122]⟩, .int .i64 3] 50) = W) := ⟨_, rfl⟩
       have bl29 : Below W28.heap.size W28 W29 := by rw [← HW29.out]; exact jlow _ _
       have fr29 : Vn W29 W28.heap.size 50 #[.string ⟨#[122, 122, 122, 122, 122, 122, 122, 122, 122, 122, 122, 122, 122, 122]⟩, .int .i64 3] := by rw [← HW29.out]; exact Vn.new _ _ _
       have JX29 := qa0 (JX28.out.later bl29)
       have JC29 := qa0 (JC28.out.later bl29)
       have JB29 := qa0 (JB28.out.trans (bl29.mono (Nat.le_trans hB0 (Nat.le_trans (Nat.le_refl _) bl28.size))))
       have Hal29 := qa0 (Hal28.out.later bl29)
       have Hlit29 := qa0 fr29
       obtain ⟨g29, Hg29⟩ : ∃ g, Hid (W28.heap.size = g) := ⟨_, rfl⟩
       rw [Hg29.out] at Hlit29
       rw [HW29.out]
       try rw [Hg29.out]
       refine hKK.out _ _ JX29.out (fun _ => ?_)
       clear hKK KK
       try simp only [mz1, mz2, mz3, Act.put, mz4, mz5, mz6]
       refine wpAnyH_ready (rs := [4]) (by kernel_rfl) (by simp) ?_
       refine AllReadyH.cons rfl (fun KK hKK => ?_) AllReadyH.nil
       refine qac rfl _ _ rfl B0 _ M ⟨zzn, 3⟩ rfl JC29.out ⟨g29, 0, none⟩ rfl (qe5 Hlit29.out) hlim (Nat.le_trans hB0 (Nat.le_trans (Nat.le_trans (Nat.le_refl _) bl28.size) bl29.size)) ?_
       intro v30 W30 hn30 hk30 hr30 hb30
       rw [HLL.out] at hn30
       obtain ⟨x30, d30, rfl, -⟩ := hn30.form
       have JX30 : Hid (Vn W30 w.heap.size 25 #[.int .u8 (k : Int), .int .i64 n, .string nm, .slice a len cap, .int .i64 ln, .int .i64 cl]) := JX29.out.lowB hb30 hxB
       have JC30 := qa0 hk30
       have JB30 := qa0 (JB29.out.trans hb30)
       have Hnw30 := qa0 hn30
       have Hal30 : Hid (Vn W30 g28 29 #[.int .i64 0, .int .i64 0, .int .i64 0]) := Vn.keptB Hal29.out hr30 (fun q e => by have := (HCt.out.base e).2; omega)
       refine hKK.out _ _ JX30.out (fun _ => ?_)
       clear hKK KK
       try simp only [mz1, mz2, mz3, Act.put, mz4, mz5, mz6]
       refine wpAnyH_ready (rs := [5]) (by kernel_rfl) (by simp) ?_
       refine AllReadyH.cons rfl (fun KK hKK => ?_) AllReadyH.nil
       go_simp
       refine (HEv.out _ _ _ JB30.out Hnw30.out).mono ?_
       rintro e W31 ⟨rfl, bl31⟩
       have JX31 := qa0 (JX30.out.later bl31)
       have JC31 := qa0 (JC30.out.later bl31)
       have JB31 := qa0 (JB30.out.trans (bl31.mono (Nat.le_trans hB0 (Nat.le_trans (Nat.le_trans (Nat.le_trans (Nat.le_refl _) bl28.size) bl29.size) hb30.size))))
       have Hal31 := qa0 (Hal30.out.later bl31)
       have Hnw31 := qa0 (Hnw30.out.later bl31)
       refine hKK.out _ _ JX31.out (fun _ => ?_)
       clear hKK KK
       try simp only [mz1, mz2, mz3, Act.put, mz4, mz5, mz6]
       refine wtkq 6 ?vt6_32 rfl (by kernel_rfl) (fun _ _ _ h => h) (by rfl) ?yt6_32 JX31.out ?zt6_32
       case yt6_32 => (intro wq hSw; (try dsimp only at hSw); go_simp; try with_reducible rfl)
       try simp only [mz1, mz2, mz3, Act.put, mz4, mz5, mz6]
       refine wtkq 7 ?vt7_33 rfl (by kernel_rfl) (fun _ _ _ h => h) (by rfl) ?yt7_33 JX31.out ?zt7_33
       case yt7_33 => (intro wq hSw; (try dsimp only at hSw); go_simp; try with_reducible rfl)
       try simp only [mz1, mz2, mz3, Act.put, mz4, mz5, mz6]
       refine wtkq 8 ?vt8_34 rfl (by kernel_rfl) (fun _ _ _ h => h) (by rfl) ?yt8_34 JX31.out ?zt8_34
       case yt8_34 => (intro wq hSw; (try dsimp only at hSw); go_simp; try with_reducible rfl)
       try simp only [mz1, mz2, mz3, Act.put, mz4, mz5, mz6]
       refine wtkq 10 ?vt10_36 rfl (by kernel_rfl) (fun _ _ _ h => h) (by rfl) ?yt10_36 JX31.out ?zt10_36
       case yt10_36 => (intro wq hSw; (try dsimp only at hSw); go_simp; try with_reducible rfl)
       try simp only [mz1, mz2, mz3, Act.put, mz4, mz5, mz6]
       refine wpAnyH_ready (rs := [11]) (by kernel_rfl) (by simp) ?_
       refine AllReadyH.cons rfl (fun KK hKK => ?_) AllReadyH.nil
       refine qah 29 _ _ rfl g28 _ #[.int .i64 (V2c : Int), .int .i64 V2l, .int .i64 V2k] rfl rfl Hal31.out sizeFau rfl (all3 rfl rfl rfl) ?_
       intro w8 HF8 hg8
       have hC8 : Cw w8 B0 (.slice xt M.length dt) M := JC31.out.kept hg8.out (.inr (fun e => by have := (HCt.out.base e).2; omega))
       have hb8 : Below B0 w5 w8 := JB31.out.trans (jbelow hg8.out (Nat.le_trans hB0 (Nat.le_trans (Nat.le_trans (Nat.le_trans (Nat.le_trans (Nat.le_refl _) bl28.size) bl29.size) hb30.size) bl31.size)) (fun g e => by cases e; omega))
       have hx8 : Vn w8 w.heap.size 25 #[.int .u8 (k : Int), .int .i64 n, .string nm, .slice a len cap, .int .i64 ln, .int .i64 cl] := HX5.out.lowB hb8 hxB
       refine hKK.out _ _ hx8 (fun _ => ?_)
       clear hKK KK
       try simp only [mz1, mz2, mz3, Act.put]
       refine wpAnyH_done (by kernel_rfl) ?_ _
       try simp only [mz1, mz2, mz3, Act.put, mz4, mz5, mz6]
       exact hG _ _ _ _ ⟨HF8.out, hb8, (fun q e => by have := (HCt.out.base e).2; omega), hC8⟩
     rintro vL1 vL2 gj wj ⟨hgj, hbj, hne, hck⟩
     have HNe := qa0 hne
     have HGj := qa0 hgj
     have HBj := qa0 hbj
     have HCj := qa0 hck
     have HXj : Hid (Vn wj w.heap.size 25 #[.int .u8 (k : Int), .int .i64 n, .string nm, .slice a len cap, .int .i64 ln, .int .i64 cl]) := HX5.out.lowB hbj hxB
     have HFj : Hid (Vn wj w2.heap.size 29 #[.int .i64 (Vc : Int), .int .i64 Vl, .int .i64 Vk]) := HG5.out.lowB hbj hgB
     have HWj : Hid (Below w.heap.size w wj) := HB5.out.trans (hbj.mono hwB)
     have hBj : B0 ≤ wj.heap.size := Nat.le_trans HS5.out hbj.size
     have hgjl := hgj.lt
     clear hgj hbj hck hne HCr HBr HXr HEv HX5 HG5 hBr
     try dsimp only
     obtain ⟨mz, Hmz⟩ : ∃ mz, Hid (mayE (tH F1 i 3) (i + 1) = mz) := ⟨_, rfl⟩
     rw [Hmz.out] at HMz HA4 HA2b
     have AP : Hid (∀ v' w6, (wj.alloc (.cells #[.string ⟨#[122, 122, 122, 122, 122, 122, 122, 122, 122, 122, 122, 122, 122, 122]⟩, .int .i64 0] 50)).grownBy w6 (Value.slice xt M.length dt).ownBlock → w6.ownsRow B0 50 2 v' (M.length + 1) (crow M ++ [.string zzn, .int .i64 0]) → Cw w6 B0 v' LZ ∧ Below B0 wj w6 ∧ (∀ b T xs, Vn wj b T xs → (∀ q, (Value.slice xt M.length dt).ownBlock = some q → q ≠ b) → Vn w6 b T xs)) := fun v' w6 hgrow hown => by
      have h1 : Cw w6 B0 v' (M ++ [⟨zzn, 0⟩]) := Cw.push hown
      rw [HLZ.out] at h1
      refine ⟨h1, ((jlow _ _).mono hBj).trans (jbelow hgrow (by simp; omega) (fun g hg => (HCj.out.base hg).1)), fun b T xs hv hne => (hv.later (jlow _ _)).keptB hgrow hne⟩
     cases mz with
     | false =>
      have hV2 := HA4.out rfl
      subst hV2
      clear HA4 HA2b HNm2
      go_wp2_with (first
       | (at_builtin; go_loud (refine wpList_append_own _ rfl _ _ 26 rfl B0 50 i0 (.agg #[.string ⟨#[]⟩, .int .i64 0]) 2 24 Tryd.underlying26 hi0 hz0 hz1 hz2 rfl (by decide) _ M.length _ rfl (HCj.out.later (jlow _ _)) ⟨wj.heap.size, 0, none⟩ 1 1 [.string zzn, .int .i64 0] rfl rfl (qar _ _ _) (by intro u hu; simp at hu; rcases hu with rfl | rfl <;> rfl) (by unfold maxLen; omega) (by omega) (by simp; omega) ?_; intro v' w6 hown' hgrow' _; obtain ⟨hC6, hb6, hk6⟩ := AP.out v' w6 hgrow' hown'; have HC6 := qa0 hC6; have HG6 : Hid (Vn w6 gj 29 #[.int .i64 2, .int .i64 V2l, .int .i64 V2k]) := hk6 _ _ _ HGj.out HNe.out; have HB6 := qa0 (HWj.out.trans (hb6.mono hwB)); obtain ⟨x6, d6, e6, -⟩ := hC6.form; subst e6; clear hown' hgrow' hC6 hb6 hk6))
       | (go_at_call 18; go_loud (refine (HMz.out _ _ _ HC6.out).mono ?_; rintro e w7 ⟨rfl, hb7⟩; have HB7 := qa0 (jtwo HB6.out hb7); have HG7 := qa0 (HG6.out.later hb7); clear hb7))
       | (go_at_call 17; go_loud (refine (HAn.out _ HB7.out).mono ?_; rintro e w8 ⟨rfl, hb8⟩; have HB8 := qa0 (jtwo HB7.out hb8); have HG8 := qa0 (HG7.out.later hb8); have o0 := HG8.out.cell 0 _ rfl; clear hb8)))
      go_ret
      exact ⟨rfl, HB8.out⟩
     | true =>
      have HA2c := qa0 (HA2b.out rfl)
      clear HA4 HA2b
      have HX6n : Hid (∀ q, (Value.slice xt M.length dt).ownBlock = some q → q ≠ w.heap.size) := fun q e => by have := (HCj.out.base e).1; omega
      have HF6n : Hid (∀ q, (Value.slice xt M.length dt).ownBlock = some q → q ≠ w2.heap.size) := fun q e => by have := (HCj.out.base e).1; omega
      go_wp2_with (first
       | (at_builtin; go_loud (refine wpList_append_own _ rfl _ _ 26 rfl B0 50 i0 (.agg #[.string ⟨#[]⟩, .int .i64 0]) 2 24 Tryd.underlying26 hi0 hz0 hz1 hz2 rfl (by decide) _ M.length _ rfl (HCj.out.later (jlow _ _)) ⟨wj.heap.size, 0, none⟩ 1 1 [.string zzn, .int .i64 0] rfl rfl (qar _ _ _) (by intro u hu; simp at hu; rcases hu with rfl | rfl <;> rfl) (by unfold maxLen; omega) (by omega) (by simp; omega) ?_; intro v' w6 hown' hgrow' _; obtain ⟨hC6, hb6, hk6⟩ := AP.out v' w6 hgrow' hown'; have HC6 := qa0 hC6; have HG6 : Hid (Vn w6 gj 29 #[.int .i64 (V2c : Int), .int .i64 V2l, .int .i64 V2k]) := hk6 _ _ _ HGj.out HNe.out; have HF6 : Hid (Vn w6 w2.heap.size 29 #[.int .i64 (Vc : Int), .int .i64 Vl, .int .i64 Vk]) := hk6 _ _ _ HFj.out HF6n.out; have HX6 : Hid (Vn w6 w.heap.size 25 #[.int .u8 (k : Int), .int .i64 n, .string nm, .slice a len cap, .int .i64 ln, .int .i64 cl]) := hk6 _ _ _ HXj.out HX6n.out; have HB6 := qa0 (HWj.out.trans (hb6.mono hwB)); obtain ⟨x6, d6, e6, -⟩ := hC6.form; subst e6; clear hown' hgrow' hC6 hb6 hk6))
       | (go_at_call 18; go_loud (refine (HMz.out _ _ _ HC6.out).mono ?_; rintro e w7 ⟨rfl, hb7⟩; have HB7 := qa0 (jtwo HB6.out hb7); have HG7 := qa0 (HG6.out.later hb7); have HF7 := qa0 (HF6.out.later hb7); have HX7 := qa0 (HX6.out.later hb7); have s0 := HX7.out.cell 0 _ rfl; have s1 := HX7.out.cell 1 _ rfl; have s2 := HX7.out.cell 2 _ rfl; have s3 := HX7.out.cell 3 _ rfl; have s4 := HX7.out.cell 4 _ rfl; have s5 := HX7.out.cell 5 _ rfl; clear hb7))
       | (go_at_call 11; go_loud (refine (HNm2.out _ HB7.out).mono ?_; rintro e w9 ⟨⟨vq, Q, rfl, hQ, hris, hmem, hq8⟩, hb9⟩; have HB9 := qa0 (jtwo HB7.out hb9); have HG9 := qa0 (HG7.out.later hb9); have HF9 := qa0 (HF7.out.later hb9); have HQ := qa0 hQ; have HMem := qa0 hmem; obtain ⟨xq, dq, e9, -⟩ := hQ.form; subst e9; clear hQ hmem hris hb9)))
      clear HX7 HX6 HG7 HG6 HF7 HF6 HB7 HB6 HC6 HMz HNm2 AP HWj HGj HFj HXj HCj HBj s0 s1 s2 s3 s4 s5
      go_loop [13] (fun vi => ∃ r : Nat, r ≤ Q.length ∧ vi = .int .i64 (r : Int) ∧ Hid (∀ (q : Nat) (y : List UInt8), q < r → Q[q]? = some y → y ≠ zzn.data.toList)) (fun vi => Q.length - (intOf vi).toNat)
      case atStart => exact ⟨0, by omega, rfl, fun q y h => by omega⟩
      case round =>
       obtain ⟨r, hrQ, rfl, HNo⟩ := hrel
       by_cases hrl : r < Q.length
       ·have p0 : (0 : Int) ≤ (r : Int) := by omega
        have p1 : (r : Int) < (Q.length : Int) := by omega
        obtain ⟨y, hy⟩ : ∃ y, Q[r]? = some y := ⟨_, List.getElem?_eq_getElem hrl⟩
        obtain ⟨gq, ex, z1⟩ := HQ.out.el hy
        subst ex
        by_cases hyz : y = zzn.data.toList
        ·have z2 : w9.cell? ⟨gq, r, none⟩ = some (.string ⟨#[122, 122, 122, 122, 122, 122, 122, 122, 122, 122, 122, 122, 122, 122]⟩) := by rw [z1, hyz]; rfl
         clear z1 hy hyz HNo HMem HA2c
         go_wp2_with (go_at_call 17; go_loud (refine (HAn.out _ HB9.out).mono ?_; rintro e w8 ⟨rfl, hb8⟩; have HB8 := qa0 (jtwo HB9.out hb8); clear hb8))
         go_ret
         exact ⟨rfl, HB8.out⟩
        ·obtain ⟨ys, Hys⟩ : ∃ ys : ByteArray, Hid (⟨y.toArray⟩ = ys) := ⟨_, rfl⟩
         rw [Hys.out] at z1
         have eyu : ys ≠ ⟨#[122, 122, 122, 122, 122, 122, 122, 122, 122, 122, 122, 122, 122, 122]⟩ := fun e => hyz (by rw [← show ys.data.toList = y by rw [← Hys.out], e]; rfl)
         have g1 : sbq ys ⟨#[122, 122, 122, 122, 122, 122, 122, 122, 122, 122, 122, 122, 122, 122]⟩ = false := qbc eyu
         have g2 : (ys.toList == (⟨#[122, 122, 122, 122, 122, 122, 122, 122, 122, 122, 122, 122, 122, 122]⟩ : ByteArray).toList) = false := g1
         have g3 : decide (ys = ⟨#[122, 122, 122, 122, 122, 122, 122, 122, 122, 122, 122, 122, 122, 122]⟩) = false := decide_eq_false eyu
         have g4 : (ys.toList == [122, 122, 122, 122, 122, 122, 122, 122, 122, 122, 122, 122, 122, 122]) = false := by
          rw [show ([122, 122, 122, 122, 122, 122, 122, 122, 122, 122, 122, 122, 122, 122] : List UInt8) = (⟨#[122, 122, 122, 122, 122, 122, 122, 122, 122, 122, 122, 122, 122, 122]⟩ : ByteArray).toList by rw [ByteArray.toList_eq]]
          exact g1
         have HNo2 : Hid (∀ (q : Nat) (y : List UInt8), q < r + 1 → Q[q]? = some y → y ≠ zzn.data.toList) := fun q y' hq hy' => by
          by_cases e : q = r
          ·subst e; rw [hy] at hy'; cases hy'; exact hyz
          ·exact HNo.out q y' (by omega) hy'
         clear hy hyz Hys HNo HMem HA2c eyu
         go_wp2
         exact ⟨⟨r + 1, by omega, by go_num, HNo2⟩, by simp [intOf]; omega⟩
       ·obtain rfl : r = Q.length := by omega
        have hEq := HA2c.out (fun h => by
         have h2 := (HMem.out _).2 h
         obtain ⟨q, hq, e⟩ := List.getElem_of_mem h2
         exact HNo.out q _ hq (List.getElem?_eq_getElem hq) e)
        obtain ⟨rfl, rfl, rfl, rfl⟩ : V2v = Vv ∧ V2c = Vc ∧ V2l = Vl ∧ V2k = Vk := by injection hEq with h1 h2 h3 h4; exact ⟨h1, h2, h3, h4⟩
        have HNum : Hid (∀ w' : World, Calls Tryd.prog 20 #[.int .i64 V2v] w' fun e w'' => e = .returned (.bool true) ∧ w' = w'') := fun w' => by
         have h := qch w' V2v
         rw [hnv] at h
         exact h
        have heq := qdw
        have hng := qay
        clear HMem HNo HA2c hEq hnv
        go_wp2_with (first
         | (go_at_call 17; go_loud (refine (HAn.out _ HB9.out).mono ?_; rintro e w8 ⟨rfl, hb8⟩; have HB8 := qa0 (jtwo HB9.out hb8); have HG8 := qa0 (HG9.out.later hb8); have HF8 := qa0 (HF9.out.later hb8); have o0 := HG8.out.cell 0 _ rfl; have o1 := HG8.out.cell 1 _ rfl; have o2 := HG8.out.cell 2 _ rfl; have q0 := HF8.out.cell 0 _ rfl; have q1 := HF8.out.cell 1 _ rfl; have q2 := HF8.out.cell 2 _ rfl; clear hb8))
         | (go_at_call 20; go_loud (refine (HNum.out _).mono ?_; rintro e w7 ⟨rfl, rfl⟩)))
        go_ret
        exact ⟨by simp, HB8.out⟩
theorem lifted (os : Os) (started : os.Started) (H : Type) (enc : TypeId × Value → H) :
  ReturnsInHanded {} Tryd.checked os 6 .any (fun w args => (Rows.numberTurnedSpec.pre enc Tryd.prog Tryd.f6 [] false w args ∧ laidMetH Tryd.prog laidL w) ∧ sizedMet enc Tryd.prog Tryd.f6 (OpenSpec.ofChange Rows.numberTurnedSpec) false w args)
   (Rows.numberTurnedSpec.post enc Tryd.prog Tryd.f6 false true false false) := by
 refine returnsInHanded_of_change_and (C := Tryd.checked) (X := fun w _ => laidMetH Tryd.prog laidL w) (fun _ _ _ hh h => h.of_heap hh) own started (by kernel_rfl) Tryd.func6
  (ChangeSpec.witness_shaped (enc := enc) (C := Tryd.checked) (os := os) (X := fun w _ => laidMetH Tryd.prog laidL w) false (World.doorLaid Tryd.prog 4000 os) #[.agg #[.int .u8 0, .int .i64 0, .string ⟨#[]⟩, .slice none 0 0, .int .i64 0, .int .i64 0], .slice none 0 0] 8 rfl (World.shaped_of_RefB (by kernel_rfl) (by kernel_rfl)) (by kernel_rfl) (by kernel_rfl) (by kernel_rfl) (door_met os _)) ?_
 intro W base args ds gs before hval0 hW hcnd hsz0 hL _
 have hsz : (DataW.weightsEach Tryd.prog (Tryd.f6.params.toList ++ Rows.numberTurnedSpec.plain.varTypes Tryd.prog) (ds ++ gs)).all (· ≤ reachBytes) = true := hsz0
 clear hsz0
 have hval : ∀ (j : Nat) t v, Tryd.f6.params[j]? = some t → args[j]? = some v → Value.okWide Tryd.prog W .any base t v := hval0
 have hW' := hW
 obtain ⟨p, q, hA0, hV, rfl, hfz, hnd⟩ := hW
 have hA : DataW.TrodAll enc Tryd.prog W 0 (fun _ => true) true Tryd.f6.params.toList args.toList ds p := hA0
 rw [Tryd.params6] at hA hval hsz
 obtain ⟨va0, vs0, d0, ds0, p0, q0, hargs0, rfl, rfl, h0, tr0⟩ := trodAll_cons hA
 obtain ⟨va1, vs1, d1, ds1, p1, q1, hargs1, rfl, rfl, h1, tr1⟩ := trodAll_cons tr0
 obtain ⟨rfl, rfl, rfl⟩ := trodAll_nil tr1
 obtain rfl : args = #[va0, va1] := by cases args; simp_all
 obtain ⟨rfl, rfl⟩ := trodVars_none hV
 have k0 := h0
 have lt0 : ∀ x ∈ p0, x.block < W.heap.size := by obtain ⟨m, hm⟩ := k0; exact DataW.trod_lt m _ _ _ hm
 have k1 := h1
 have lt1 : ∀ x ∈ p1, x.block < W.heap.size := by obtain ⟨m, hm⟩ := k1; exact DataW.trod_lt m _ _ _ hm
 have hL0 := hL
 rw [MakeChecks.laidMetH_plain _ _ _ (by kernel_rfl)] at hL0
 obtain ⟨T0, w0⟩ : ∃ T : Xt, XV W va0 T := by
  obtain ⟨fuel, hf⟩ := h0
  obtain ⟨cs, rfl, _⟩ := okWide_struct Tryd.underlying25 (hval 0 25 va0 rfl rfl)
  obtain ⟨T, hT⟩ := x_in fuel cs.toList _ (by simpa [Value.cells] using hf) (List.all_eq_true.2 fun n hn => List.all_eq_true.1 hsz n (DataW.weights_mem_each (j := 0) rfl rfl n hn))
  exact ⟨T, by simpa using hT.value⟩
 obtain ⟨a1, len1, cap1, F1, rfl, l1, w1⟩ : ∃ (a : Option Addr) (len cap : Nat) (F : Nat → Cn), va1 = .slice a len cap ∧ len ≤ 5864062014634 ∧ EL W a len F := by
  obtain ⟨fuel, hf⟩ := h1
  obtain ⟨a, len, cap, rfl⟩ := okWide_slice Tryd.underlying26 (hval 1 26 va1 rfl rfl)
  exact env_in (by simpa [Value.cells] using hf) (List.all_eq_true.2 fun n hn => List.all_eq_true.1 hsz n (DataW.weights_mem_each (j := 1) rfl rfl n hn))
 clear hA0 hval0
 refine (walk va0 T0 a1 len1 cap1 F1 W w0 w1 l1 (of_words hL0)).mono fun e W' ⟨he, bel⟩ => ?_
 subst he
 exact ⟨_, rfl, _, _, _, [], _, [], hW', trodAll_mk1 (shut_bool Tryd.underlying4 _), (trodAll_cons_mk (Below.trod laidOut (by kernel_rfl) (of_decide_eq_true (by kernel_rfl)) k0 bel lt0) (trodAll_cons_mk (Below.trod laidOut (by kernel_rfl) (of_decide_eq_true (by kernel_rfl)) k1 bel lt1) trodAll_mk0)), rfl, bel.frame _, fun h => by cases h⟩
theorem over : Rows.NumberTurnedSaid :=
 OpenClaim.holds_of_wide 6 Tryd.f6 rfl rfl rfl rfl rfl rfl rfl ⟨rfl, rfl, rfl, rfl, rfl⟩ rfl rfl rfl rfl rfl (by kernel_rfl) Tryd.func6 (by kernel_rfl)
  (of_decide_eq_true (by kernel_rfl)) (by unfold Func.isWrapper; first | (rw [if_pos (by decide +kernel)]; kernel_rfl) | (rw [if_neg (by decide +kernel)]; exact ⟨rfl, rfl⟩))
  (fun os started H enc _ => lifted os started H enc)
theorem proved : Rows.NumberTurnedCardSaid :=
 Claim7.holds_tied_plain_at .later [] [.data] true (true, "1329221dac406c43c15575f849f7c51730e5667f4e56abb764632b948d968ae6") false
  over (fun _ h => by cases h) (by kernel_rfl) (fun _ h => by cases h) numberTurned_row_tie rfl ⟨rfl, rfl⟩ (by kernel_rfl) rfl
  (fun f fn hf hfn => by
   obtain rfl : f = 6 := Option.some.inj ((show Tryd.prog.funcNamed "recoup/recouplaw12.NumberTurned" = some 6 by kernel_rfl).symm.trans hf) |>.symm
   obtain rfl : fn = Tryd.f6 := (Option.some.inj (Tryd.func6.symm.trans hfn)).symm
   exact ⟨by kernel_rfl, fun j t ht => by
    rw [Tryd.params6] at ht
    have hm : t ∈ [25, 26] := by simpa using Array.mem_of_getElem? ht
    have hall : ([25, 26].all fun u => !Tryd.prog.wantsStandIn u) = true := by kernel_rfl
    exact (show Tryd.prog.wantsStandIn t = false by simpa using List.all_eq_true.1 hall t hm)⟩)
  (by kernel_rfl)
#print axioms proved
end Go.Proofs.YtgmndjbicandfaaDoor.numberTurned
