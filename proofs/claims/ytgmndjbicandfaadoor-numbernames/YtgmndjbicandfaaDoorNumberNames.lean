/-
  Proved: for all expressions x, y and every name, the program's Names and Put answer as the document's, all places too, or tell the same error (P12.3); no condition.
-/
import Derived.Test.YtgmndjbicandfaaDoorQnnes00
import Derived.Test.YtgmndjbicandfaaDoorQnnes47
import Derived.Test.YtgmndjbicandfaaDoorTie
import Derived.Test.YtgmndjbicandfaaDoorCards
import Derived.Test.YtgmndjbicandfaaDoorQnnes48
import Derived.WalkKit
import Derived.SizedLaws
import Derived.ProofKit
import Derived.LaidMore
import Derived.OpenShut
import Derived.ShutString
import Derived.ChangeOld
import Derived.Below
import Derived.Stop.Joined
import Derived.SevenTiedAt
import Derived.Lib.SmallJoins
import Derived.Lib.LaidTab
import Derived.MakeChecks
import Derived.Handed
import Derived.Stop.LaidErr
set_option maxRecDepth 100000
set_option maxHeartbeats 16000000
namespace Go.Proofs.YtgmndjbicandfaaDoor.numberNames
open Go.ChangeShapes Go.WideShapes Go.ChangeAt Go.RowKit Go.Joins
set_option linter.unusedVariables false
theorem own : ownKnob Tryd.prog.godebug = none := by kernel_rfl
theorem laidOut : laidOutB Tryd.prog = true := by kernel_rfl
/-- What the listed variables hold. -/
def laidL : List (String × DataW Unit) := [("recoup/token.words", Rows.laid_recoup_token_words)]
theorem door_met (os : Os) (args : Array Value) : laidMetH Tryd.prog laidL ((World.doorLaid Tryd.prog 4000 os).forCall (fun _ _ => 0) ⟨#[], args, []⟩).memory :=
 laidMetH_of_parts3 (fuel := 8) (laidMet_of_run' 8 (by kernel_rfl) (by kernel_rfl)) (by kernel_rfl) (by kernel_rfl)
theorem gWds : Tryd.prog.globalNamed "recoup/token.words" = some 0 := by kernel_rfl
theorem tWds : (Tryd.prog.globals[0]?).map (·.type) = some 117 := by kernel_rfl
theorem dWds : (Rows.laid_recoup_token_words : DataW Unit) = .agg ((wds.map fun x => x.data.toList).map fun z => .lit (.string z)) := by kernel_rfl
theorem of_words {W : World} (h : laidMet Tryd.prog laidL W) : Wt9 W := by
 have hk := h
 obtain ⟨ps, ⟨g0, t0, cs0, f0, p0, q0, hg0, ht0, hv0, hd0, _, _⟩, _, _⟩ := hk
 obtain rfl := Option.some.inj (gWds.symm.trans hg0)
 obtain rfl := Option.some.inj (tWds.symm.trans ht0)
 rw [dWds] at hd0
 have hc := qbi Tryd.underlying117 Tryd.underlying9 (by kernel_rfl) (by kernel_rfl) hd0
 unfold Wt9
 rw [hv0]
 obtain ⟨l⟩ := cs0
 have hl : l = wds.map Value.string := hc.trans (by kernel_rfl)
 rw [hl]
theorem walk (v0 : Value) (T0 : Xt) (v1 : Value) (T1 : Xt) (s2 : ByteArray) (w : World) (w0 : XV w v0 T0) (w1 : XV w v1 T1) (w2 : s2.size ≤ 140737488351232) (t1 : Wt9 w) :
  Calls Tryd.prog 4 #[v0, v1, .string s2] w fun e w' => e = .returned (.bool true) ∧ Below w.heap.size w w' := by
 have HAn : Hid (∀ w' : World, Below w.heap.size w w' → Calls Tryd.prog 17 #[] w' fun e w'' => e = .returned (.bool true) ∧ Below w'.heap.size w' w'') := fun w' hb => qdh w' (t1.later hb)
 obtain ⟨QN, EN, hQl, hN1, hN2⟩ := qec w T0 v0 w0 t1
 obtain ⟨ZZ, EP, hfin, hPd, hP1, hP2⟩ := put_fix w T0 T1 v0 v1 s2 w0 w1 w2 t1
 have HN1 := qa0 hN1
 have HN2 := qa0 hN2
 have HP1 := qa0 hP1
 have HP2 := qa0 hP2
 clear hN1 hN2 hP1 hP2
 have HLk : Hid (∀ (W : World) (p q : Value), XV W p ZZ → XV W q ZZ → Calls Tryd.prog 14 #[p, q] W fun e w'' => e = .returned (.bool true) ∧ Below W.heap.size W w'') := fun W p q hp hq => by
  have h := rlikex 16 W ZZ ZZ p q hfin hp hq
  rw [(lk_iff 16 ZZ ZZ).2 (xlk_refl _ _)] at h
  exact h
 obtain ⟨LP, HLP⟩ : ∃ LP, Hid (icl (fun _ => plc 16 ZZ) 1 = LP) := ⟨_, rfl⟩
 have hLP : LP.length ≤ 16386 := by
  rw [← HLP.out]
  show ([] ++ plc 16 ZZ).length ≤ _
  rw [List.nil_append]
  exact hPd.few
 have HPl : Hid (∀ (W : World) (x : Option Addr), (∀ d, XL d W x 1 (fun _ => ZZ)) → Calls Tryd.prog 16 #[.slice x 1 1] W fun e w'' => (∃ y c, e = .returned (.slice y LP.length c) ∧ Iw w'' 0 (.slice y LP.length c) LP) ∧ Below W.heap.size W w'') := fun W x hx => (rplaces 16 W x 1 1 (fun _ => ZZ) hx (by omega) (fun _ _ => hPd)).mono (fun e w'' h => by
  obtain ⟨⟨v, rfl, hv⟩, hb⟩ := h
  rw [HLP.out] at hv
  obtain ⟨y, c, rfl, _⟩ := hv.form
  exact ⟨⟨y, c, rfl, hv.low (Nat.zero_le _)⟩, hb⟩)
 have HIn : Hid (∀ (W : World) (x y : Option Addr) (c1 c2 : Nat), Iw W 0 (.slice x LP.length c1) LP → Iw W 0 (.slice y LP.length c2) LP → Calls Tryd.prog 15 #[.slice x LP.length c1, .slice y LP.length c2] W fun e w'' => e = .returned (.bool true) ∧ Below W.heap.size W w'') := fun W x y c1 c2 h1 h2 => qdg LP.length c1 c2 x y (fun i => LP.getD i 0) W (by omega) h1.jl h2.jl
 obtain ⟨⟨a, cap, rfl, _⟩, _⟩ := w0
 obtain ⟨⟨ya, ycap, rfl, _⟩, _⟩ := w1
 clear w2 t1 HLP hfin hPd
 generalize T0 [] = l at *
 obtain ⟨k, n, nm, len, ln, cl⟩ := l
 generalize T1 [] = l2 at *
 obtain ⟨yk, yn, ynm, ylen, yln, ycl⟩ := l2
 dsimp only at HN1 HN2 HP1 HP2 ⊢
 have HF : Hid (∀ (W : World) (p : Value), XV W p ZZ → ∃ pa pc, p = .agg (List.toArray [.int .u8 ((ZZ []).k : Int), .int .i64 (ZZ []).n, .string (ZZ []).nm, .slice pa (ZZ []).len pc, .int .i64 (ZZ []).ln, .int .i64 (ZZ []).cl])) := fun W p h => by
  obtain ⟨⟨pa, pc, e, _⟩, _⟩ := h
  exact ⟨pa, pc, e⟩
 generalize ZZ [] = l3 at *
 obtain ⟨zk, zn, znm, zlen, zln, zcl⟩ := l3
 dsimp only at HF
 have H1 := qa0 (Vn.new w 25 #[.int .u8 (k : Int), .int .i64 n, .string nm, .slice a len cap, .int .i64 ln, .int .i64 cl])
 have HY := qa0 (Vn.new (w.alloc (.cells #[.int .u8 (k : Int), .int .i64 n, .string nm, .slice a len cap, .int .i64 ln, .int .i64 cl] 25)) 25 #[.int .u8 (yk : Int), .int .i64 yn, .string ynm, .slice ya ylen ycap, .int .i64 yln, .int .i64 ycl])
 have HB := qa0 (jtwo (jlow w (.cells #[.int .u8 (k : Int), .int .i64 n, .string nm, .slice a len cap, .int .i64 ln, .int .i64 cl] 25)) (jlow _ (.cells #[.int .u8 (yk : Int), .int .i64 yn, .string ynm, .slice ya ylen ycap, .int .i64 yln, .int .i64 ycl] 25)))
 have HX := qa0 (H1.out.later (jlow _ (.cells #[.int .u8 (yk : Int), .int .i64 yn, .string ynm, .slice ya ylen ycap, .int .i64 yln, .int .i64 ycl] 25)))
 rw [qa2] at HY
 clear H1
 have c0 := HX.out.cell 0 _ rfl; have c1 := HX.out.cell 1 _ rfl; have c2 := HX.out.cell 2 _ rfl; have c3 := HX.out.cell 3 _ rfl; have c4 := HX.out.cell 4 _ rfl; have c5 := HX.out.cell 5 _ rfl
 go_enter Tryd.func4, Tryd.ntmps4
 go_wp2_with (first
  | (go_at_call 10; go_loud (refine (HN1.out _ HB.out).mono ?_; rintro e w1 ⟨⟨x1, d1, rfl, h1⟩, hb1⟩; have HL1 := qa0 h1; have HB1 := qa0 (jtwo HB.out hb1); have HX1 := qa0 (HX.out.later hb1); have HY1 := qa0 (HY.out.later hb1); have e0 := HX1.out.cell 0 _ rfl; have e1 := HX1.out.cell 1 _ rfl; have e2 := HX1.out.cell 2 _ rfl; have e3 := HX1.out.cell 3 _ rfl; have e4 := HX1.out.cell 4 _ rfl; have e5 := HX1.out.cell 5 _ rfl; clear h1 hb1))
  | (go_at_call 11; go_loud (refine (HN2.out _ HB1.out).mono ?_; rintro e w2 ⟨⟨x2, d2, rfl, h2⟩, hb2⟩; have HL2 := qa0 h2; have HM1 := qa0 (HL1.out.later hb2); have HB2 := qa0 (jtwo HB1.out hb2); have HX2 := qa0 (HX1.out.later hb2); have HY2 := qa0 (HY1.out.later hb2); clear h2 hb2)))
 clear c0 c1 c2 c3 c4 c5 e0 e1 e2 e3 e4 e5 HX HY HX1 HY1 HB HB1 HL1
 go_loopw [11] (fun vi wr => ∃ j : Nat, j ≤ QN.length ∧ vi = .int .i64 (j : Int) ∧ Hid (Below w2.heap.size w2 wr)) (fun vi _ => QN.length - (intOf vi).toNat)
 case atStart => exact ⟨0, by omega, rfl, Below.refl _ _⟩
 case round =>
  obtain ⟨j, hj, rfl, HBr⟩ := hrel
  by_cases hlt : j < QN.length
  ·have p0 : (0 : Int) ≤ (j : Int) := by omega
   have p1 : (j : Int) < (QN.length : Int) := by omega
   obtain ⟨u, hu⟩ : ∃ u, QN[j]? = some u := ⟨_, List.getElem?_eq_getElem hlt⟩
   obtain ⟨g1, ea, z1⟩ := (HM1.out.later HBr.out).el hu
   obtain ⟨g2, eb, z2⟩ := (HL2.out.later HBr.out).el hu
   subst ea
   subst eb
   obtain ⟨us, Hus⟩ : ∃ us : ByteArray, Hid (⟨u.toArray⟩ = us) := ⟨_, rfl⟩
   rw [Hus.out] at z1 z2
   clear hu Hus HLk HPl HIn HP1 HP2 HF HAn HX2 HY2 HB2 HM1 HL2
   go_wp2
   go_quiet (fail)
   go_wp2
   exact ⟨⟨j + 1, by omega, by go_num, below_drewN HBr.out _⟩, by simp [intOf]; omega⟩
  ·obtain rfl : j = QN.length := by omega
   have dd : decide ((QN.length : Int) < (QN.length : Int)) = false := decide_eq_false (by omega)
   have HB3 := qa0 (jtwo HB2.out HBr.out)
   have HX3 := qa0 (HX2.out.later HBr.out)
   have HY3 := qa0 (HY2.out.later HBr.out)
   clear HX2 HY2 HB2 HBr HM1 HL2 HN1 HN2
   have c0 := HX3.out.cell 0 _ rfl; have c1 := HX3.out.cell 1 _ rfl; have c2 := HX3.out.cell 2 _ rfl; have c3 := HX3.out.cell 3 _ rfl; have c4 := HX3.out.cell 4 _ rfl; have c5 := HX3.out.cell 5 _ rfl
   have e0 := HY3.out.cell 0 _ rfl; have e1 := HY3.out.cell 1 _ rfl; have e2 := HY3.out.cell 2 _ rfl; have e3 := HY3.out.cell 3 _ rfl; have e4 := HY3.out.cell 4 _ rfl; have e5 := HY3.out.cell 5 _ rfl
   have M1 : True := trivial
   have M2 : True := trivial
   go_wp2_with (first
    | (go_at_call 12; go_loud (refine (HP1.out _ HB3.out).mono ?_; rintro e w3 ⟨⟨p, rfl, hp⟩, hb3⟩; obtain ⟨pa, pc, rfl⟩ := HF.out _ _ hp; have HP3 := qa0 hp; have HB4 := qa0 (jtwo HB3.out hb3); have HX4 := qa0 (HX3.out.later hb3); have HY4 := qa0 (HY3.out.later hb3); clear hb3 hp))
    | (clear M1; (refine qa1 rfl 25 _ _ rfl w3.heap.size _ (List.toArray [.int .u8 (zk : Int), .int .i64 zn, .string znm, .slice pa zlen pc, .int .i64 zln, .int .i64 zcl]) rfl rfl (Vn.new w3 _ _) sizeX rfl (all6 rfl rfl rfl rfl rfl rfl) ?_; intro w4 HG4 hg4; have hb4 : Below w3.heap.size w3 w4 := (jlow _ _).trans (jbelow hg4.out (jlow _ _).size (fun g e => by cases e; exact Nat.le_refl _)); have HB5 := qa0 (jtwo HB4.out hb4); have HX5 := qa0 (HX4.out.later hb4); have HY5 := qa0 (HY4.out.later hb4); have HP4 := qa0 (HP3.out.later hb4); have m0 := HX5.out.cell 0 _ rfl; have m1 := HX5.out.cell 1 _ rfl; have m2 := HX5.out.cell 2 _ rfl; have m3 := HX5.out.cell 3 _ rfl; have m4 := HX5.out.cell 4 _ rfl; have m5 := HX5.out.cell 5 _ rfl; have o0 := HY5.out.cell 0 _ rfl; have o1 := HY5.out.cell 1 _ rfl; have o2 := HY5.out.cell 2 _ rfl; have o3 := HY5.out.cell 3 _ rfl; have o4 := HY5.out.cell 4 _ rfl; have o5 := HY5.out.cell 5 _ rfl; clear hg4 hb4))
    | (go_at_call 13; go_loud (refine (HP2.out _ HB5.out).mono ?_; rintro e w5 ⟨⟨q, rfl, hq⟩, hb5⟩; obtain ⟨qa, qc, rfl⟩ := HF.out _ _ hq; have HQ5 := qa0 hq; have HP5 := qa0 (HP4.out.later hb5); have HG5 := qa0 (HG4.out.later hb5); have HBa := qa0 (jtwo HB5.out hb5); clear hb5 hq))
    | (clear M2; (refine qa1 rfl 25 _ _ rfl w5.heap.size _ (List.toArray [.int .u8 (zk : Int), .int .i64 zn, .string znm, .slice qa zlen qc, .int .i64 zln, .int .i64 zcl]) rfl rfl (Vn.new w5 _ _) sizeX rfl (all6 rfl rfl rfl rfl rfl rfl) ?_; intro w6 HK6 hg6; have hb6 : Below w5.heap.size w5 w6 := (jlow _ _).trans (jbelow hg6.out (jlow _ _).size (fun g e => by cases e; exact Nat.le_refl _)); have HB6 := qa0 (jtwo HBa.out hb6); have HP6 := qa0 (HP5.out.later hb6); have HQ6 := qa0 (HQ5.out.later hb6); have HG6 := qa0 (HG5.out.later hb6); clear hg6 hb6)))
   obtain ⟨bp, Hbp⟩ : ∃ g, Hid (w3.heap.size = g) := ⟨_, rfl⟩
   obtain ⟨bq, Hbq⟩ : ∃ g, Hid (w5.heap.size = g) := ⟨_, rfl⟩
   rw [Hbp.out] at HG6
   rw [Hbq.out] at HK6
   try rw [Hbp.out]
   try rw [Hbq.out]
   clear Hbp Hbq HX3 HY3 HX4 HY4 HX5 HY5 HB3 HB4 HB5 HBa HP3 HP4 HP5 HQ5 HG4 HG5 c0 c1 c2 c3 c4 c5 e0 e1 e2 e3 e4 e5 m0 m1 m2 m3 m4 m5 o0 o1 o2 o3 o4 o5 HP1 HP2 HF
   refine wp_region_held (S := fun w' => Vn w' bp 25 (List.toArray [.int .u8 (zk : Int), .int .i64 zn, .string znm, .slice pa zlen pc, .int .i64 zln, .int .i64 zcl]) ∧ Vn w' bq 25 (List.toArray [.int .u8 (zk : Int), .int .i64 zn, .string znm, .slice qa zlen qc, .int .i64 zln, .int .i64 zcl])) (by kernel_rfl) ?_
   change wpAnyH _ _ _ _ _ _ _ _ (World.drew _)
   obtain ⟨W0, HW0⟩ : ∃ W0, Hid (w6.drew = W0) := ⟨_, rfl⟩
   have bl0 : Below w6.heap.size w6 W0 := by rw [← HW0.out]; exact (Below.refl _ _).drew
   rw [HW0.out]
   clear HW0
   have HB0 := qa0 (jtwo HB6.out bl0)
   have HSp0 := qa0 (HG6.out.later bl0)
   have HSq0 := qa0 (HK6.out.later bl0)
   have HXp0 := qa0 (HP6.out.later bl0)
   have HXq0 := qa0 (HQ6.out.later bl0)
   clear bl0
   refine wtkq 0 ?vt0_1 rfl (by kernel_rfl) (fun _ _ _ h => h) (by rfl) ?yt0_1 ⟨HSp0.out, HSq0.out⟩ ?zt0_1
   case yt0_1 => (intro wq hSw; obtain ⟨hpq, hqq⟩ := hSw; have r0 := hpq.cell 0 _ rfl; have s0 := hqq.cell 0 _ rfl; have r1 := hpq.cell 1 _ rfl; have s1 := hqq.cell 1 _ rfl; have r2 := hpq.cell 2 _ rfl; have s2 := hqq.cell 2 _ rfl; have r3 := hpq.cell 3 _ rfl; have s3 := hqq.cell 3 _ rfl; have r4 := hpq.cell 4 _ rfl; have s4 := hqq.cell 4 _ rfl; have r5 := hpq.cell 5 _ rfl; have s5 := hqq.cell 5 _ rfl; clear hpq hqq; go_simp; try with_reducible rfl)
   try simp only [mz1, mz3, Act.put, mz4, mz5, mz6]
   refine wtkq 1 ?vt1_2 rfl (by kernel_rfl) (fun _ _ _ h => h) (by rfl) ?yt1_2 ⟨HSp0.out, HSq0.out⟩ ?zt1_2
   case yt1_2 => (intro wq hSw; obtain ⟨hpq, hqq⟩ := hSw; have r0 := hpq.cell 0 _ rfl; have s0 := hqq.cell 0 _ rfl; have r1 := hpq.cell 1 _ rfl; have s1 := hqq.cell 1 _ rfl; have r2 := hpq.cell 2 _ rfl; have s2 := hqq.cell 2 _ rfl; have r3 := hpq.cell 3 _ rfl; have s3 := hqq.cell 3 _ rfl; have r4 := hpq.cell 4 _ rfl; have s4 := hqq.cell 4 _ rfl; have r5 := hpq.cell 5 _ rfl; have s5 := hqq.cell 5 _ rfl; clear hpq hqq; go_simp; try with_reducible rfl)
   try simp only [mz1, mz2, mz3, Act.put, mz4, mz5, mz6]
   refine wtkq 2 ?vt2_3 rfl (by kernel_rfl) (fun _ _ _ h => h) (by rfl) ?yt2_3 ⟨HSp0.out, HSq0.out⟩ ?zt2_3
   case yt2_3 => (intro wq hSw; obtain ⟨hpq, hqq⟩ := hSw; have r0 := hpq.cell 0 _ rfl; have s0 := hqq.cell 0 _ rfl; have r1 := hpq.cell 1 _ rfl; have s1 := hqq.cell 1 _ rfl; have r2 := hpq.cell 2 _ rfl; have s2 := hqq.cell 2 _ rfl; have r3 := hpq.cell 3 _ rfl; have s3 := hqq.cell 3 _ rfl; have r4 := hpq.cell 4 _ rfl; have s4 := hqq.cell 4 _ rfl; have r5 := hpq.cell 5 _ rfl; have s5 := hqq.cell 5 _ rfl; clear hpq hqq; go_simp; try with_reducible rfl)
   try simp only [mz1, mz2, mz3, Act.put, mz4, mz5, mz6]
   refine wtkq 3 ?vt3_4 rfl (by kernel_rfl) (fun _ _ _ h => h) (by rfl) ?yt3_4 ⟨HSp0.out, HSq0.out⟩ ?zt3_4
   case yt3_4 => (intro wq hSw; obtain ⟨hpq, hqq⟩ := hSw; have r0 := hpq.cell 0 _ rfl; have s0 := hqq.cell 0 _ rfl; have r1 := hpq.cell 1 _ rfl; have s1 := hqq.cell 1 _ rfl; have r2 := hpq.cell 2 _ rfl; have s2 := hqq.cell 2 _ rfl; have r3 := hpq.cell 3 _ rfl; have s3 := hqq.cell 3 _ rfl; have r4 := hpq.cell 4 _ rfl; have s4 := hqq.cell 4 _ rfl; have r5 := hpq.cell 5 _ rfl; have s5 := hqq.cell 5 _ rfl; clear hpq hqq; go_simp; try with_reducible rfl)
   try simp only [mz1, mz2, mz3, Act.put, mz4, mz5, mz6]
   refine wtkq 4 ?vt4_5 rfl (by kernel_rfl) (fun _ _ _ h => h) (by rfl) ?yt4_5 ⟨HSp0.out, HSq0.out⟩ ?zt4_5
   case yt4_5 => (intro wq hSw; obtain ⟨hpq, hqq⟩ := hSw; have r0 := hpq.cell 0 _ rfl; have s0 := hqq.cell 0 _ rfl; have r1 := hpq.cell 1 _ rfl; have s1 := hqq.cell 1 _ rfl; have r2 := hpq.cell 2 _ rfl; have s2 := hqq.cell 2 _ rfl; have r3 := hpq.cell 3 _ rfl; have s3 := hqq.cell 3 _ rfl; have r4 := hpq.cell 4 _ rfl; have s4 := hqq.cell 4 _ rfl; have r5 := hpq.cell 5 _ rfl; have s5 := hqq.cell 5 _ rfl; clear hpq hqq; go_simp; try with_reducible rfl)
   try simp only [mz1, mz2, mz3, Act.put, mz4, mz5, mz6]
   refine wtkq 5 ?vt5_6 rfl (by kernel_rfl) (fun _ _ _ h => h) (by rfl) ?yt5_6 ⟨HSp0.out, HSq0.out⟩ ?zt5_6
   case yt5_6 => (intro wq hSw; obtain ⟨hpq, hqq⟩ := hSw; have r0 := hpq.cell 0 _ rfl; have s0 := hqq.cell 0 _ rfl; have r1 := hpq.cell 1 _ rfl; have s1 := hqq.cell 1 _ rfl; have r2 := hpq.cell 2 _ rfl; have s2 := hqq.cell 2 _ rfl; have r3 := hpq.cell 3 _ rfl; have s3 := hqq.cell 3 _ rfl; have r4 := hpq.cell 4 _ rfl; have s4 := hqq.cell 4 _ rfl; have r5 := hpq.cell 5 _ rfl; have s5 := hqq.cell 5 _ rfl; clear hpq hqq; go_simp; try with_reducible rfl)
   try simp only [mz1, mz2, mz3, Act.put, mz4, mz5, mz6]
   refine wpAnyH_ready (rs := [6]) (by kernel_rfl) (by simp) ?_
   refine AllReadyH.cons rfl (fun KK hKK => ?_) AllReadyH.nil
   go_simp
   refine (HLk.out _ _ _ HXp0.out HXq0.out).mono ?_
   rintro e W7 ⟨rfl, bl7⟩
   have HB7 := qa0 (jtwo HB0.out bl7)
   have HSp7 := qa0 (HSp0.out.later bl7)
   have HSq7 := qa0 (HSq0.out.later bl7)
   have HXp7 := qa0 (HXp0.out.later bl7)
   have HXq7 := qa0 (HXq0.out.later bl7)
   clear bl7
   refine hKK.out _ _ ⟨HSp7.out, HSq7.out⟩ (fun _ => ?_)
   clear hKK KK
   try simp only [mz1, mz2, mz3, Act.put, mz4, mz5, mz6]
   refine wtkq 7 ?vt7_8 rfl (by kernel_rfl) (fun _ _ _ h => h) (by rfl) ?yt7_8 ⟨HSp7.out, HSq7.out⟩ ?zt7_8
   case yt7_8 => (intro wq hSw; obtain ⟨hpq, hqq⟩ := hSw; have r0 := hpq.cell 0 _ rfl; have s0 := hqq.cell 0 _ rfl; have r1 := hpq.cell 1 _ rfl; have s1 := hqq.cell 1 _ rfl; have r2 := hpq.cell 2 _ rfl; have s2 := hqq.cell 2 _ rfl; have r3 := hpq.cell 3 _ rfl; have s3 := hqq.cell 3 _ rfl; have r4 := hpq.cell 4 _ rfl; have s4 := hqq.cell 4 _ rfl; have r5 := hpq.cell 5 _ rfl; have s5 := hqq.cell 5 _ rfl; clear hpq hqq; go_simp; try with_reducible rfl)
   try simp only [mz1, mz2, mz3, Act.put, mz4, mz5, mz6]
   refine wtkq 8 ?vt8_9 rfl (by kernel_rfl) (fun _ _ _ h => h) (by rfl) ?yt8_9 ⟨HSp7.out, HSq7.out⟩ ?zt8_9
   case yt8_9 => (intro wq hSw; obtain ⟨hpq, hqq⟩ := hSw; have r0 := hpq.cell 0 _ rfl; have s0 := hqq.cell 0 _ rfl; have r1 := hpq.cell 1 _ rfl; have s1 := hqq.cell 1 _ rfl; have r2 := hpq.cell 2 _ rfl; have s2 := hqq.cell 2 _ rfl; have r3 := hpq.cell 3 _ rfl; have s3 := hqq.cell 3 _ rfl; have r4 := hpq.cell 4 _ rfl; have s4 := hqq.cell 4 _ rfl; have r5 := hpq.cell 5 _ rfl; have s5 := hqq.cell 5 _ rfl; clear hpq hqq; go_simp; try with_reducible rfl)
   try simp only [mz1, mz2, mz3, Act.put, mz4, mz5, mz6]
   refine wtkq 9 ?vt9_10 rfl (by kernel_rfl) (fun _ _ _ h => h) (by rfl) ?yt9_10 ⟨HSp7.out, HSq7.out⟩ ?zt9_10
   case yt9_10 => (intro wq hSw; obtain ⟨hpq, hqq⟩ := hSw; have r0 := hpq.cell 0 _ rfl; have s0 := hqq.cell 0 _ rfl; have r1 := hpq.cell 1 _ rfl; have s1 := hqq.cell 1 _ rfl; have r2 := hpq.cell 2 _ rfl; have s2 := hqq.cell 2 _ rfl; have r3 := hpq.cell 3 _ rfl; have s3 := hqq.cell 3 _ rfl; have r4 := hpq.cell 4 _ rfl; have s4 := hqq.cell 4 _ rfl; have r5 := hpq.cell 5 _ rfl; have s5 := hqq.cell 5 _ rfl; clear hpq hqq; go_simp; try with_reducible rfl)
   try simp only [mz1, mz2, mz3, Act.put, mz4, mz5, mz6]
   refine wtkq 12 ?vt12_11 rfl (by kernel_rfl) (fun _ _ _ h => h) (by rfl) ?yt12_11 ⟨HSp7.out, HSq7.out⟩ ?zt12_11
   case yt12_11 => (intro wq hSw; obtain ⟨hpq, hqq⟩ := hSw; have r0 := hpq.cell 0 _ rfl; have s0 := hqq.cell 0 _ rfl; have r1 := hpq.cell 1 _ rfl; have s1 := hqq.cell 1 _ rfl; have r2 := hpq.cell 2 _ rfl; have s2 := hqq.cell 2 _ rfl; have r3 := hpq.cell 3 _ rfl; have s3 := hqq.cell 3 _ rfl; have r4 := hpq.cell 4 _ rfl; have s4 := hqq.cell 4 _ rfl; have r5 := hpq.cell 5 _ rfl; have s5 := hqq.cell 5 _ rfl; clear hpq hqq; go_simp; try with_reducible rfl)
   try simp only [mz1, mz2, mz3, Act.put, mz4, mz5, mz6]
   refine wpAnyH_ready (rs := [10, 13]) (by kernel_rfl) (by simp) ?_
   refine AllReadyH.cons rfl (fun KK hKK => ?_) (AllReadyH.cons rfl (fun KK hKK => ?_) AllReadyH.nil)
   ·go_simp
    have hl12 := qcc (cs := [.int .u8 (zk : Int), .int .i64 zn, .string znm, .slice pa zlen pc, .int .i64 zln, .int .i64 zcl]) HXp7.out
    obtain ⟨W12, HW12⟩ : ∃ W, Hid (W7.alloc (.cells (List.toArray [.int .u8 (zk : Int), .int .i64 zn, .string znm, .slice pa zlen pc, .int .i64 zln, .int .i64 zcl]) 25) = W) := ⟨_, rfl⟩
    have bl12 : Below W7.heap.size W7 W12 := by rw [← HW12.out]; exact jlow _ _
    rw [HW12.out] at hl12
    rw [HW12.out]
    obtain ⟨g12, Hg12⟩ : ∃ g, Hid (W7.heap.size = g) := ⟨_, rfl⟩
    rw [Hg12.out] at hl12
    try rw [Hg12.out]
    have HB12 := qa0 (jtwo HB7.out bl12)
    have HSp12 := qa0 (HSp7.out.later bl12)
    have HSq12 := qa0 (HSq7.out.later bl12)
    have HXp12 := qa0 (HXp7.out.later bl12)
    have HXq12 := qa0 (HXq7.out.later bl12)
    have HLp12 := qa0 hl12
    clear bl12 hl12
    refine hKK.out _ _ ⟨HSp12.out, HSq12.out⟩ (fun _ => ?_)
    clear hKK KK
    try simp only [mz1, mz2, mz3, Act.put, mz4, mz5, mz6]
    refine wpAnyH_ready (rs := [11, 13]) (by kernel_rfl) (by simp) ?_
    refine AllReadyH.cons rfl (fun KK hKK => ?_) (AllReadyH.cons rfl (fun KK hKK => ?_) AllReadyH.nil)
    ·go_simp
     refine (HPl.out _ _ HLp12.out).mono ?_
     rintro e W13 ⟨⟨x13, c13, rfl, hi13⟩, bl13⟩
     have HB13 := qa0 (jtwo HB12.out bl13)
     have HSp13 := qa0 (HSp12.out.later bl13)
     have HSq13 := qa0 (HSq12.out.later bl13)
     have HXp13 := qa0 (HXp12.out.later bl13)
     have HXq13 := qa0 (HXq12.out.later bl13)
     have HIp13 := qa0 hi13
     clear bl13 hi13
     refine hKK.out _ _ ⟨HSp13.out, HSq13.out⟩ (fun _ => ?_)
     clear hKK KK
     try simp only [mz1, mz2, mz3, Act.put, mz4, mz5, mz6]
     refine wpAnyH_ready (rs := [13]) (by kernel_rfl) (by simp) ?_
     refine AllReadyH.cons rfl (fun KK hKK => ?_) AllReadyH.nil
     go_simp
     have hl14 := qcc (cs := [.int .u8 (zk : Int), .int .i64 zn, .string znm, .slice qa zlen qc, .int .i64 zln, .int .i64 zcl]) HXq13.out
     obtain ⟨W14, HW14⟩ : ∃ W, Hid (W13.alloc (.cells (List.toArray [.int .u8 (zk : Int), .int .i64 zn, .string znm, .slice qa zlen qc, .int .i64 zln, .int .i64 zcl]) 25) = W) := ⟨_, rfl⟩
     have bl14 : Below W13.heap.size W13 W14 := by rw [← HW14.out]; exact jlow _ _
     rw [HW14.out] at hl14
     rw [HW14.out]
     obtain ⟨g14, Hg14⟩ : ∃ g, Hid (W13.heap.size = g) := ⟨_, rfl⟩
     rw [Hg14.out] at hl14
     try rw [Hg14.out]
     have HB14 := qa0 (jtwo HB13.out bl14)
     have HSp14 := qa0 (HSp13.out.later bl14)
     have HSq14 := qa0 (HSq13.out.later bl14)
     have HXp14 := qa0 (HXp13.out.later bl14)
     have HXq14 := qa0 (HXq13.out.later bl14)
     have HIp14 := qa0 (HIp13.out.later bl14)
     have HLq14 := qa0 hl14
     clear bl14 hl14
     refine hKK.out _ _ ⟨HSp14.out, HSq14.out⟩ (fun _ => ?_)
     clear hKK KK
     try simp only [mz1, mz2, mz3, Act.put, mz4, mz5, mz6]
     refine wpAnyH_ready (rs := [14]) (by kernel_rfl) (by simp) ?_
     refine AllReadyH.cons rfl (fun KK hKK => ?_) AllReadyH.nil
     go_simp
     refine (HPl.out _ _ HLq14.out).mono ?_
     rintro e W15 ⟨⟨x15, c15, rfl, hi15⟩, bl15⟩
     have HB15 := qa0 (jtwo HB14.out bl15)
     have HSp15 := qa0 (HSp14.out.later bl15)
     have HSq15 := qa0 (HSq14.out.later bl15)
     have HXp15 := qa0 (HXp14.out.later bl15)
     have HXq15 := qa0 (HXq14.out.later bl15)
     have HIp15 := qa0 (HIp14.out.later bl15)
     have HIq15 := qa0 hi15
     clear bl15 hi15
     refine hKK.out _ _ ⟨HSp15.out, HSq15.out⟩ (fun _ => ?_)
     clear hKK KK
     try simp only [mz1, mz2, mz3, Act.put, mz4, mz5, mz6]
     refine wpAnyH_ready (rs := [15]) (by kernel_rfl) (by simp) ?_
     refine AllReadyH.cons rfl (fun KK hKK => ?_) AllReadyH.nil
     go_simp
     refine (HIn.out _ _ _ _ _ HIp15.out HIq15.out).mono ?_
     rintro e W16 ⟨rfl, bl16⟩
     have HB16 := qa0 (jtwo HB15.out bl16)
     have HSp16 := qa0 (HSp15.out.later bl16)
     have HSq16 := qa0 (HSq15.out.later bl16)
     have HXp16 := qa0 (HXp15.out.later bl16)
     have HXq16 := qa0 (HXq15.out.later bl16)
     clear bl16
     refine hKK.out _ _ ⟨HSp16.out, HSq16.out⟩ (fun _ => ?_)
     clear hKK KK
     try simp only [mz1, mz2, mz3, Act.put, mz4, mz5, mz6]
     refine wtkq 16 ?vt16_17 rfl (by kernel_rfl) (fun _ _ _ h => h) (by rfl) ?yt16_17 ⟨HSp16.out, HSq16.out⟩ ?zt16_17
     case yt16_17 => (intro wq hSw; obtain ⟨hpq, hqq⟩ := hSw; have r0 := hpq.cell 0 _ rfl; have s0 := hqq.cell 0 _ rfl; have r1 := hpq.cell 1 _ rfl; have s1 := hqq.cell 1 _ rfl; have r2 := hpq.cell 2 _ rfl; have s2 := hqq.cell 2 _ rfl; have r3 := hpq.cell 3 _ rfl; have s3 := hqq.cell 3 _ rfl; have r4 := hpq.cell 4 _ rfl; have s4 := hqq.cell 4 _ rfl; have r5 := hpq.cell 5 _ rfl; have s5 := hqq.cell 5 _ rfl; clear hpq hqq; go_simp; try with_reducible rfl)
     try simp only [mz1, mz2, mz3, Act.put, mz4, mz5, mz6]
     refine wtkq 17 ?vt17_18 rfl (by kernel_rfl) (fun _ _ _ h => h) (by rfl) ?yt17_18 ⟨HSp16.out, HSq16.out⟩ ?zt17_18
     case yt17_18 => (intro wq hSw; obtain ⟨hpq, hqq⟩ := hSw; have r0 := hpq.cell 0 _ rfl; have s0 := hqq.cell 0 _ rfl; have r1 := hpq.cell 1 _ rfl; have s1 := hqq.cell 1 _ rfl; have r2 := hpq.cell 2 _ rfl; have s2 := hqq.cell 2 _ rfl; have r3 := hpq.cell 3 _ rfl; have s3 := hqq.cell 3 _ rfl; have r4 := hpq.cell 4 _ rfl; have s4 := hqq.cell 4 _ rfl; have r5 := hpq.cell 5 _ rfl; have s5 := hqq.cell 5 _ rfl; clear hpq hqq; go_simp; try with_reducible rfl)
     try simp only [mz1, mz2, mz3, Act.put, mz4, mz5, mz6]
     refine wpAnyH_ready (rs := [18]) (by kernel_rfl) (by simp) ?_
     refine AllReadyH.cons rfl (fun KK hKK => ?_) AllReadyH.nil
     go_simp
     refine (HAn.out _ HB16.out).mono ?_
     rintro e W19 ⟨rfl, bl19⟩
     have HB19 := qa0 (jtwo HB16.out bl19)
     have HSp19 := qa0 (HSp16.out.later bl19)
     have HSq19 := qa0 (HSq16.out.later bl19)
     have HXp19 := qa0 (HXp16.out.later bl19)
     have HXq19 := qa0 (HXq16.out.later bl19)
     clear bl19
     refine hKK.out _ _ ⟨HSp19.out, HSq19.out⟩ (fun _ => ?_)
     clear hKK KK
     try simp only [mz1, mz2, mz3, Act.put, mz4, mz5, mz6]
     refine wtkq 19 ?vt19_20 rfl (by kernel_rfl) (fun _ _ _ h => h) (by rfl) ?yt19_20 ⟨HSp19.out, HSq19.out⟩ ?zt19_20
     case yt19_20 => (intro wq hSw; obtain ⟨hpq, hqq⟩ := hSw; have r0 := hpq.cell 0 _ rfl; have s0 := hqq.cell 0 _ rfl; have r1 := hpq.cell 1 _ rfl; have s1 := hqq.cell 1 _ rfl; have r2 := hpq.cell 2 _ rfl; have s2 := hqq.cell 2 _ rfl; have r3 := hpq.cell 3 _ rfl; have s3 := hqq.cell 3 _ rfl; have r4 := hpq.cell 4 _ rfl; have s4 := hqq.cell 4 _ rfl; have r5 := hpq.cell 5 _ rfl; have s5 := hqq.cell 5 _ rfl; clear hpq hqq; go_simp; try with_reducible rfl)
     try simp only [mz1, mz2, mz3, Act.put, mz4, mz5, mz6]
     refine wtkq 20 ?vt20_21 rfl (by kernel_rfl) (fun _ _ _ h => h) (by rfl) ?yt20_21 ⟨HSp19.out, HSq19.out⟩ ?zt20_21
     case yt20_21 => (intro wq hSw; obtain ⟨hpq, hqq⟩ := hSw; have r0 := hpq.cell 0 _ rfl; have s0 := hqq.cell 0 _ rfl; have r1 := hpq.cell 1 _ rfl; have s1 := hqq.cell 1 _ rfl; have r2 := hpq.cell 2 _ rfl; have s2 := hqq.cell 2 _ rfl; have r3 := hpq.cell 3 _ rfl; have s3 := hqq.cell 3 _ rfl; have r4 := hpq.cell 4 _ rfl; have s4 := hqq.cell 4 _ rfl; have r5 := hpq.cell 5 _ rfl; have s5 := hqq.cell 5 _ rfl; clear hpq hqq; go_simp; try with_reducible rfl)
     try simp only [mz1, mz2, mz3, Act.put, mz4, mz5, mz6]
     refine wpAnyH_done (by kernel_rfl) ?_ _
     try simp only [mz1, mz2, mz3, Act.put, mz4, mz5, mz6]
     go_wp2
     go_ret
     exact ⟨rfl, HB19.out⟩
    ·go_simp
     have hl22 := qcc (cs := [.int .u8 (zk : Int), .int .i64 zn, .string znm, .slice qa zlen qc, .int .i64 zln, .int .i64 zcl]) HXq12.out
     obtain ⟨W22, HW22⟩ : ∃ W, Hid (W12.alloc (.cells (List.toArray [.int .u8 (zk : Int), .int .i64 zn, .string znm, .slice qa zlen qc, .int .i64 zln, .int .i64 zcl]) 25) = W) := ⟨_, rfl⟩
     have bl22 : Below W12.heap.size W12 W22 := by rw [← HW22.out]; exact jlow _ _
     rw [HW22.out] at hl22
     rw [HW22.out]
     obtain ⟨g22, Hg22⟩ : ∃ g, Hid (W12.heap.size = g) := ⟨_, rfl⟩
     rw [Hg22.out] at hl22
     try rw [Hg22.out]
     have HB22 := qa0 (jtwo HB12.out bl22)
     have HSp22 := qa0 (HSp12.out.later bl22)
     have HSq22 := qa0 (HSq12.out.later bl22)
     have HXp22 := qa0 (HXp12.out.later bl22)
     have HXq22 := qa0 (HXq12.out.later bl22)
     have HLp22 := qa0 (fun d => (HLp12.out d).later bl22)
     have HLq22 := qa0 hl22
     clear bl22 hl22
     refine hKK.out _ _ ⟨HSp22.out, HSq22.out⟩ (fun _ => ?_)
     clear hKK KK
     try simp only [mz1, mz2, mz3, Act.put, mz4, mz5, mz6]
     refine wpAnyH_ready (rs := [11]) (by kernel_rfl) (by simp) ?_
     refine AllReadyH.cons rfl (fun KK hKK => ?_) AllReadyH.nil
     go_simp
     refine (HPl.out _ _ HLp22.out).mono ?_
     rintro e W23 ⟨⟨x23, c23, rfl, hi23⟩, bl23⟩
     have HB23 := qa0 (jtwo HB22.out bl23)
     have HSp23 := qa0 (HSp22.out.later bl23)
     have HSq23 := qa0 (HSq22.out.later bl23)
     have HXp23 := qa0 (HXp22.out.later bl23)
     have HXq23 := qa0 (HXq22.out.later bl23)
     have HLq23 := qa0 (fun d => (HLq22.out d).later bl23)
     have HIp23 := qa0 hi23
     clear bl23 hi23
     refine hKK.out _ _ ⟨HSp23.out, HSq23.out⟩ (fun _ => ?_)
     clear hKK KK
     try simp only [mz1, mz2, mz3, Act.put, mz4, mz5, mz6]
     refine wpAnyH_ready (rs := [14]) (by kernel_rfl) (by simp) ?_
     refine AllReadyH.cons rfl (fun KK hKK => ?_) AllReadyH.nil
     go_simp
     refine (HPl.out _ _ HLq23.out).mono ?_
     rintro e W24 ⟨⟨x24, c24, rfl, hi24⟩, bl24⟩
     have HB24 := qa0 (jtwo HB23.out bl24)
     have HSp24 := qa0 (HSp23.out.later bl24)
     have HSq24 := qa0 (HSq23.out.later bl24)
     have HXp24 := qa0 (HXp23.out.later bl24)
     have HXq24 := qa0 (HXq23.out.later bl24)
     have HIp24 := qa0 (HIp23.out.later bl24)
     have HIq24 := qa0 hi24
     clear bl24 hi24
     refine hKK.out _ _ ⟨HSp24.out, HSq24.out⟩ (fun _ => ?_)
     clear hKK KK
     try simp only [mz1, mz2, mz3, Act.put, mz4, mz5, mz6]
     refine wpAnyH_ready (rs := [15]) (by kernel_rfl) (by simp) ?_
     refine AllReadyH.cons rfl (fun KK hKK => ?_) AllReadyH.nil
     go_simp
     refine (HIn.out _ _ _ _ _ HIp24.out HIq24.out).mono ?_
     rintro e W25 ⟨rfl, bl25⟩
     have HB25 := qa0 (jtwo HB24.out bl25)
     have HSp25 := qa0 (HSp24.out.later bl25)
     have HSq25 := qa0 (HSq24.out.later bl25)
     have HXp25 := qa0 (HXp24.out.later bl25)
     have HXq25 := qa0 (HXq24.out.later bl25)
     clear bl25
     refine hKK.out _ _ ⟨HSp25.out, HSq25.out⟩ (fun _ => ?_)
     clear hKK KK
     try simp only [mz1, mz2, mz3, Act.put, mz4, mz5, mz6]
     refine wtkq 16 ?vt16_26 rfl (by kernel_rfl) (fun _ _ _ h => h) (by rfl) ?yt16_26 ⟨HSp25.out, HSq25.out⟩ ?zt16_26
     case yt16_26 => (intro wq hSw; obtain ⟨hpq, hqq⟩ := hSw; have r0 := hpq.cell 0 _ rfl; have s0 := hqq.cell 0 _ rfl; have r1 := hpq.cell 1 _ rfl; have s1 := hqq.cell 1 _ rfl; have r2 := hpq.cell 2 _ rfl; have s2 := hqq.cell 2 _ rfl; have r3 := hpq.cell 3 _ rfl; have s3 := hqq.cell 3 _ rfl; have r4 := hpq.cell 4 _ rfl; have s4 := hqq.cell 4 _ rfl; have r5 := hpq.cell 5 _ rfl; have s5 := hqq.cell 5 _ rfl; clear hpq hqq; go_simp; try with_reducible rfl)
     try simp only [mz1, mz2, mz3, Act.put, mz4, mz5, mz6]
     refine wtkq 17 ?vt17_27 rfl (by kernel_rfl) (fun _ _ _ h => h) (by rfl) ?yt17_27 ⟨HSp25.out, HSq25.out⟩ ?zt17_27
     case yt17_27 => (intro wq hSw; obtain ⟨hpq, hqq⟩ := hSw; have r0 := hpq.cell 0 _ rfl; have s0 := hqq.cell 0 _ rfl; have r1 := hpq.cell 1 _ rfl; have s1 := hqq.cell 1 _ rfl; have r2 := hpq.cell 2 _ rfl; have s2 := hqq.cell 2 _ rfl; have r3 := hpq.cell 3 _ rfl; have s3 := hqq.cell 3 _ rfl; have r4 := hpq.cell 4 _ rfl; have s4 := hqq.cell 4 _ rfl; have r5 := hpq.cell 5 _ rfl; have s5 := hqq.cell 5 _ rfl; clear hpq hqq; go_simp; try with_reducible rfl)
     try simp only [mz1, mz2, mz3, Act.put, mz4, mz5, mz6]
     refine wpAnyH_ready (rs := [18]) (by kernel_rfl) (by simp) ?_
     refine AllReadyH.cons rfl (fun KK hKK => ?_) AllReadyH.nil
     go_simp
     refine (HAn.out _ HB25.out).mono ?_
     rintro e W28 ⟨rfl, bl28⟩
     have HB28 := qa0 (jtwo HB25.out bl28)
     have HSp28 := qa0 (HSp25.out.later bl28)
     have HSq28 := qa0 (HSq25.out.later bl28)
     have HXp28 := qa0 (HXp25.out.later bl28)
     have HXq28 := qa0 (HXq25.out.later bl28)
     clear bl28
     refine hKK.out _ _ ⟨HSp28.out, HSq28.out⟩ (fun _ => ?_)
     clear hKK KK
     try simp only [mz1, mz2, mz3, Act.put, mz4, mz5, mz6]
     refine wtkq 19 ?vt19_29 rfl (by kernel_rfl) (fun _ _ _ h => h) (by rfl) ?yt19_29 ⟨HSp28.out, HSq28.out⟩ ?zt19_29
     case yt19_29 => (intro wq hSw; obtain ⟨hpq, hqq⟩ := hSw; have r0 := hpq.cell 0 _ rfl; have s0 := hqq.cell 0 _ rfl; have r1 := hpq.cell 1 _ rfl; have s1 := hqq.cell 1 _ rfl; have r2 := hpq.cell 2 _ rfl; have s2 := hqq.cell 2 _ rfl; have r3 := hpq.cell 3 _ rfl; have s3 := hqq.cell 3 _ rfl; have r4 := hpq.cell 4 _ rfl; have s4 := hqq.cell 4 _ rfl; have r5 := hpq.cell 5 _ rfl; have s5 := hqq.cell 5 _ rfl; clear hpq hqq; go_simp; try with_reducible rfl)
     try simp only [mz1, mz2, mz3, Act.put, mz4, mz5, mz6]
     refine wtkq 20 ?vt20_30 rfl (by kernel_rfl) (fun _ _ _ h => h) (by rfl) ?yt20_30 ⟨HSp28.out, HSq28.out⟩ ?zt20_30
     case yt20_30 => (intro wq hSw; obtain ⟨hpq, hqq⟩ := hSw; have r0 := hpq.cell 0 _ rfl; have s0 := hqq.cell 0 _ rfl; have r1 := hpq.cell 1 _ rfl; have s1 := hqq.cell 1 _ rfl; have r2 := hpq.cell 2 _ rfl; have s2 := hqq.cell 2 _ rfl; have r3 := hpq.cell 3 _ rfl; have s3 := hqq.cell 3 _ rfl; have r4 := hpq.cell 4 _ rfl; have s4 := hqq.cell 4 _ rfl; have r5 := hpq.cell 5 _ rfl; have s5 := hqq.cell 5 _ rfl; clear hpq hqq; go_simp; try with_reducible rfl)
     try simp only [mz1, mz2, mz3, Act.put, mz4, mz5, mz6]
     refine wpAnyH_done (by kernel_rfl) ?_ _
     try simp only [mz1, mz2, mz3, Act.put, mz4, mz5, mz6]
     go_wp2
     go_ret
     exact ⟨rfl, HB28.out⟩
   ·go_simp
    have hl31 := qcc (cs := [.int .u8 (zk : Int), .int .i64 zn, .string znm, .slice qa zlen qc, .int .i64 zln, .int .i64 zcl]) HXq7.out
    obtain ⟨W31, HW31⟩ : ∃ W, Hid (W7.alloc (.cells (List.toArray [.int .u8 (zk : Int), .int .i64 zn, .string znm, .slice qa zlen qc, .int .i64 zln, .int .i64 zcl]) 25) = W) := ⟨_, rfl⟩
    have bl31 : Below W7.heap.size W7 W31 := by rw [← HW31.out]; exact jlow _ _
    rw [HW31.out] at hl31
    rw [HW31.out]
    obtain ⟨g31, Hg31⟩ : ∃ g, Hid (W7.heap.size = g) := ⟨_, rfl⟩
    rw [Hg31.out] at hl31
    try rw [Hg31.out]
    have HB31 := qa0 (jtwo HB7.out bl31)
    have HSp31 := qa0 (HSp7.out.later bl31)
    have HSq31 := qa0 (HSq7.out.later bl31)
    have HXp31 := qa0 (HXp7.out.later bl31)
    have HXq31 := qa0 (HXq7.out.later bl31)
    have HLq31 := qa0 hl31
    clear bl31 hl31
    refine hKK.out _ _ ⟨HSp31.out, HSq31.out⟩ (fun _ => ?_)
    clear hKK KK
    try simp only [mz1, mz2, mz3, Act.put, mz4, mz5, mz6]
    refine wpAnyH_ready (rs := [10]) (by kernel_rfl) (by simp) ?_
    refine AllReadyH.cons rfl (fun KK hKK => ?_) AllReadyH.nil
    go_simp
    have hl32 := qcc (cs := [.int .u8 (zk : Int), .int .i64 zn, .string znm, .slice pa zlen pc, .int .i64 zln, .int .i64 zcl]) HXp31.out
    obtain ⟨W32, HW32⟩ : ∃ W, Hid (W31.alloc (.cells (List.toArray [.int .u8 (zk : Int), .int .i64 zn, .string znm, .slice pa zlen pc, .int .i64 zln, .int .i64 zcl]) 25) = W) := ⟨_, rfl⟩
    have bl32 : Below W31.heap.size W31 W32 := by rw [← HW32.out]; exact jlow _ _
    rw [HW32.out] at hl32
    rw [HW32.out]
    obtain ⟨g32, Hg32⟩ : ∃ g, Hid (W31.heap.size = g) := ⟨_, rfl⟩
    rw [Hg32.out] at hl32
    try rw [Hg32.out]
    have HB32 := qa0 (jtwo HB31.out bl32)
    have HSp32 := qa0 (HSp31.out.later bl32)
    have HSq32 := qa0 (HSq31.out.later bl32)
    have HXp32 := qa0 (HXp31.out.later bl32)
    have HXq32 := qa0 (HXq31.out.later bl32)
    have HLq32 := qa0 (fun d => (HLq31.out d).later bl32)
    have HLp32 := qa0 hl32
    clear bl32 hl32
    refine hKK.out _ _ ⟨HSp32.out, HSq32.out⟩ (fun _ => ?_)
    clear hKK KK
    try simp only [mz1, mz2, mz3, Act.put, mz4, mz5, mz6]
    refine wpAnyH_ready (rs := [11]) (by kernel_rfl) (by simp) ?_
    refine AllReadyH.cons rfl (fun KK hKK => ?_) AllReadyH.nil
    go_simp
    refine (HPl.out _ _ HLp32.out).mono ?_
    rintro e W33 ⟨⟨x33, c33, rfl, hi33⟩, bl33⟩
    have HB33 := qa0 (jtwo HB32.out bl33)
    have HSp33 := qa0 (HSp32.out.later bl33)
    have HSq33 := qa0 (HSq32.out.later bl33)
    have HXp33 := qa0 (HXp32.out.later bl33)
    have HXq33 := qa0 (HXq32.out.later bl33)
    have HLq33 := qa0 (fun d => (HLq32.out d).later bl33)
    have HIp33 := qa0 hi33
    clear bl33 hi33
    refine hKK.out _ _ ⟨HSp33.out, HSq33.out⟩ (fun _ => ?_)
    clear hKK KK
    try simp only [mz1, mz2, mz3, Act.put, mz4, mz5, mz6]
    refine wpAnyH_ready (rs := [14]) (by kernel_rfl) (by simp) ?_
    refine AllReadyH.cons rfl (fun KK hKK => ?_) AllReadyH.nil
    go_simp
    refine (HPl.out _ _ HLq33.out).mono ?_
    rintro e W34 ⟨⟨x34, c34, rfl, hi34⟩, bl34⟩
    have HB34 := qa0 (jtwo HB33.out bl34)
    have HSp34 := qa0 (HSp33.out.later bl34)
    have HSq34 := qa0 (HSq33.out.later bl34)
    have HXp34 := qa0 (HXp33.out.later bl34)
    have HXq34 := qa0 (HXq33.out.later bl34)
    have HIp34 := qa0 (HIp33.out.later bl34)
    have HIq34 := qa0 hi34
    clear bl34 hi34
    refine hKK.out _ _ ⟨HSp34.out, HSq34.out⟩ (fun _ => ?_)
    clear hKK KK
    try simp only [mz1, mz2, mz3, Act.put, mz4, mz5, mz6]
    refine wpAnyH_ready (rs := [15]) (by kernel_rfl) (by simp) ?_
    refine AllReadyH.cons rfl (fun KK hKK => ?_) AllReadyH.nil
    go_simp
    refine (HIn.out _ _ _ _ _ HIp34.out HIq34.out).mono ?_
    rintro e W35 ⟨rfl, bl35⟩
    have HB35 := qa0 (jtwo HB34.out bl35)
    have HSp35 := qa0 (HSp34.out.later bl35)
    have HSq35 := qa0 (HSq34.out.later bl35)
    have HXp35 := qa0 (HXp34.out.later bl35)
    have HXq35 := qa0 (HXq34.out.later bl35)
    clear bl35
    refine hKK.out _ _ ⟨HSp35.out, HSq35.out⟩ (fun _ => ?_)
    clear hKK KK
    try simp only [mz1, mz2, mz3, Act.put, mz4, mz5, mz6]
    refine wtkq 16 ?vt16_36 rfl (by kernel_rfl) (fun _ _ _ h => h) (by rfl) ?yt16_36 ⟨HSp35.out, HSq35.out⟩ ?zt16_36
    case yt16_36 => (intro wq hSw; obtain ⟨hpq, hqq⟩ := hSw; have r0 := hpq.cell 0 _ rfl; have s0 := hqq.cell 0 _ rfl; have r1 := hpq.cell 1 _ rfl; have s1 := hqq.cell 1 _ rfl; have r2 := hpq.cell 2 _ rfl; have s2 := hqq.cell 2 _ rfl; have r3 := hpq.cell 3 _ rfl; have s3 := hqq.cell 3 _ rfl; have r4 := hpq.cell 4 _ rfl; have s4 := hqq.cell 4 _ rfl; have r5 := hpq.cell 5 _ rfl; have s5 := hqq.cell 5 _ rfl; clear hpq hqq; go_simp; try with_reducible rfl)
    try simp only [mz1, mz2, mz3, Act.put, mz4, mz5, mz6]
    refine wtkq 17 ?vt17_37 rfl (by kernel_rfl) (fun _ _ _ h => h) (by rfl) ?yt17_37 ⟨HSp35.out, HSq35.out⟩ ?zt17_37
    case yt17_37 => (intro wq hSw; obtain ⟨hpq, hqq⟩ := hSw; have r0 := hpq.cell 0 _ rfl; have s0 := hqq.cell 0 _ rfl; have r1 := hpq.cell 1 _ rfl; have s1 := hqq.cell 1 _ rfl; have r2 := hpq.cell 2 _ rfl; have s2 := hqq.cell 2 _ rfl; have r3 := hpq.cell 3 _ rfl; have s3 := hqq.cell 3 _ rfl; have r4 := hpq.cell 4 _ rfl; have s4 := hqq.cell 4 _ rfl; have r5 := hpq.cell 5 _ rfl; have s5 := hqq.cell 5 _ rfl; clear hpq hqq; go_simp; try with_reducible rfl)
    try simp only [mz1, mz2, mz3, Act.put, mz4, mz5, mz6]
    refine wpAnyH_ready (rs := [18]) (by kernel_rfl) (by simp) ?_
    refine AllReadyH.cons rfl (fun KK hKK => ?_) AllReadyH.nil
    go_simp
    refine (HAn.out _ HB35.out).mono ?_
    rintro e W38 ⟨rfl, bl38⟩
    have HB38 := qa0 (jtwo HB35.out bl38)
    have HSp38 := qa0 (HSp35.out.later bl38)
    have HSq38 := qa0 (HSq35.out.later bl38)
    have HXp38 := qa0 (HXp35.out.later bl38)
    have HXq38 := qa0 (HXq35.out.later bl38)
    clear bl38
    refine hKK.out _ _ ⟨HSp38.out, HSq38.out⟩ (fun _ => ?_)
    clear hKK KK
    try simp only [mz1, mz2, mz3, Act.put, mz4, mz5, mz6]
    refine wtkq 19 ?vt19_39 rfl (by kernel_rfl) (fun _ _ _ h => h) (by rfl) ?yt19_39 ⟨HSp38.out, HSq38.out⟩ ?zt19_39
    case yt19_39 => (intro wq hSw; obtain ⟨hpq, hqq⟩ := hSw; have r0 := hpq.cell 0 _ rfl; have s0 := hqq.cell 0 _ rfl; have r1 := hpq.cell 1 _ rfl; have s1 := hqq.cell 1 _ rfl; have r2 := hpq.cell 2 _ rfl; have s2 := hqq.cell 2 _ rfl; have r3 := hpq.cell 3 _ rfl; have s3 := hqq.cell 3 _ rfl; have r4 := hpq.cell 4 _ rfl; have s4 := hqq.cell 4 _ rfl; have r5 := hpq.cell 5 _ rfl; have s5 := hqq.cell 5 _ rfl; clear hpq hqq; go_simp; try with_reducible rfl)
    try simp only [mz1, mz2, mz3, Act.put, mz4, mz5, mz6]
    refine wtkq 20 ?vt20_40 rfl (by kernel_rfl) (fun _ _ _ h => h) (by rfl) ?yt20_40 ⟨HSp38.out, HSq38.out⟩ ?zt20_40
    case yt20_40 => (intro wq hSw; obtain ⟨hpq, hqq⟩ := hSw; have r0 := hpq.cell 0 _ rfl; have s0 := hqq.cell 0 _ rfl; have r1 := hpq.cell 1 _ rfl; have s1 := hqq.cell 1 _ rfl; have r2 := hpq.cell 2 _ rfl; have s2 := hqq.cell 2 _ rfl; have r3 := hpq.cell 3 _ rfl; have s3 := hqq.cell 3 _ rfl; have r4 := hpq.cell 4 _ rfl; have s4 := hqq.cell 4 _ rfl; have r5 := hpq.cell 5 _ rfl; have s5 := hqq.cell 5 _ rfl; clear hpq hqq; go_simp; try with_reducible rfl)
    try simp only [mz1, mz2, mz3, Act.put, mz4, mz5, mz6]
    refine wpAnyH_done (by kernel_rfl) ?_ _
    try simp only [mz1, mz2, mz3, Act.put, mz4, mz5, mz6]
    go_wp2
    go_ret
    exact ⟨rfl, HB38.out⟩
theorem lifted (os : Os) (started : os.Started) (H : Type) (enc : TypeId × Value → H) :
  ReturnsInHanded {} Tryd.checked os 4 .any (fun w args => (Rows.numberNamesSpec.pre enc Tryd.prog Tryd.f4 [] false w args ∧ laidMetH Tryd.prog laidL w) ∧ sizedMet enc Tryd.prog Tryd.f4 (OpenSpec.ofChange Rows.numberNamesSpec) false w args)
   (Rows.numberNamesSpec.post enc Tryd.prog Tryd.f4 false true false false) := by
 refine returnsInHanded_of_change_and (C := Tryd.checked) (X := fun w _ => laidMetH Tryd.prog laidL w) (fun _ _ _ hh h => h.of_heap hh) own started (by kernel_rfl) Tryd.func4
  (ChangeSpec.witness_shaped (enc := enc) (C := Tryd.checked) (os := os) (X := fun w _ => laidMetH Tryd.prog laidL w) false (World.doorLaid Tryd.prog 4000 os) #[.agg #[.int .u8 0, .int .i64 0, .string ⟨#[]⟩, .slice none 0 0, .int .i64 0, .int .i64 0], .agg #[.int .u8 0, .int .i64 0, .string ⟨#[]⟩, .slice none 0 0, .int .i64 0, .int .i64 0], .string ⟨#[]⟩] 8 rfl (World.shaped_of_RefB (by kernel_rfl) (by kernel_rfl)) (by kernel_rfl) (by kernel_rfl) (by kernel_rfl) (door_met os _)) ?_
 intro W base args ds gs before hval0 hW hcnd hsz0 hL _
 have hsz : (DataW.weightsEach Tryd.prog (Tryd.f4.params.toList ++ Rows.numberNamesSpec.plain.varTypes Tryd.prog) (ds ++ gs)).all (· ≤ reachBytes) = true := hsz0
 clear hsz0
 have hval : ∀ (j : Nat) t v, Tryd.f4.params[j]? = some t → args[j]? = some v → Value.okWide Tryd.prog W .any base t v := hval0
 have hW' := hW
 obtain ⟨p, q, hA0, hV, rfl, hfz, hnd⟩ := hW
 have hA : DataW.TrodAll enc Tryd.prog W 0 (fun _ => true) true Tryd.f4.params.toList args.toList ds p := hA0
 rw [Tryd.params4] at hA hval hsz
 obtain ⟨va0, vs0, d0, ds0, p0, q0, hargs0, rfl, rfl, h0, tr0⟩ := trodAll_cons hA
 obtain ⟨va1, vs1, d1, ds1, p1, q1, hargs1, rfl, rfl, h1, tr1⟩ := trodAll_cons tr0
 obtain ⟨va2, vs2, d2, ds2, p2, q2, hargs2, rfl, rfl, h2, tr2⟩ := trodAll_cons tr1
 obtain ⟨rfl, rfl, rfl⟩ := trodAll_nil tr2
 obtain rfl : args = #[va0, va1, va2] := by cases args; simp_all
 obtain ⟨rfl, rfl⟩ := trodVars_none hV
 have k0 := h0
 have lt0 : ∀ x ∈ p0, x.block < W.heap.size := by obtain ⟨m, hm⟩ := k0; exact DataW.trod_lt m _ _ _ hm
 have k1 := h1
 have lt1 : ∀ x ∈ p1, x.block < W.heap.size := by obtain ⟨m, hm⟩ := k1; exact DataW.trod_lt m _ _ _ hm
 have k2 := h2
 have lt2 : ∀ x ∈ p2, x.block < W.heap.size := by obtain ⟨m, hm⟩ := k2; exact DataW.trod_lt m _ _ _ hm
 have hL0 := hL
 rw [MakeChecks.laidMetH_plain _ _ _ (by kernel_rfl)] at hL0
 obtain ⟨T0, w0⟩ : ∃ T : Xt, XV W va0 T := by
  obtain ⟨fuel, hf⟩ := h0
  obtain ⟨cs, rfl, _⟩ := okWide_struct Tryd.underlying25 (hval 0 25 va0 rfl rfl)
  obtain ⟨T, hT⟩ := x_in fuel cs.toList _ (by simpa [Value.cells] using hf) (List.all_eq_true.2 fun n hn => List.all_eq_true.1 hsz n (DataW.weights_mem_each (j := 0) rfl rfl n hn))
  exact ⟨T, by simpa using hT.value⟩
 obtain ⟨T1, w1⟩ : ∃ T : Xt, XV W va1 T := by
  obtain ⟨fuel, hf⟩ := h1
  obtain ⟨cs, rfl, _⟩ := okWide_struct Tryd.underlying25 (hval 1 25 va1 rfl rfl)
  obtain ⟨T, hT⟩ := x_in fuel cs.toList _ (by simpa [Value.cells] using hf) (List.all_eq_true.2 fun n hn => List.all_eq_true.1 hsz n (DataW.weights_mem_each (j := 1) rfl rfl n hn))
  exact ⟨T, by simpa using hT.value⟩
 obtain ⟨s2, rfl, w2⟩ : ∃ s : ByteArray, va2 = .string s ∧ s.size ≤ 140737488351232 := by
  obtain ⟨s, rfl, hd, _, _⟩ := Go.ChangeMaps.open_string Tryd.underlying9 (hval 2 9 va2 rfl rfl) h2
  refine ⟨s, rfl, ?_⟩
  have hs := sized_string hsz (j := 2) (t := 9) rfl (congrArg some hd)
  simp only [Array.length_toList, reachBytes] at hs
  have : s.size = s.data.size := rfl
  omega
 clear hA0 hval0
 refine (walk va0 T0 va1 T1 s2 W w0 w1 w2 (of_words hL0)).mono fun e W' ⟨he, bel⟩ => ?_
 subst he
 exact ⟨_, rfl, _, _, _, [], _, [], hW', trodAll_mk1 (shut_bool Tryd.underlying4 _), (trodAll_cons_mk (Below.trod laidOut (by kernel_rfl) (of_decide_eq_true (by kernel_rfl)) k0 bel lt0) (trodAll_cons_mk (Below.trod laidOut (by kernel_rfl) (of_decide_eq_true (by kernel_rfl)) k1 bel lt1) (trodAll_cons_mk (Below.trod laidOut (by kernel_rfl) (of_decide_eq_true (by kernel_rfl)) k2 bel lt2) trodAll_mk0))), rfl, bel.frame _, fun h => by cases h⟩
theorem over : Rows.NumberNamesSaid :=
 OpenClaim.holds_of_wide 4 Tryd.f4 rfl rfl rfl rfl rfl rfl rfl ⟨rfl, rfl, rfl, rfl, rfl⟩ rfl rfl rfl rfl rfl (by kernel_rfl) Tryd.func4 (by kernel_rfl)
  (of_decide_eq_true (by kernel_rfl)) (by unfold Func.isWrapper; first | (rw [if_pos (by decide +kernel)]; kernel_rfl) | (rw [if_neg (by decide +kernel)]; exact ⟨rfl, rfl⟩))
  (fun os started H enc _ => lifted os started H enc)
theorem proved : Rows.NumberNamesCardSaid :=
 Claim7.holds_tied_plain_at .later [] [.data] true (true, "1329221dac406c43c15575f849f7c51730e5667f4e56abb764632b948d968ae6") false
  over (fun _ h => by cases h) (by kernel_rfl) (fun _ h => by cases h) numberNames_row_tie rfl ⟨rfl, rfl⟩ (by kernel_rfl) rfl
  (fun f fn hf hfn => by
   obtain rfl : f = 4 := Option.some.inj ((show Tryd.prog.funcNamed "recoup/recouplaw12.NumberNames" = some 4 by kernel_rfl).symm.trans hf) |>.symm
   obtain rfl : fn = Tryd.f4 := (Option.some.inj (Tryd.func4.symm.trans hfn)).symm
   exact ⟨by kernel_rfl, fun j t ht => by
    rw [Tryd.params4] at ht
    have hm : t ∈ [25, 25, 9] := by simpa using Array.mem_of_getElem? ht
    have hall : ([25, 25, 9].all fun u => !Tryd.prog.wantsStandIn u) = true := by kernel_rfl
    exact (show Tryd.prog.wantsStandIn t = false by simpa using List.all_eq_true.1 hall t hm)⟩)
  (by kernel_rfl)
#print axioms proved
end Go.Proofs.YtgmndjbicandfaaDoor.numberNames
