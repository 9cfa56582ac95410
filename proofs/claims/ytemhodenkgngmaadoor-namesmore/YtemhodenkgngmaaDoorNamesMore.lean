/-
  Proved: for every list of items whose table is not empty: a further item that uses the last name leaves the table, or is told to be of the wrong kind, and the last name made again is told (P13.4); no condition.
-/
import Derived.Test.YtemhodenkgngmaaDoorQmmre00
import Derived.Test.YtemhodenkgngmaaDoorQmmre40
import Derived.Test.YtemhodenkgngmaaDoorTie
import Derived.Test.YtemhodenkgngmaaDoorCards
import Derived.Test.YtemhodenkgngmaaDoorQmmre50
import Derived.WalkKit
import Derived.SizedLaws
import Derived.ProofKit
import Derived.LaidMore
import Derived.OpenShut
import Derived.ShutString
import Derived.ChangeOld
import Derived.Below
import Derived.Stop.Joined
import Derived.SevenTiedAt
import Derived.Lib.SmallJoins
import Derived.Lib.LaidTab
import Derived.MakeChecks
import Derived.Handed
import Derived.Stop.LaidErr
set_option maxRecDepth 100000
set_option maxHeartbeats 16000000
namespace Go.Proofs.YtemhodenkgngmaaDoor.namesMore
open Go.ChangeShapes Go.WideShapes Go.ChangeAt Go.RowKit Go.Joins
set_option linter.unusedVariables false
theorem own : ownKnob Tryd.prog.godebug = none := by kernel_rfl
theorem laidOut : laidOutB Tryd.prog = true := by kernel_rfl
/-- What the listed variables hold. -/
def laidL : List (String × DataW Unit) := [("recoup/token.words", Rows.laid_recoup_token_words)]
theorem door_met (os : Os) (args : Array Value) : laidMetH Tryd.prog laidL ((World.doorLaid Tryd.prog 4000 os).forCall (fun _ _ => 0) ⟨#[], args, []⟩).memory :=
 laidMetH_of_parts3 (fuel := 8) (laidMet_of_run' 8 (by kernel_rfl) (by kernel_rfl)) (by kernel_rfl) (by kernel_rfl)
theorem gWds : Tryd.prog.globalNamed "recoup/token.words" = some 0 := by kernel_rfl
theorem tWds : (Tryd.prog.globals[0]?).map (·.type) = some 165 := by kernel_rfl
theorem dWds : (Rows.laid_recoup_token_words : DataW Unit) = .agg ((wds.map fun x => x.data.toList).map fun z => .lit (.string z)) := by kernel_rfl
theorem of_words {W : World} (h : laidMet Tryd.prog laidL W) : Wt9 W := by
 have hk := h
 obtain ⟨ps, ⟨g0, t0, cs0, f0, p0, q0, hg0, ht0, hv0, hd0, _, _⟩, _, _⟩ := hk
 obtain rfl := Option.some.inj (gWds.symm.trans hg0)
 obtain rfl := Option.some.inj (tWds.symm.trans ht0)
 rw [dWds] at hd0
 have hc := qcb Tryd.underlying165 Tryd.underlying9 (by kernel_rfl) (by kernel_rfl) hd0
 unfold Wt9
 rw [hv0]
 obtain ⟨l⟩ := cs0
 have hl : l = wds.map Value.string := hc.trans (by kernel_rfl)
 rw [hl]
theorem tbd_code {F : Nat → It} {n : Nat} {c l1 l2 : Int} (h : tbD F n = .error (c, l1, l2)) : c ≠ 0 := by
 unfold tbD at h
 split at h
 ·exact tbl_code h
 ·cases h; decide

theorem walk (a0 : Option Addr) (len0 cap0 : Nat) (F0 : Nat → It) (w : World) (w0 : Its w a0 len0 F0) (l0 : len0 ≤ 549755813888) (c0 : len0 ≤ cap0) (t1 : Wt9 w) :
  Calls Tryd.prog 8 #[.slice a0 len0 cap0] w fun e w' => e = .returned (.bool true) ∧ Below w.heap.size w w' := by
 have HI := qa0 w0
 have HW := qa0 t1
 have HAn : Hid (∀ w' : World, Below w.heap.size w w' → Calls Tryd.prog 12 #[] w' fun e w'' => e = .returned (.bool true) ∧ Below w'.heap.size w' w'') := fun w' hb => qei w' (HW.out.later hb)
 have HTn : Hid (∀ w' : World, Below w.heap.size w w' → Calls Tryd.prog 9 #[.slice a0 len0 cap0] w' fun e w'' => TbA w'' w'.heap.size e (tbD F0 len0) ∧ Below w'.heap.size w' w'') := fun w' hb => ptable w' a0 len0 cap0 F0 (HI.out.later hb) l0 (HW.out.later hb)
 have hef := qde
 have hnf := qax
 clear w0 t1
 cases hx : tbD F0 len0 with
 | error qq =>
  obtain ⟨c, l1, l2⟩ := qq
  have hc := tbd_code hx
  rw [hx] at HTn
  clear hx
  have q0 : (c != 0) = true := by simpa using hc
  go_enter Tryd.func8, Tryd.ntmps8
  go_wp2_with (first
   | (go_at_call 9; go_loud (refine (HTn.out _ (Below.refl _ _)).mono ?_; rintro e w1 ⟨rfl, hb1⟩; have HBa := qa0 (jtwo hb1 (jlow w1 (.cells #[.int .i64 c, .int .i64 l1, .int .i64 l2] 26))); clear hb1))
   | (go_at_call 12; go_loud (refine (HAn.out _ HBa.out).mono ?_; rintro e w2 ⟨rfl, hb2⟩; have HBb := qa0 (jtwo HBa.out hb2); clear hb2)))
  go_ret
  exact ⟨rfl, HBb.out⟩
 | ok T =>
  rw [hx] at HTn
  have hm : mayD F0 len0 = true := by
   cases hm : mayD F0 len0 with
   | true => rfl
   | false =>
    have e1 : tbD F0 len0 = .error (2, 0, 0) := by show (if _ then _ else _) = _; rw [if_neg (by rw [hm]; decide)]
    rw [e1] at hx; cases hx
  have hx2 : tbl F0 len0 = .ok T := by rw [← hx]; show _ = (if _ then _ else _); rw [if_pos hm]
  have hTl := tbl_len hx2
  have hMi := qfh hm
  clear hx hm
  by_cases h62 : 62 < len0
  ·have p1 : (62 : Int) < (len0 : Int) := by omega
   clear hx2
   go_enter Tryd.func8, Tryd.ntmps8
   go_wp2_with (first
    | (go_at_call 9; go_loud (refine (HTn.out _ (Below.refl _ _)).mono ?_; rintro e w1 ⟨⟨v, rfl, _⟩, hb1⟩; have HBa := qa0 (jtwo hb1 (jlow w1 (.cells #[.int .i64 0, .int .i64 0, .int .i64 0] 26))); clear hb1))
    | (go_at_call 12; go_loud (refine (HAn.out _ HBa.out).mono ?_; rintro e w2 ⟨rfl, hb2⟩; have HBb := qa0 (jtwo HBa.out hb2); clear hb2)))
   go_ret
   exact ⟨rfl, HBb.out⟩
  ·have p1 : ¬ (62 : Int) < (len0 : Int) := by omega
   rcases qb8 T with rfl | ⟨V, y, rfl⟩
   ·clear hx2
    go_enter Tryd.func8, Tryd.ntmps8
    go_wp2_with (first
     | (go_at_call 9; go_loud (refine (HTn.out _ (Below.refl _ _)).mono ?_; rintro e w1 ⟨⟨v, rfl, hs1, _⟩, hb1⟩; obtain ⟨x3, d3, rfl, _⟩ := hs1.form; clear hs1; have HBa := qa0 (jtwo hb1 (jlow w1 (.cells #[.int .i64 0, .int .i64 0, .int .i64 0] 26))); clear hb1))
     | (go_at_call 12; go_loud (refine (HAn.out _ HBa.out).mono ?_; rintro e w2 ⟨rfl, hb2⟩; have HBb := qa0 (jtwo HBa.out hb2); clear hb2)))
    go_ret
    exact ⟨rfl, HBb.out⟩
   ·have hlen : (V ++ [y]).length = V.length + 1 := by rw [List.length_append]; rfl
    have HAg := qa0 (qfo hMi.2 hx2)
    have HUs := qa0 (tbl_use hMi.2 hx2)
    clear hx2
    have hpos : 0 < len0 := by omega
    have hTm : V.length + 1 ≤ len0 := by rw [hlen] at hTl; exact hTl
    clear hTl
    obtain ⟨ad, rfl⟩ : ∃ ad, a0 = some ad := by
     obtain ⟨b, o, e, _⟩ := HI.out 0 hpos
     exact ⟨_, e⟩
    obtain ⟨C, hC1, hC2⟩ := qfm HI.out
    have HCq : Hid (∀ w' : World, Below w.heap.size w w' → ∀ i, i < len0 → IQ w' (C i) (F0 i)) := fun w' hb i hi => (hC1 i hi).later hb
    have HCl : Hid ((irow C len0).length = len0 * 19) := qbn (fun i hi => (hC1 i hi).len)
    have HCo : Hid (∀ u ∈ irow C len0, u.oneCell' = true) := fun u hu => by
     obtain ⟨i, hi, h⟩ := irow_mem hu
     exact (hC1 i hi).one u h
    have HCc : Hid (∀ w' : World, Below w.heap.size w w' → ∀ j u, (irow C len0)[j]? = some u → w'.cell? (ad.add j) = some u) := fun w' hb j u hu => cell_kept (hC2 ad rfl j u hu) hb
    clear hC1 hC2
    obtain ⟨T, HT⟩ : ∃ T, Hid (V ++ [y] = T) := ⟨_, rfl⟩
    obtain ⟨m, Hm⟩ : ∃ m, Hid (V.length = m) := ⟨_, rfl⟩
    rw [HT.out, Hm.out] at hlen
    rw [Hm.out] at hTm
    rw [HT.out] at HTn HUs
    have hy : T.getD m sy0 = y := by rw [← HT.out, ← Hm.out]; exact qc9 V y sy0
    clear HT Hm
    obtain ⟨nm, yk, yi, yv⟩ := y
    dsimp only at HAg HUs
    obtain ⟨Fa, HFa⟩ : ∃ Fa, Hid (snocI F0 len0 (ia13 nm) = Fa) := ⟨_, rfl⟩
    obtain ⟨Fb, HFb⟩ : ∃ Fb, Hid (snocI F0 len0 (ib13 nm) = Fb) := ⟨_, rfl⟩
    rw [HFa.out] at HAg
    rw [HFb.out] at HUs
    have HTa : Hid (∀ (w' : World) (x : Addr) (c : Nat), Below w.heap.size w w' → Its w' (some x) (len0 + 1) Fa → Calls Tryd.prog 9 #[.slice (some x) (len0 + 1) c] w' fun e w'' => TbA w'' w'.heap.size e (tbD Fa (len0 + 1)) ∧ Below w'.heap.size w' w'') := fun w' x c hb h => ptable w' _ _ c Fa h (by omega) (HW.out.later hb)
    have HTb : Hid (∀ (w' : World) (x : Addr) (c : Nat), Below w.heap.size w w' → Its w' (some x) (len0 + 1) Fb → Calls Tryd.prog 9 #[.slice (some x) (len0 + 1) c] w' fun e w'' => TbA w'' w'.heap.size e (tbD Fb (len0 + 1)) ∧ Below w'.heap.size w' w'') := fun w' x c hb h => ptable w' _ _ c Fb h (by omega) (HW.out.later hb)
    have HMa : Hid (∀ (w' : World) (x : Addr) (c : Nat), Its w' (some x) (len0 + 1) Fa → Calls Tryd.prog 19 #[.slice (some x) (len0 + 1) c] w' fun e w'' => e = .returned (.bool (mayD Fa (len0 + 1))) ∧ Below w'.heap.size w' w'') := fun w' x c h => rmay10 w' _ _ c Fa h (by omega)
    have HMb : Hid (∀ (w' : World) (x : Addr) (c : Nat), Its w' (some x) (len0 + 1) Fb → Calls Tryd.prog 19 #[.slice (some x) (len0 + 1) c] w' fun e w'' => e = .returned (.bool (mayD Fb (len0 + 1))) ∧ Below w'.heap.size w' w'') := fun w' x c h => rmay10 w' _ _ c Fb h (by omega)
    have HO := fun w' : World => qa0 (pone13 w')
    have hsub : ((m : Int) + 1 - 1) = (m : Int) := by omega
    have hm0 : ((m : Int) + 1 == 0) = false := by simp; omega
    have hpm : (0 : Int) ≤ (m : Int) := by omega
    have hpm2 : (m : Int) < (m : Int) + 1 := by omega
    have hm47 : m ≤ 62 := by omega
    clear HI HW
    go_enter Tryd.func8, Tryd.ntmps8
    have M1 : True := trivial
    go_wp2_with (first
     | (clear M1; go_at_call 9; go_loud (refine (HTn.out _ (Below.refl _ _)).mono ?_; rintro e w1 ⟨⟨v, rfl, hs1, hok1⟩, hb1⟩; obtain ⟨x3, d3, rfl, _⟩ := hs1.form; have HX1 := qa0 (hs1.el hok1).2; rw [hlen] at HX1 ⊢; clear hs1 hok1; have HB1 := qa0 hb1; clear hb1))
     | (refine qa1 rfl 26 _ _ rfl w1.heap.size _ #[.int .i64 0, .int .i64 0, .int .i64 0] rfl rfl (Vn.new w1 _ _) sizeFau rfl (all3 rfl rfl rfl) ?_; go_loud (intro w2 HV2 hg; have hb : Below w1.heap.size w1 w2 := (jlow _ _).trans (jbelow hg.out (jlow _ _).size (fun g e => by cases e; exact Nat.le_refl _)); clear hg; have HB2 := qa0 (jtwo HB1.out hb); have HX2 := qa0 (HX1.out.later hb); have m0 := HV2.out.cell 0 _ rfl; obtain ⟨hok, b, o, rfl, z0, z1, z2, z3⟩ := HX2.out m (by omega); dsimp only at z0 z1 z2 z3 hok; rw [hy] at z0 z1 z2 z3 hok; dsimp only at z0 z1 z2 z3; have hnm := hok.nm47; dsimp only at hnm; clear hok; clear hb))
     | (refine qa1 rfl 35 _ _ rfl w2.heap.size _ #[.string nm, .int .u8 (yk : Int), .int .i64 yi, .int .i64 yv] rfl rfl (Vn.new w2 _ _) sizeSy13 rfl (all4 rfl rfl rfl rfl) ?_; go_loud (intro w3 HV3 hg; have hb : Below w2.heap.size w2 w3 := (jlow _ _).trans (jbelow hg.out (jlow _ _).size (fun g e => by cases e; exact Nat.le_refl _)); clear hg; have HB3 := qa0 (jtwo HB2.out hb); have HX3 := qa0 (HX2.out.later hb); have HVf3 := qa0 (HV2.out.later hb); clear z0 z1 z2 z3 m0; clear hb))
     | (go_at_call 20; go_loud (refine ((HO _).out).mono ?_; rintro e w4 ⟨rfl, hb⟩; have HB4 := qa0 (jtwo HB3.out hb); have HX4 := qa0 (HX3.out.later hb); have HVl4 := qa0 (HV3.out.later hb); have HVf4 := qa0 (HVf3.out.later hb); clear hb))
     | (refine qa1 rfl 61 _ _ rfl w4.heap.size _ #[.int .u8 1, .string ⟨#[97]⟩, .int .u8 1, .int .i64 2, .string ⟨#[]⟩, .slice none 0 0, .int .i64 0, .int .i64 0, .int .u8 0, .string ⟨#[]⟩, .slice none 0 0, .slice none 0 0, .slice none 0 0, .int .i64 0, .int .i64 0, .int .u8 0, .slice none 0 0, .int .i64 0, .int .i64 0] rfl rfl (Vn.new w4 _ _) qa3 rfl (qbi rfl rfl rfl rfl rfl rfl rfl rfl rfl rfl rfl rfl rfl rfl rfl rfl rfl rfl rfl) ?_; go_loud (intro w5 HV5 hg; have hb : Below w4.heap.size w4 w5 := (jlow _ _).trans (jbelow hg.out (jlow _ _).size (fun g e => by cases e; exact Nat.le_refl _)); clear hg; have HB5 := qa0 (jtwo HB4.out hb); have HX5 := qa0 (HX4.out.later hb); have HVl5 := qa0 (HVl4.out.later hb); have HVf5 := qa0 (HVf4.out.later hb); have HB45 := qa0 hb; have c5 := HVl5.out.cell 0 _ rfl; clear hb))
     | (refine wpList_store_one rfl 9 _ _ rfl w4.heap.size 1 61 #[.int .u8 1, .string ⟨#[97]⟩, .int .u8 1, .int .i64 2, .string ⟨#[]⟩, .slice none 0 0, .int .i64 0, .int .i64 0, .int .u8 0, .string ⟨#[]⟩, .slice none 0 0, .slice none 0 0, .slice none 0 0, .int .i64 0, .int .i64 0, .int .u8 0, .slice none 0 0, .int .i64 0, .int .i64 0] (.string nm) rfl rfl qfp rfl rfl HV5.out (by show 1 < 19; omega) ?_; go_loud (intro w6 HV6 hg; replace HV6 : Hid (Vn w6 w4.heap.size 61 #[.int .u8 1, .string nm, .int .u8 1, .int .i64 2, .string ⟨#[]⟩, .slice none 0 0, .int .i64 0, .int .i64 0, .int .u8 0, .string ⟨#[]⟩, .slice none 0 0, .slice none 0 0, .slice none 0 0, .int .i64 0, .int .i64 0, .int .u8 0, .slice none 0 0, .int .i64 0, .int .i64 0]) := HV6.out; have hb : Below w4.heap.size w5 w6 := jbelow hg.out (by have := HV5.out.lt; omega) (fun g e => by cases e; exact Nat.le_refl _); have HB46 := qa0 (HB45.out.trans hb); clear hg; clear c5; clear hb))
     | (refine wpList_store_one rfl 3 _ _ rfl w4.heap.size 17 61 #[.int .u8 1, .string nm, .int .u8 1, .int .i64 2, .string ⟨#[]⟩, .slice none 0 0, .int .i64 0, .int .i64 0, .int .u8 0, .string ⟨#[]⟩, .slice none 0 0, .slice none 0 0, .slice none 0 0, .int .i64 0, .int .i64 0, .int .u8 0, .slice none 0 0, .int .i64 0, .int .i64 0] (.int .i64 9) rfl rfl qd5 rfl rfl HV6.out (by show 17 < 19; omega) ?_; go_loud (intro w7 HV7 hg; replace HV7 : Hid (Vn w7 w4.heap.size 61 #[.int .u8 1, .string nm, .int .u8 1, .int .i64 2, .string ⟨#[]⟩, .slice none 0 0, .int .i64 0, .int .i64 0, .int .u8 0, .string ⟨#[]⟩, .slice none 0 0, .slice none 0 0, .slice none 0 0, .int .i64 0, .int .i64 0, .int .u8 0, .slice none 0 0, .int .i64 9, .int .i64 0]) := HV7.out; have hb : Below w4.heap.size w6 w7 := jbelow hg.out (by have := HV6.out.lt; omega) (fun g e => by cases e; exact Nat.le_refl _); have HB47 := qa0 (HB46.out.trans hb); clear hg; skip; clear hb))
     | (refine wpList_store_one rfl 3 _ _ rfl w4.heap.size 18 61 #[.int .u8 1, .string nm, .int .u8 1, .int .i64 2, .string ⟨#[]⟩, .slice none 0 0, .int .i64 0, .int .i64 0, .int .u8 0, .string ⟨#[]⟩, .slice none 0 0, .slice none 0 0, .slice none 0 0, .int .i64 0, .int .i64 0, .int .u8 0, .slice none 0 0, .int .i64 9, .int .i64 0] (.int .i64 8) rfl rfl qd5 rfl rfl HV7.out (by show 18 < 19; omega) ?_; go_loud (intro w8 HV8 hg; replace HV8 : Hid (Vn w8 w4.heap.size 61 #[.int .u8 1, .string nm, .int .u8 1, .int .i64 2, .string ⟨#[]⟩, .slice none 0 0, .int .i64 0, .int .i64 0, .int .u8 0, .string ⟨#[]⟩, .slice none 0 0, .slice none 0 0, .slice none 0 0, .int .i64 0, .int .i64 0, .int .u8 0, .slice none 0 0, .int .i64 9, .int .i64 8]) := HV8.out; have hb : Below w4.heap.size w7 w8 := jbelow hg.out (by have := HV7.out.lt; omega) (fun g e => by cases e; exact Nat.le_refl _); have HB48 := qa0 (HB47.out.trans hb); clear hg; have HB8 := qa0 (jtwo HB4.out HB48.out); have HX8 := qa0 (HX4.out.later HB48.out); have HVl8 := qa0 (HVl4.out.later HB48.out); have HVf8 := qa0 (HVf4.out.later HB48.out); have c8 := HVl8.out.cell 0 _ rfl; clear hb))
     | (refine qa1 rfl 61 _ _ rfl w8.heap.size _ #[.int .u8 6, .string ⟨#[]⟩, .int .u8 2, .int .i64 0, .string nm, .slice none 0 0, .int .i64 7, .int .i64 6, .int .u8 0, .string ⟨#[]⟩, .slice none 0 0, .slice none 0 0, .slice none 0 0, .int .i64 0, .int .i64 0, .int .u8 0, .slice none 0 0, .int .i64 0, .int .i64 0] rfl rfl (Vn.new w8 _ _) qa3 rfl (qbi rfl rfl rfl rfl rfl rfl rfl rfl rfl rfl rfl rfl rfl rfl rfl rfl rfl rfl rfl) ?_; go_loud (intro w9 HV9 hg; have hb : Below w8.heap.size w8 w9 := (jlow _ _).trans (jbelow hg.out (jlow _ _).size (fun g e => by cases e; exact Nat.le_refl _)); clear hg; have HB9 := qa0 (jtwo HB8.out hb); have HX9 := qa0 (HX8.out.later hb); have HVl9 := qa0 (HVl8.out.later hb); have HVf9 := qa0 (HVf8.out.later hb); have HVa9 := qa0 (HV8.out.later hb); clear c8; clear hb)))
    refine wp_region_held (S := fun w' => Vn w' w4.heap.size 61 #[.int .u8 1, .string nm, .int .u8 1, .int .i64 2, .string ⟨#[]⟩, .slice none 0 0, .int .i64 0, .int .i64 0, .int .u8 0, .string ⟨#[]⟩, .slice none 0 0, .slice none 0 0, .slice none 0 0, .int .i64 0, .int .i64 0, .int .u8 0, .slice none 0 0, .int .i64 9, .int .i64 8]) (by kernel_rfl) ?_
    change wpAnyH _ _ _ _ _ _ _ _ (World.drew _)
    obtain ⟨W0, HW0⟩ : ∃ W0, Hid (w9.drew = W0) := ⟨_, rfl⟩
    have hb0 : Below w9.heap.size w9 W0 := by rw [← HW0.out]; exact (Below.refl _ _).drew
    have hz0 : W0.heap.size = w9.heap.size := by rw [← HW0.out]; rfl
    rw [HW0.out]
    clear HW0
    have HB0 := qa0 (jtwo HB9.out hb0)
    have HV0 := qa0 (HVa9.out.later hb0)
    refine wtkq 0 ?va0 rfl (by kernel_rfl) (fun _ _ _ h => h) (by rfl) ?ya0 HV0.out ?za0
    case ya0 => (intro wq hSw; (try dsimp only at hSw); go_simp; try with_reducible rfl)
    try simp only [nz1, nz3, Act.put, nz4, nz5, nz6]
    refine wtkq 1 ?va1 rfl (by kernel_rfl) (fun _ _ _ h => h) (by rfl) ?ya1 HV0.out ?za1
    case ya1 => (intro wq hSw; (try dsimp only at hSw); go_simp; try with_reducible rfl)
    try simp only [nz1, nz2, nz3, Act.put, nz4, nz5, nz6]
    refine wpAnyH_take (i := 3) (v := .agg #[.int .u8 1, .string nm, .int .u8 1, .int .i64 2, .string ⟨#[]⟩, .slice none 0 0, .int .i64 0, .int .i64 0, .int .u8 0, .string ⟨#[]⟩, .slice none 0 0, .slice none 0 0, .slice none 0 0, .int .i64 0, .int .i64 0, .int .u8 0, .slice none 0 0, .int .i64 9, .int .i64 8]) rfl (by kernel_rfl) (by kernel_rfl) (by kernel_rfl) (fun _ _ _ h => h) (yieldsIf_load_mid (by rfl) 61 _ rfl w4.heap.size _ rfl [.int .u8 1, .string nm, .int .u8 1, .int .i64 2, .string ⟨#[]⟩, .slice none 0 0, .int .i64 0, .int .i64 0, .int .u8 0, .string ⟨#[]⟩, .slice none 0 0, .slice none 0 0, .slice none 0 0, .int .i64 0, .int .i64 0, .int .u8 0, .slice none 0 0, .int .i64 9, .int .i64 8] _ (fun w' h => qct h) Tryd.underlying61 rfl sizeI) HV0.out ?_
    try simp only [nz1, nz2, nz3, Act.put, nz4, nz5, nz6]
    apply join4 (fun x y z w' => ∃ g cap, z = .slice (some ⟨g, 0, none⟩) (len0 + 1) cap ∧ Its w' (some ⟨g, 0, none⟩) (len0 + 1) Fa ∧ Below w9.heap.size w9 w')
    ·intro hG
     refine wpAnyH_ready (rs := [2, 4]) (by kernel_rfl) (by simp) ?_
     refine AllReadyH.cons rfl (fun KK hKK => ?_) (AllReadyH.cons rfl (fun KK hKK => ?_) AllReadyH.nil)
     ·refine qa8 rfl _ _ rfl W0.heap.size (.slice none 0 0) 0 [] rfl (World.ownsRow_nil _ _ _ _) ad len0 cap0 (irow C len0) rfl HCl.out (HCc.out W0 HB0.out) HCo.out (by omega) (by omega) (Nat.le_refl _) ?_
      intro g1 cap1 W1 hO1 hb1 hn1
      rw [Nat.zero_add, List.nil_append] at hO1
      rw [Nat.zero_add]
      have HO1 := qa0 (qca hO1 (jlow W1 (.cells #[.int .u8 1, .string nm, .int .u8 1, .int .i64 2, .string ⟨#[]⟩, .slice none 0 0, .int .i64 0, .int .i64 0, .int .u8 0, .string ⟨#[]⟩, .slice none 0 0, .slice none 0 0, .slice none 0 0, .int .i64 0, .int .i64 0, .int .u8 0, .slice none 0 0, .int .i64 9, .int .i64 8] 61)))
      have HB02 : Hid (Below W0.heap.size W0 (W1.alloc (.cells #[.int .u8 1, .string nm, .int .u8 1, .int .i64 2, .string ⟨#[]⟩, .slice none 0 0, .int .i64 0, .int .i64 0, .int .u8 0, .string ⟨#[]⟩, .slice none 0 0, .slice none 0 0, .slice none 0 0, .int .i64 0, .int .i64 0, .int .u8 0, .slice none 0 0, .int .i64 9, .int .i64 8] 61))) := jtwo hb1 (jlow _ _)
      refine hKK.out _ _ (HV0.out.later hb1) (fun _ => ?_)
      clear hKK KK
      try simp only [nz1, nz2, nz3, Act.put, nz4, nz5, nz6]
      refine wpAnyH_ready (rs := [4]) (by kernel_rfl) (by simp) ?_
      refine AllReadyH.cons rfl (fun KK hKK => ?_) AllReadyH.nil
      refine qbe _ rfl _ _ _ _ _ _ _ _ _ _ _ _ _ _ _ _ _ _ _ rfl ?_
      refine hKK.out _ _ (HV0.out.later HB02.out) (fun _ => ?_)
      clear hKK KK
      try simp only [nz1, nz2, nz3, Act.put, nz4, nz5, nz6]
      refine wpAnyH_ready (rs := [5]) (by kernel_rfl) (by simp) ?_
      refine AllReadyH.cons rfl (fun KK hKK => ?_) AllReadyH.nil
      refine qa8 rfl _ _ rfl W0.heap.size _ len0 (irow C len0) rfl HO1.out ⟨_, 0, none⟩ 1 1 [.int .u8 1, .string nm, .int .u8 1, .int .i64 2, .string ⟨#[]⟩, .slice none 0 0, .int .i64 0, .int .i64 0, .int .u8 0, .string ⟨#[]⟩, .slice none 0 0, .slice none 0 0, .slice none 0 0, .int .i64 0, .int .i64 0, .int .u8 0, .slice none 0 0, .int .i64 9, .int .i64 8] rfl rfl (qbp (Vn.new W1 61 #[.int .u8 1, .string nm, .int .u8 1, .int .i64 2, .string ⟨#[]⟩, .slice none 0 0, .int .i64 0, .int .i64 0, .int .u8 0, .string ⟨#[]⟩, .slice none 0 0, .slice none 0 0, .slice none 0 0, .int .i64 0, .int .i64 0, .int .u8 0, .slice none 0 0, .int .i64 9, .int .i64 8])) (ia_iq W0 nm hnm).one (by omega) (by omega) HB02.out.size ?_
      intro g3 cap3 W3 hO3 hb3 _
      have hb03 : Below W0.heap.size W0 W3 := HB02.out.trans hb3
      have hw3 : Below w.heap.size w W3 := jtwo HB0.out hb03
      have hb93 : Below w9.heap.size w9 W3 := jtwo hb0 hb03
      have HI3 : Hid (Its W3 (some ⟨g3, 0, none⟩) (len0 + 1) Fa) := by show Its _ _ _ _; rw [← HFa.out]; exact qbo hO3 (fun i hi => HCq.out W3 hw3 i hi) (ia_iq W3 nm hnm)
      refine hKK.out _ _ (HV0.out.later hb03) (fun _ => ?_)
      clear hKK KK
      try simp only [nz1, nz2, nz3, Act.put, nz4, nz5, nz6]
      refine wtkq 6 ?vaA6 rfl (by kernel_rfl) (fun _ _ _ h => h) (by rfl) ?yaA6 (HV0.out.later hb03) ?zaA6
      case yaA6 => (intro wq hSw; (try dsimp only at hSw); go_simp; try with_reducible rfl)
      try simp only [nz1, nz2, nz3, Act.put, nz4, nz5, nz6]
      refine wpAnyH_done (by kernel_rfl) ?_ _
      try simp only [nz1, nz2, nz3, Act.put, nz4, nz5, nz6]
      generalize Value.slice (some ⟨g1, 0, none⟩) len0 cap1 = X51
      generalize Value.slice (some ⟨W1.heap.size, 0, none⟩) 1 1 = X53
      generalize hZ : Value.slice (some ⟨g3, 0, none⟩) (len0 + 1) cap3 = Z
      exact hG X51 X53 Z W3 ⟨g3, cap3, hZ.symm, HI3.out, hb93⟩
     ·refine qbe _ rfl _ _ _ _ _ _ _ _ _ _ _ _ _ _ _ _ _ _ _ rfl ?_
      have HB01 : Hid (Below W0.heap.size W0 (W0.alloc (.cells #[.int .u8 1, .string nm, .int .u8 1, .int .i64 2, .string ⟨#[]⟩, .slice none 0 0, .int .i64 0, .int .i64 0, .int .u8 0, .string ⟨#[]⟩, .slice none 0 0, .slice none 0 0, .slice none 0 0, .int .i64 0, .int .i64 0, .int .u8 0, .slice none 0 0, .int .i64 9, .int .i64 8] 61))) := jlow _ _
      have HB1 := qa0 (jtwo HB0.out HB01.out)
      have HN1 := qa0 (Vn.new W0 61 #[.int .u8 1, .string nm, .int .u8 1, .int .i64 2, .string ⟨#[]⟩, .slice none 0 0, .int .i64 0, .int .i64 0, .int .u8 0, .string ⟨#[]⟩, .slice none 0 0, .slice none 0 0, .slice none 0 0, .int .i64 0, .int .i64 0, .int .u8 0, .slice none 0 0, .int .i64 9, .int .i64 8])
      refine hKK.out _ _ (HV0.out.later HB01.out) (fun _ => ?_)
      clear hKK KK
      try simp only [nz1, nz2, nz3, Act.put, nz4, nz5, nz6]
      refine wpAnyH_ready (rs := [2]) (by kernel_rfl) (by simp) ?_
      refine AllReadyH.cons rfl (fun KK hKK => ?_) AllReadyH.nil
      refine qa8 rfl _ _ rfl W0.heap.size (.slice none 0 0) 0 [] rfl (World.ownsRow_nil _ _ _ _) ad len0 cap0 (irow C len0) rfl HCl.out (HCc.out _ HB1.out) HCo.out (by omega) (by omega) HB01.out.size ?_
      intro g1 cap1 W2 hO1 hb1 hn1
      rw [Nat.zero_add, List.nil_append] at hO1
      rw [Nat.zero_add]
      have HO1 := qa0 hO1
      have HB02 : Hid (Below W0.heap.size W0 W2) := HB01.out.trans hb1
      refine hKK.out _ _ (HV0.out.later HB02.out) (fun _ => ?_)
      clear hKK KK
      try simp only [nz1, nz2, nz3, Act.put, nz4, nz5, nz6]
      refine wpAnyH_ready (rs := [5]) (by kernel_rfl) (by simp) ?_
      refine AllReadyH.cons rfl (fun KK hKK => ?_) AllReadyH.nil
      refine qa8 rfl _ _ rfl W0.heap.size _ len0 (irow C len0) rfl HO1.out ⟨_, 0, none⟩ 1 1 [.int .u8 1, .string nm, .int .u8 1, .int .i64 2, .string ⟨#[]⟩, .slice none 0 0, .int .i64 0, .int .i64 0, .int .u8 0, .string ⟨#[]⟩, .slice none 0 0, .slice none 0 0, .slice none 0 0, .int .i64 0, .int .i64 0, .int .u8 0, .slice none 0 0, .int .i64 9, .int .i64 8] rfl rfl (qbp (HN1.out.later (hn1 rfl))) (ia_iq W0 nm hnm).one (by omega) (by omega) HB02.out.size ?_
      intro g3 cap3 W3 hO3 hb3 _
      have hb03 : Below W0.heap.size W0 W3 := HB02.out.trans hb3
      have hw3 : Below w.heap.size w W3 := jtwo HB0.out hb03
      have hb93 : Below w9.heap.size w9 W3 := jtwo hb0 hb03
      have HI3 : Hid (Its W3 (some ⟨g3, 0, none⟩) (len0 + 1) Fa) := by show Its _ _ _ _; rw [← HFa.out]; exact qbo hO3 (fun i hi => HCq.out W3 hw3 i hi) (ia_iq W3 nm hnm)
      refine hKK.out _ _ (HV0.out.later hb03) (fun _ => ?_)
      clear hKK KK
      try simp only [nz1, nz2, nz3, Act.put, nz4, nz5, nz6]
      refine wtkq 6 ?vaB6 rfl (by kernel_rfl) (fun _ _ _ h => h) (by rfl) ?yaB6 (HV0.out.later hb03) ?zaB6
      case yaB6 => (intro wq hSw; (try dsimp only at hSw); go_simp; try with_reducible rfl)
      try simp only [nz1, nz2, nz3, Act.put, nz4, nz5, nz6]
      refine wpAnyH_done (by kernel_rfl) ?_ _
      try simp only [nz1, nz2, nz3, Act.put, nz4, nz5, nz6]
      exact hG _ _ _ _ ⟨g3, cap3, rfl, HI3.out, hb93⟩
    rintro x51 x53 va wa ⟨g8, c8, rfl, hIa, hba⟩
    have HBa := qa0 (jtwo HB9.out hba)
    have HXa := qa0 (HX9.out.later hba)
    have HVla := qa0 (HVl9.out.later hba)
    have HVfa := qa0 (HVf9.out.later hba)
    have HVba := qa0 (HV9.out.later hba)
    have HIa := qa0 hIa
    clear hIa hba
    try dsimp only
    go_wp2
    refine wp_region_held (S := fun w' => Vn w' w8.heap.size 61 #[.int .u8 6, .string ⟨#[]⟩, .int .u8 2, .int .i64 0, .string nm, .slice none 0 0, .int .i64 7, .int .i64 6, .int .u8 0, .string ⟨#[]⟩, .slice none 0 0, .slice none 0 0, .slice none 0 0, .int .i64 0, .int .i64 0, .int .u8 0, .slice none 0 0, .int .i64 0, .int .i64 0]) (by kernel_rfl) ?_
    change wpAnyH _ _ _ _ _ _ _ _ (World.drew _)
    obtain ⟨W0, HW0⟩ : ∃ W0, Hid (wa.drew = W0) := ⟨_, rfl⟩
    have hb0 : Below wa.heap.size wa W0 := by rw [← HW0.out]; exact (Below.refl _ _).drew
    have hz0 : W0.heap.size = wa.heap.size := by rw [← HW0.out]; rfl
    rw [HW0.out]
    clear HW0
    have HB0 := qa0 (jtwo HBa.out hb0)
    have HV0 := qa0 (HVba.out.later hb0)
    refine wtkq 0 ?vb0 rfl (by kernel_rfl) (fun _ _ _ h => h) (by rfl) ?yb0 HV0.out ?zb0
    case yb0 => (intro wq hSw; (try dsimp only at hSw); go_simp; try with_reducible rfl)
    try simp only [nz1, nz3, Act.put, nz4, nz5, nz6]
    refine wtkq 1 ?vb1 rfl (by kernel_rfl) (fun _ _ _ h => h) (by rfl) ?yb1 HV0.out ?zb1
    case yb1 => (intro wq hSw; (try dsimp only at hSw); go_simp; try with_reducible rfl)
    try simp only [nz1, nz2, nz3, Act.put, nz4, nz5, nz6]
    refine wpAnyH_take (i := 3) (v := .agg #[.int .u8 6, .string ⟨#[]⟩, .int .u8 2, .int .i64 0, .string nm, .slice none 0 0, .int .i64 7, .int .i64 6, .int .u8 0, .string ⟨#[]⟩, .slice none 0 0, .slice none 0 0, .slice none 0 0, .int .i64 0, .int .i64 0, .int .u8 0, .slice none 0 0, .int .i64 0, .int .i64 0]) rfl (by kernel_rfl) (by kernel_rfl) (by kernel_rfl) (fun _ _ _ h => h) (yieldsIf_load_mid (by rfl) 61 _ rfl w8.heap.size _ rfl [.int .u8 6, .string ⟨#[]⟩, .int .u8 2, .int .i64 0, .string nm, .slice none 0 0, .int .i64 7, .int .i64 6, .int .u8 0, .string ⟨#[]⟩, .slice none 0 0, .slice none 0 0, .slice none 0 0, .int .i64 0, .int .i64 0, .int .u8 0, .slice none 0 0, .int .i64 0, .int .i64 0] _ (fun w' h => qct h) Tryd.underlying61 rfl sizeI) HV0.out ?_
    try simp only [nz1, nz2, nz3, Act.put, nz4, nz5, nz6]
    apply join4 (fun x y z w' => ∃ g cap, z = .slice (some ⟨g, 0, none⟩) (len0 + 1) cap ∧ Its w' (some ⟨g, 0, none⟩) (len0 + 1) Fb ∧ Below wa.heap.size wa w')
    ·intro hG
     refine wpAnyH_ready (rs := [2, 4]) (by kernel_rfl) (by simp) ?_
     refine AllReadyH.cons rfl (fun KK hKK => ?_) (AllReadyH.cons rfl (fun KK hKK => ?_) AllReadyH.nil)
     ·refine qa8 rfl _ _ rfl W0.heap.size (.slice none 0 0) 0 [] rfl (World.ownsRow_nil _ _ _ _) ad len0 cap0 (irow C len0) rfl HCl.out (HCc.out W0 HB0.out) HCo.out (by omega) (by omega) (Nat.le_refl _) ?_
      intro g1 cap1 W1 hO1 hb1 hn1
      rw [Nat.zero_add, List.nil_append] at hO1
      rw [Nat.zero_add]
      have HO1 := qa0 (qca hO1 (jlow W1 (.cells #[.int .u8 6, .string ⟨#[]⟩, .int .u8 2, .int .i64 0, .string nm, .slice none 0 0, .int .i64 7, .int .i64 6, .int .u8 0, .string ⟨#[]⟩, .slice none 0 0, .slice none 0 0, .slice none 0 0, .int .i64 0, .int .i64 0, .int .u8 0, .slice none 0 0, .int .i64 0, .int .i64 0] 61)))
      have HB02 : Hid (Below W0.heap.size W0 (W1.alloc (.cells #[.int .u8 6, .string ⟨#[]⟩, .int .u8 2, .int .i64 0, .string nm, .slice none 0 0, .int .i64 7, .int .i64 6, .int .u8 0, .string ⟨#[]⟩, .slice none 0 0, .slice none 0 0, .slice none 0 0, .int .i64 0, .int .i64 0, .int .u8 0, .slice none 0 0, .int .i64 0, .int .i64 0] 61))) := jtwo hb1 (jlow _ _)
      refine hKK.out _ _ (HV0.out.later hb1) (fun _ => ?_)
      clear hKK KK
      try simp only [nz1, nz2, nz3, Act.put, nz4, nz5, nz6]
      refine wpAnyH_ready (rs := [4]) (by kernel_rfl) (by simp) ?_
      refine AllReadyH.cons rfl (fun KK hKK => ?_) AllReadyH.nil
      refine qbe _ rfl _ _ _ _ _ _ _ _ _ _ _ _ _ _ _ _ _ _ _ rfl ?_
      refine hKK.out _ _ (HV0.out.later HB02.out) (fun _ => ?_)
      clear hKK KK
      try simp only [nz1, nz2, nz3, Act.put, nz4, nz5, nz6]
      refine wpAnyH_ready (rs := [5]) (by kernel_rfl) (by simp) ?_
      refine AllReadyH.cons rfl (fun KK hKK => ?_) AllReadyH.nil
      refine qa8 rfl _ _ rfl W0.heap.size _ len0 (irow C len0) rfl HO1.out ⟨_, 0, none⟩ 1 1 [.int .u8 6, .string ⟨#[]⟩, .int .u8 2, .int .i64 0, .string nm, .slice none 0 0, .int .i64 7, .int .i64 6, .int .u8 0, .string ⟨#[]⟩, .slice none 0 0, .slice none 0 0, .slice none 0 0, .int .i64 0, .int .i64 0, .int .u8 0, .slice none 0 0, .int .i64 0, .int .i64 0] rfl rfl (qbp (Vn.new W1 61 #[.int .u8 6, .string ⟨#[]⟩, .int .u8 2, .int .i64 0, .string nm, .slice none 0 0, .int .i64 7, .int .i64 6, .int .u8 0, .string ⟨#[]⟩, .slice none 0 0, .slice none 0 0, .slice none 0 0, .int .i64 0, .int .i64 0, .int .u8 0, .slice none 0 0, .int .i64 0, .int .i64 0])) (ib_iq W0 nm hnm).one (by omega) (by omega) HB02.out.size ?_
      intro g3 cap3 W3 hO3 hb3 _
      have hb03 : Below W0.heap.size W0 W3 := HB02.out.trans hb3
      have hw3 : Below w.heap.size w W3 := jtwo HB0.out hb03
      have hb93 : Below wa.heap.size wa W3 := jtwo hb0 hb03
      have HI3 : Hid (Its W3 (some ⟨g3, 0, none⟩) (len0 + 1) Fb) := by show Its _ _ _ _; rw [← HFb.out]; exact qbo hO3 (fun i hi => HCq.out W3 hw3 i hi) (ib_iq W3 nm hnm)
      refine hKK.out _ _ (HV0.out.later hb03) (fun _ => ?_)
      clear hKK KK
      try simp only [nz1, nz2, nz3, Act.put, nz4, nz5, nz6]
      refine wtkq 6 ?vbA6 rfl (by kernel_rfl) (fun _ _ _ h => h) (by rfl) ?ybA6 (HV0.out.later hb03) ?zbA6
      case ybA6 => (intro wq hSw; (try dsimp only at hSw); go_simp; try with_reducible rfl)
      try simp only [nz1, nz2, nz3, Act.put, nz4, nz5, nz6]
      refine wpAnyH_done (by kernel_rfl) ?_ _
      try simp only [nz1, nz2, nz3, Act.put, nz4, nz5, nz6]
      generalize Value.slice (some ⟨g1, 0, none⟩) len0 cap1 = X51
      generalize Value.slice (some ⟨W1.heap.size, 0, none⟩) 1 1 = X53
      generalize hZ : Value.slice (some ⟨g3, 0, none⟩) (len0 + 1) cap3 = Z
      exact hG X51 X53 Z W3 ⟨g3, cap3, hZ.symm, HI3.out, hb93⟩
     ·refine qbe _ rfl _ _ _ _ _ _ _ _ _ _ _ _ _ _ _ _ _ _ _ rfl ?_
      have HB01 : Hid (Below W0.heap.size W0 (W0.alloc (.cells #[.int .u8 6, .string ⟨#[]⟩, .int .u8 2, .int .i64 0, .string nm, .slice none 0 0, .int .i64 7, .int .i64 6, .int .u8 0, .string ⟨#[]⟩, .slice none 0 0, .slice none 0 0, .slice none 0 0, .int .i64 0, .int .i64 0, .int .u8 0, .slice none 0 0, .int .i64 0, .int .i64 0] 61))) := jlow _ _
      have HB1 := qa0 (jtwo HB0.out HB01.out)
      have HN1 := qa0 (Vn.new W0 61 #[.int .u8 6, .string ⟨#[]⟩, .int .u8 2, .int .i64 0, .string nm, .slice none 0 0, .int .i64 7, .int .i64 6, .int .u8 0, .string ⟨#[]⟩, .slice none 0 0, .slice none 0 0, .slice none 0 0, .int .i64 0, .int .i64 0, .int .u8 0, .slice none 0 0, .int .i64 0, .int .i64 0])
      refine hKK.out _ _ (HV0.out.later HB01.out) (fun _ => ?_)
      clear hKK KK
      try simp only [nz1, nz2, nz3, Act.put, nz4, nz5, nz6]
      refine wpAnyH_ready (rs := [2]) (by kernel_rfl) (by simp) ?_
      refine AllReadyH.cons rfl (fun KK hKK => ?_) AllReadyH.nil
      refine qa8 rfl _ _ rfl W0.heap.size (.slice none 0 0) 0 [] rfl (World.ownsRow_nil _ _ _ _) ad len0 cap0 (irow C len0) rfl HCl.out (HCc.out _ HB1.out) HCo.out (by omega) (by omega) HB01.out.size ?_
      intro g1 cap1 W2 hO1 hb1 hn1
      rw [Nat.zero_add, List.nil_append] at hO1
      rw [Nat.zero_add]
      have HO1 := qa0 hO1
      have HB02 : Hid (Below W0.heap.size W0 W2) := HB01.out.trans hb1
      refine hKK.out _ _ (HV0.out.later HB02.out) (fun _ => ?_)
      clear hKK KK
      try simp only [nz1, nz2, nz3, Act.put, nz4, nz5, nz6]
      refine wpAnyH_ready (rs := [5]) (by kernel_rfl) (by simp) ?_
      refine AllReadyH.cons rfl (fun KK hKK => ?_) AllReadyH.nil
      refine qa8 rfl _ _ rfl W0.heap.size _ len0 (irow C len0) rfl HO1.out ⟨_, 0, none⟩ 1 1 [.int .u8 6, .string ⟨#[]⟩, .int .u8 2, .int .i64 0, .string nm, .slice none 0 0, .int .i64 7, .int .i64 6, .int .u8 0, .string ⟨#[]⟩, .slice none 0 0, .slice none 0 0, .slice none 0 0, .int .i64 0, .int .i64 0, .int .u8 0, .slice none 0 0, .int .i64 0, .int .i64 0] rfl rfl (qbp (HN1.out.later (hn1 rfl))) (ib_iq W0 nm hnm).one (by omega) (by omega) HB02.out.size ?_
      intro g3 cap3 W3 hO3 hb3 _
      have hb03 : Below W0.heap.size W0 W3 := HB02.out.trans hb3
      have hw3 : Below w.heap.size w W3 := jtwo HB0.out hb03
      have hb93 : Below wa.heap.size wa W3 := jtwo hb0 hb03
      have HI3 : Hid (Its W3 (some ⟨g3, 0, none⟩) (len0 + 1) Fb) := by show Its _ _ _ _; rw [← HFb.out]; exact qbo hO3 (fun i hi => HCq.out W3 hw3 i hi) (ib_iq W3 nm hnm)
      refine hKK.out _ _ (HV0.out.later hb03) (fun _ => ?_)
      clear hKK KK
      try simp only [nz1, nz2, nz3, Act.put, nz4, nz5, nz6]
      refine wtkq 6 ?vbB6 rfl (by kernel_rfl) (fun _ _ _ h => h) (by rfl) ?ybB6 (HV0.out.later hb03) ?zbB6
      case ybB6 => (intro wq hSw; (try dsimp only at hSw); go_simp; try with_reducible rfl)
      try simp only [nz1, nz2, nz3, Act.put, nz4, nz5, nz6]
      refine wpAnyH_done (by kernel_rfl) ?_ _
      try simp only [nz1, nz2, nz3, Act.put, nz4, nz5, nz6]
      exact hG _ _ _ _ ⟨g3, cap3, rfl, HI3.out, hb93⟩
    rintro x57 x59 vb wb ⟨g9, c9, rfl, hIb, hbb⟩
    have HBb := qa0 (jtwo HBa.out hbb)
    have HXb := qa0 (HXa.out.later hbb)
    have HVlb := qa0 (HVla.out.later hbb)
    have HIab := qa0 (HIa.out.later hbb)
    have HIb := qa0 hIb
    clear hIb hbb
    try dsimp only
    cases hma : mayD Fa (len0 + 1) with
    | false =>
     go_wp2_with (first
      | (go_at_call 19; go_loud (refine (HMa.out _ _ _ HIab.out).mono ?_; rintro e wc ⟨rfl, hb⟩; rw [hma]; have HBc := qa0 (jtwo HBb.out hb); have HXc := qa0 (HXb.out.later hb); clear hb))
      | (go_at_call 12; go_loud (refine (HAn.out _ HBc.out).mono ?_; rintro e wd ⟨rfl, hb⟩; have HBd := qa0 (jtwo HBc.out hb); skip; clear hb)))
     go_ret
     exact ⟨rfl, HBd.out⟩
    | true =>
     have ea : tbD Fa (len0 + 1) = .error (130, 9, 8) := by show (if _ then _ else _) = _; rw [if_pos hma]; exact HAg.out
     rw [ea] at HTa
     clear ea
     cases hmb : mayD Fb (len0 + 1) with
     | false =>
      have M2 : True := trivial
      go_wp2_with (first
       | (clear M2; go_at_call 19; go_loud (refine (HMa.out _ _ _ HIab.out).mono ?_; rintro e wc ⟨rfl, hb⟩; rw [hma]; have HBc := qa0 (jtwo HBb.out hb); have HIbc := qa0 (HIb.out.later hb); clear hb))
       | (go_at_call 19; go_loud (refine (HMb.out _ _ _ HIbc.out).mono ?_; rintro e wd ⟨rfl, hb⟩; rw [hmb]; have HBd := qa0 (jtwo HBc.out hb); skip; clear hb))
       | (go_at_call 12; go_loud (refine (HAn.out _ HBd.out).mono ?_; rintro e we ⟨rfl, hb⟩; have HBe := qa0 (jtwo HBd.out hb); skip; clear hb)))
      go_ret
      exact ⟨rfl, HBe.out⟩
     | true =>
      have eb : tbD Fb (len0 + 1) = tbl Fb (len0 + 1) := by show (if _ then _ else _) = _; rw [if_pos hmb]
      rw [eb] at HTb
      clear eb
      have hnq := qcq
      rcases HUs.out with ⟨hk, eT⟩ | ⟨hk, eT⟩
      ·subst hk
       rw [eT] at HTb
       clear eT HUs HAg
       have M2 : True := trivial
       have M3 : True := trivial
       go_wp2_with (first
        | (clear M2; go_at_call 19; go_loud (refine (HMa.out _ _ _ HIab.out).mono ?_; rintro e wc ⟨rfl, hb⟩; rw [hma]; have HBc := qa0 (jtwo HBb.out hb); have HXc := qa0 (HXb.out.later hb); have HIac := qa0 (HIab.out.later hb); have HIbc := qa0 (HIb.out.later hb); have HVlc := qa0 (HVlb.out.later hb); clear hb))
        | (go_at_call 19; go_loud (refine (HMb.out _ _ _ HIbc.out).mono ?_; rintro e wd ⟨rfl, hb⟩; rw [hmb]; have HBd := qa0 (jtwo HBc.out hb); have HXd := qa0 (HXc.out.later hb); have HIad := qa0 (HIac.out.later hb); have HIbd := qa0 (HIbc.out.later hb); have HVld := qa0 (HVlc.out.later hb); clear hb))
        | (clear M3; go_at_call 9; go_loud (refine (HTa.out _ _ _ HBd.out HIad.out).mono ?_; rintro e we ⟨rfl, hb⟩; have HBe := qa0 (jtwo HBd.out (jtwo hb (jlow we (.cells #[.int .i64 130, .int .i64 9, .int .i64 8] 26)))); have HXe := qa0 (HXd.out.later (jtwo hb (jlow we (.cells #[.int .i64 130, .int .i64 9, .int .i64 8] 26)))); have HIbe := qa0 (HIbd.out.later (jtwo hb (jlow we (.cells #[.int .i64 130, .int .i64 9, .int .i64 8] 26)))); have HVle := qa0 (HVld.out.later (jtwo hb (jlow we (.cells #[.int .i64 130, .int .i64 9, .int .i64 8] 26)))); have HVge := qa0 (Vn.new we 26 #[.int .i64 130, .int .i64 9, .int .i64 8]); clear hb))
        | (go_at_call 9; go_loud (refine (HTb.out _ _ _ HBe.out HIbe.out).mono ?_; rintro e wf ⟨rfl, hb⟩; have HBf := qa0 (jtwo HBe.out (jtwo hb (jlow wf (.cells #[.int .i64 131, .int .i64 7, .int .i64 6] 26)))); have HXf := qa0 (HXe.out.later (jtwo hb (jlow wf (.cells #[.int .i64 131, .int .i64 7, .int .i64 6] 26)))); have HVlf := HVle.out.later (jtwo hb (jlow wf (.cells #[.int .i64 131, .int .i64 7, .int .i64 6] 26))); have HVgf := HVge.out.later (jtwo hb (jlow wf (.cells #[.int .i64 131, .int .i64 7, .int .i64 6] 26))); have HVhf := qa0 (Vn.new wf 26 #[.int .i64 131, .int .i64 7, .int .i64 6]); have l1 := HVlf.cell 1 _ rfl; have g0 := HVgf.cell 0 _ rfl; have g1 := HVgf.cell 1 _ rfl; have g2 := HVgf.cell 2 _ rfl; clear hb HVlf HVgf))
        | (go_at_call 12; go_loud (refine (HAn.out _ HBf.out).mono ?_; rintro e wg ⟨rfl, hb⟩; have HBg := qa0 (jtwo HBf.out hb); have HVhg := HVhf.out.later hb; have h0 := HVhg.cell 0 _ rfl; have h1 := HVhg.cell 1 _ rfl; have h2 := HVhg.cell 2 _ rfl; clear HVhg; clear hb)))
       go_ret
       exact ⟨rfl, HBg.out⟩
      ·subst hk
       rw [eT] at HTb
       clear eT HUs HAg
       have M2 : True := trivial
       have M3 : True := trivial
       go_wp2_with (first
        | (clear M2; go_at_call 19; go_loud (refine (HMa.out _ _ _ HIab.out).mono ?_; rintro e wc ⟨rfl, hb⟩; rw [hma]; have HBc := qa0 (jtwo HBb.out hb); have HXc := qa0 (HXb.out.later hb); have HIac := qa0 (HIab.out.later hb); have HIbc := qa0 (HIb.out.later hb); have HVlc := qa0 (HVlb.out.later hb); clear hb))
        | (go_at_call 19; go_loud (refine (HMb.out _ _ _ HIbc.out).mono ?_; rintro e wd ⟨rfl, hb⟩; rw [hmb]; have HBd := qa0 (jtwo HBc.out hb); have HXd := qa0 (HXc.out.later hb); have HIad := qa0 (HIac.out.later hb); have HIbd := qa0 (HIbc.out.later hb); have HVld := qa0 (HVlc.out.later hb); clear hb))
        | (clear M3; go_at_call 9; go_loud (refine (HTa.out _ _ _ HBd.out HIad.out).mono ?_; rintro e we ⟨rfl, hb⟩; have HBe := qa0 (jtwo HBd.out (jtwo hb (jlow we (.cells #[.int .i64 130, .int .i64 9, .int .i64 8] 26)))); have HXe := qa0 (HXd.out.later (jtwo hb (jlow we (.cells #[.int .i64 130, .int .i64 9, .int .i64 8] 26)))); have HIbe := qa0 (HIbd.out.later (jtwo hb (jlow we (.cells #[.int .i64 130, .int .i64 9, .int .i64 8] 26)))); have HVle := qa0 (HVld.out.later (jtwo hb (jlow we (.cells #[.int .i64 130, .int .i64 9, .int .i64 8] 26)))); have HVge := qa0 (Vn.new we 26 #[.int .i64 130, .int .i64 9, .int .i64 8]); clear hb))
        | (go_at_call 9; go_loud (refine (HTb.out _ _ _ HBe.out HIbe.out).mono ?_; rintro e wf ⟨⟨v, rfl, hs, hok⟩, hb⟩; obtain ⟨x4, d4, rfl, _⟩ := hs.form; have HYf := qa0 ((hs.el hok).2.later (jlow wf (.cells #[.int .i64 0, .int .i64 0, .int .i64 0] 26))); rw [hlen] at HYf ⊢; clear hs hok; have HBf := qa0 (jtwo HBe.out (jtwo hb (jlow wf (.cells #[.int .i64 0, .int .i64 0, .int .i64 0] 26)))); have HXf := qa0 (HXe.out.later (jtwo hb (jlow wf (.cells #[.int .i64 0, .int .i64 0, .int .i64 0] 26)))); have HVlf := HVle.out.later (jtwo hb (jlow wf (.cells #[.int .i64 0, .int .i64 0, .int .i64 0] 26))); have HVgf := HVge.out.later (jtwo hb (jlow wf (.cells #[.int .i64 0, .int .i64 0, .int .i64 0] 26))); have HVhf := qa0 (Vn.new wf 26 #[.int .i64 0, .int .i64 0, .int .i64 0]); have l1 := HVlf.cell 1 _ rfl; have g0 := HVgf.cell 0 _ rfl; have g1 := HVgf.cell 1 _ rfl; have g2 := HVgf.cell 2 _ rfl; clear hb HVlf HVgf))
        | (go_at_call 12; go_loud (refine (HAn.out _ HBf.out).mono ?_; rintro e wg ⟨rfl, hb⟩; have HBg := qa0 (jtwo HBf.out hb); have HVhg := HVhf.out.later hb; have h0 := HVhg.cell 0 _ rfl; have h1 := HVhg.cell 1 _ rfl; have h2 := HVhg.cell 2 _ rfl; clear HVhg; have HXg := qa0 (HXf.out.later hb); have HYg := qa0 (HYf.out.later hb); clear hb))
        | (go_at_call 11; go_loud (refine (rlike13 _ (some ⟨b, o, none⟩) x4 (m + 1) _ _ (fun j => T.getD j sy0) HXg.out HYg.out (by omega)).mono ?_; rintro e wh ⟨rfl, hb⟩; have HBh := qa0 (jtwo HBg.out hb); clear hb)))
       go_ret
       exact ⟨rfl, HBh.out⟩
theorem lifted (os : Os) (started : os.Started) (H : Type) (enc : TypeId × Value → H) :
  ReturnsInHanded {} Tryd.checked os 8 .any (fun w args => (Rows.namesMoreSpec.pre enc Tryd.prog Tryd.f8 [] false w args ∧ laidMetH Tryd.prog laidL w) ∧ sizedMet enc Tryd.prog Tryd.f8 (OpenSpec.ofChange Rows.namesMoreSpec) false w args)
   (Rows.namesMoreSpec.post enc Tryd.prog Tryd.f8 false true false false) := by
 refine returnsInHanded_of_change_and (C := Tryd.checked) (X := fun w _ => laidMetH Tryd.prog laidL w) (fun _ _ _ hh h => h.of_heap hh) own started (by kernel_rfl) Tryd.func8
  (ChangeSpec.witness_shaped (enc := enc) (C := Tryd.checked) (os := os) (X := fun w _ => laidMetH Tryd.prog laidL w) false (World.doorLaid Tryd.prog 4000 os) #[.slice none 0 0] 8 rfl (World.shaped_of_RefB (by kernel_rfl) (by kernel_rfl)) (by kernel_rfl) (by kernel_rfl) (by kernel_rfl) (door_met os _)) ?_
 intro W base args ds gs before hval0 hW hcnd hsz0 hL _
 have hsz : (DataW.weightsEach Tryd.prog (Tryd.f8.params.toList ++ Rows.namesMoreSpec.plain.varTypes Tryd.prog) (ds ++ gs)).all (· ≤ reachBytes) = true := hsz0
 clear hsz0
 have hval : ∀ (j : Nat) t v, Tryd.f8.params[j]? = some t → args[j]? = some v → Value.okWide Tryd.prog W .any base t v := hval0
 have hW' := hW
 obtain ⟨p, q, hA0, hV, rfl, hfz, hnd⟩ := hW
 have hA : DataW.TrodAll enc Tryd.prog W 0 (fun _ => true) true Tryd.f8.params.toList args.toList ds p := hA0
 rw [Tryd.params8] at hA hval hsz
 obtain ⟨va0, vs0, d0, ds0, p0, q0, hargs0, rfl, rfl, h0, tr0⟩ := trodAll_cons hA
 obtain ⟨rfl, rfl, rfl⟩ := trodAll_nil tr0
 obtain rfl : args = #[va0] := by cases args; simp_all
 obtain ⟨rfl, rfl⟩ := trodVars_none hV
 have k0 := h0
 have lt0 : ∀ x ∈ p0, x.block < W.heap.size := by obtain ⟨m, hm⟩ := k0; exact DataW.trod_lt m _ _ _ hm
 have hL0 := hL
 rw [MakeChecks.laidMetH_plain _ _ _ (by kernel_rfl)] at hL0
 obtain ⟨a0, len0, cap0, F0, rfl, l0, w0⟩ : ∃ (a : Option Addr) (len cap : Nat) (F : Nat → It), va0 = .slice a len cap ∧ len ≤ 549755813888 ∧ Its W a len F := by
  obtain ⟨fuel, hf⟩ := h0
  obtain ⟨a, len, cap, rfl⟩ := okWide_slice Tryd.underlying22 (hval 0 22 va0 rfl rfl)
  exact its_in (by simpa [Value.cells] using hf) (List.all_eq_true.2 fun n hn => List.all_eq_true.1 hsz n (DataW.weights_mem_each (j := 0) rfl rfl n hn))
 have c0 : len0 ≤ cap0 := by
  obtain ⟨fuel, hf⟩ := h0
  exact cap_in (fuel := fuel) (by simpa [Value.cells] using hf)
 clear hA0 hval0
 refine (walk a0 len0 cap0 F0 W w0 l0 c0 (of_words hL0)).mono fun e W' ⟨he, bel⟩ => ?_
 subst he
 exact ⟨_, rfl, _, _, _, [], _, [], hW', trodAll_mk1 (shut_bool Tryd.underlying4 _), (trodAll_cons_mk (Below.trod laidOut (by kernel_rfl) (of_decide_eq_true (by kernel_rfl)) k0 bel lt0) trodAll_mk0), rfl, bel.frame _, fun h => by cases h⟩
theorem over : Rows.NamesMoreSaid :=
 OpenClaim.holds_of_wide 8 Tryd.f8 rfl rfl rfl rfl rfl rfl rfl ⟨rfl, rfl, rfl, rfl, rfl⟩ rfl rfl rfl rfl rfl (by kernel_rfl) Tryd.func8 (by kernel_rfl)
  (of_decide_eq_true (by kernel_rfl)) (by unfold Func.isWrapper; first | (rw [if_pos (by decide +kernel)]; kernel_rfl) | (rw [if_neg (by decide +kernel)]; exact ⟨rfl, rfl⟩))
  (fun os started H enc _ => lifted os started H enc)
theorem proved : Rows.NamesMoreCardSaid :=
 Claim7.holds_tied_plain_at .later [] [.data] true (true, "cb96c78dc449a60ff3d87b454051880e732b7ed7f30712d5013391cc80f9a798") false
  over (fun _ h => by cases h) (by kernel_rfl) (fun _ h => by cases h) namesMore_row_tie rfl ⟨rfl, rfl⟩ (by kernel_rfl) rfl
  (fun f fn hf hfn => by
   obtain rfl : f = 8 := Option.some.inj ((show Tryd.prog.funcNamed "recoup/recouplaw13.NamesMore" = some 8 by kernel_rfl).symm.trans hf) |>.symm
   obtain rfl : fn = Tryd.f8 := (Option.some.inj (Tryd.func8.symm.trans hfn)).symm
   exact ⟨by kernel_rfl, fun j t ht => by
    rw [Tryd.params8] at ht
    have hm : t ∈ [22] := by simpa using Array.mem_of_getElem? ht
    have hall : ([22].all fun u => !Tryd.prog.wantsStandIn u) = true := by kernel_rfl
    exact (show Tryd.prog.wantsStandIn t = false by simpa using List.all_eq_true.1 hall t hm)⟩)
  (by kernel_rfl)
#print axioms proved
end Go.Proofs.YtemhodenkgngmaaDoor.namesMore
