/-
  Proved: for every list of items and every number: the table of a beginning is the beginning of the table, and a fault comes from the first item with it (P13.4); no condition.
-/
import Derived.Test.YtemhodenkgngmaaDoorQbbin00
import Derived.Test.YtemhodenkgngmaaDoorQbbin40
import Derived.Test.YtemhodenkgngmaaDoorTie
import Derived.Test.YtemhodenkgngmaaDoorCards
import Derived.Test.YtemhodenkgngmaaDoorQbbin50
import Derived.WalkKit
import Derived.SizedLaws
import Derived.ProofKit
import Derived.LaidMore
import Derived.OpenShut
import Derived.ShutString
import Derived.ChangeOld
import Derived.Below
import Derived.Stop.Joined
import Derived.SevenTiedAt
import Derived.Lib.SmallJoins
import Derived.Lib.LaidTab
import Derived.MakeChecks
import Derived.Handed
import Derived.Stop.LaidErr
set_option maxRecDepth 100000
set_option maxHeartbeats 16000000
namespace Go.Proofs.YtemhodenkgngmaaDoor.namesBegin
open Go.ChangeShapes Go.WideShapes Go.ChangeAt Go.RowKit Go.Joins
set_option linter.unusedVariables false
theorem own : ownKnob Tryd.prog.godebug = none := by kernel_rfl
theorem laidOut : laidOutB Tryd.prog = true := by kernel_rfl
/-- What the listed variables hold. -/
def laidL : List (String × DataW Unit) := [("recoup/token.words", Rows.laid_recoup_token_words)]
theorem door_met (os : Os) (args : Array Value) : laidMetH Tryd.prog laidL ((World.doorLaid Tryd.prog 4000 os).forCall (fun _ _ => 0) ⟨#[], args, []⟩).memory :=
 laidMetH_of_parts3 (fuel := 8) (laidMet_of_run' 8 (by kernel_rfl) (by kernel_rfl)) (by kernel_rfl) (by kernel_rfl)
theorem gWds : Tryd.prog.globalNamed "recoup/token.words" = some 0 := by kernel_rfl
theorem tWds : (Tryd.prog.globals[0]?).map (·.type) = some 165 := by kernel_rfl
theorem dWds : (Rows.laid_recoup_token_words : DataW Unit) = .agg ((wds.map fun x => x.data.toList).map fun z => .lit (.string z)) := by kernel_rfl
theorem of_words {W : World} (h : laidMet Tryd.prog laidL W) : Wt9 W := by
 have hk := h
 obtain ⟨ps, ⟨g0, t0, cs0, f0, p0, q0, hg0, ht0, hv0, hd0, _, _⟩, _, _⟩ := hk
 obtain rfl := Option.some.inj (gWds.symm.trans hg0)
 obtain rfl := Option.some.inj (tWds.symm.trans ht0)
 rw [dWds] at hd0
 have hc := qbt Tryd.underlying165 Tryd.underlying9 (by kernel_rfl) (by kernel_rfl) hd0
 unfold Wt9
 rw [hv0]
 obtain ⟨l⟩ := cs0
 have hl : l = wds.map Value.string := hc.trans (by kernel_rfl)
 rw [hl]
theorem tba_form {w : World} {B : Nat} {e : Ending} {R : Tr} (h : TbA w B e R) : ∃ (v : Value) (c l1 l2 : Int), e = .returned (.tuple #[v, .agg #[.int .i64 c, .int .i64 l1, .int .i64 l2]]) := by
 cases R with
 | error qq =>
  obtain ⟨c, l1, l2⟩ := qq
  exact ⟨_, _, _, _, h⟩
 | ok T => obtain ⟨v, h, _⟩ := h; exact ⟨_, _, _, _, h⟩
theorem tmod13 (x n : Nat) : Int.tmod (x : Int) ((n : Int) + 1) = ((x % (n + 1) : Nat) : Int) := by
 rw [show ((n : Int) + 1) = ((n + 1 : Nat) : Int) by omega]
 exact (Int.ofNat_tmod _ _).symm
theorem sw_cap {w : World} {B n d : Nat} {a : Option Addr} {L : List Sy} (h : Sw w B (.slice a n d) L) : n ≤ d := by
 rcases h.2 with ⟨e, _⟩ | ⟨g, cap, cur, e, _, _, hc, _⟩
 ·cases e; exact Nat.le_refl _
 ·cases e; exact hc

theorem walk (a0 : Option Addr) (len0 cap0 : Nat) (F0 : Nat → It) (n1 : Nat) (w : World) (w0 : Its w a0 len0 F0) (l0 : len0 ≤ 549755813888) (c0 : len0 ≤ cap0) (w1 : n1 < 256) (t1 : Wt9 w) :
  Calls Tryd.prog 7 #[.slice a0 len0 cap0, .int .u8 (n1 : Int)] w fun e w' => e = .returned (.bool true) ∧ Below w.heap.size w w' := by
 have HI := qa0 w0
 have HW := qa0 t1
 have HAn : Hid (∀ w' : World, Below w.heap.size w w' → Calls Tryd.prog 12 #[] w' fun e w'' => e = .returned (.bool true) ∧ Below w'.heap.size w' w'') := fun w' hb => qe5 w' (HW.out.later hb)
 have HMy : Hid (∀ w' : World, Below w.heap.size w w' → Calls Tryd.prog 19 #[.slice a0 len0 cap0] w' fun e w'' => e = .returned (.bool (mayD F0 len0)) ∧ Below w'.heap.size w' w'') := fun w' hb => rmay10 w' a0 len0 cap0 F0 (HI.out.later hb) l0
 obtain ⟨k, Hk⟩ : ∃ k, Hid (n1 % (len0 + 1) = k) := ⟨_, rfl⟩
 have hk : k ≤ len0 := by have := Nat.mod_lt n1 (show 0 < len0 + 1 by omega); rw [Hk.out] at this; omega
 have hrem : Int.tmod (n1 : Int) ((len0 : Int) + 1) = (k : Int) := by rw [tmod13, Hk.out]
 have HTk : Hid (∀ w' : World, Below w.heap.size w w' → Calls Tryd.prog 9 #[.slice a0 k k] w' fun e w'' => TbA w'' w'.heap.size e (tbD F0 k) ∧ Below w'.heap.size w' w'') := fun w' hb => ptable w' a0 k k F0 (fun i hi => (HI.out.later hb) i (by omega)) (by omega) (HW.out.later hb)
 have HTn : Hid (∀ w' : World, Below w.heap.size w w' → Calls Tryd.prog 9 #[.slice a0 len0 cap0] w' fun e w'' => TbA w'' w'.heap.size e (tbD F0 len0) ∧ Below w'.heap.size w' w'') := fun w' hb => ptable w' a0 len0 cap0 F0 (HI.out.later hb) l0 (HW.out.later hb)
 have hef := qd0
 have hnf := qaw
 clear w0 t1 Hk HW
 cases hm : mayD F0 len0 with
 | false =>
  have e1 : tbD F0 len0 = .error (2, 0, 0) := by show (if _ then _ else _) = _; rw [if_neg (by rw [hm]; decide)]
  rw [e1] at HTn
  clear e1
  go_enter Tryd.func7, Tryd.ntmps7
  have M1 : True := trivial
  go_wp2_with (first
   | (clear M1; go_at_call 9; go_loud (refine (HTk.out _ (Below.refl _ _)).mono ?_; rintro e w1 ⟨h1, hb1⟩; obtain ⟨v, c, l1, l2, rfl⟩ := tba_form h1; clear h1; have HVa := qa0 (Vn.new w1 26 #[.int .i64 c, .int .i64 l1, .int .i64 l2]); have HBa := qa0 (jtwo hb1 (jlow w1 (.cells #[.int .i64 c, .int .i64 l1, .int .i64 l2] 26))); clear hb1))
   | (go_at_call 9; go_loud (refine (HTn.out _ HBa.out).mono ?_; rintro e w2 ⟨rfl, hb2⟩; have HVa2 := qa0 ((HVa.out.later hb2).later (jlow w2 (.cells #[.int .i64 2, .int .i64 0, .int .i64 0] 26))); have HVb := qa0 (Vn.new w2 26 #[.int .i64 2, .int .i64 0, .int .i64 0]); have HBb := qa0 (jtwo (jtwo HBa.out hb2) (jlow w2 (.cells #[.int .i64 2, .int .i64 0, .int .i64 0] 26))); clear hb2))
   | (go_at_call 19; go_loud (refine (HMy.out _ HBb.out).mono ?_; rintro e w3 ⟨rfl, hb3⟩; rw [hm]; have HB3 := qa0 (jtwo HBb.out hb3); have HVa3 := HVa2.out.later hb3; have HVb3 := HVb.out.later hb3; have m0 := HVa3.cell 0 _ rfl; have m1 := HVa3.cell 1 _ rfl; have m2 := HVa3.cell 2 _ rfl; have n0 := HVb3.cell 0 _ rfl; have n1' := HVb3.cell 1 _ rfl; have n2' := HVb3.cell 2 _ rfl; clear HVa3 HVb3 hb3))
   | (go_at_call 12; go_loud (refine (HAn.out _ HB3.out).mono ?_; rintro e w4 ⟨rfl, hb4⟩; have HB4 := qa0 (jtwo HB3.out hb4); have a0' := cell_kept m0 hb4; have a1' := cell_kept m1 hb4; have a2' := cell_kept m2 hb4; have b0' := cell_kept n0 hb4; have b1' := cell_kept n1' hb4; have b2' := cell_kept n2' hb4; clear hb4)))
  go_ret
  exact ⟨rfl, HB4.out⟩
 | true =>
  have e1 : tbD F0 len0 = tbl F0 len0 := by show (if _ then _ else _) = _; rw [if_pos hm]
  have e2 : tbD F0 k = tbl F0 k := by show (if _ then _ else _) = _; rw [if_pos (qf4 hm hk)]
  rw [e1] at HTn
  rw [e2] at HTk
  clear e1 e2
  cases hx : tbl F0 k with
  | error qq =>
   obtain ⟨c, l1, l2⟩ := qq
   have hc := qdu hx
   have e3 : tbl F0 len0 = .error (c, l1, l2) := by
    obtain ⟨d, rfl⟩ : ∃ d, len0 = k + d := ⟨len0 - k, by omega⟩
    exact qdt hx d
   rw [e3] at HTn
   rw [hx] at HTk
   clear e3 hx
   have q0 : (c != 0) = true := by simpa using hc
   go_enter Tryd.func7, Tryd.ntmps7
   have M1 : True := trivial
   go_wp2_with (first
    | (clear M1; go_at_call 9; go_loud (refine (HTk.out _ (Below.refl _ _)).mono ?_; rintro e w1 ⟨rfl, hb1⟩; have HVa := qa0 (Vn.new w1 26 #[.int .i64 c, .int .i64 l1, .int .i64 l2]); have HBa := qa0 (jtwo hb1 (jlow w1 (.cells #[.int .i64 c, .int .i64 l1, .int .i64 l2] 26))); clear hb1))
    | (go_at_call 9; go_loud (refine (HTn.out _ HBa.out).mono ?_; rintro e w2 ⟨rfl, hb2⟩; have HVa2 := qa0 ((HVa.out.later hb2).later (jlow w2 (.cells #[.int .i64 c, .int .i64 l1, .int .i64 l2] 26))); have HVb := qa0 (Vn.new w2 26 #[.int .i64 c, .int .i64 l1, .int .i64 l2]); have HBb := qa0 (jtwo (jtwo HBa.out hb2) (jlow w2 (.cells #[.int .i64 c, .int .i64 l1, .int .i64 l2] 26))); clear hb2))
    | (go_at_call 19; go_loud (refine (HMy.out _ HBb.out).mono ?_; rintro e w3 ⟨rfl, hb3⟩; rw [hm]; have HB3 := qa0 (jtwo HBb.out hb3); have HVa3 := HVa2.out.later hb3; have HVb3 := HVb.out.later hb3; have m0 := HVa3.cell 0 _ rfl; have m1 := HVa3.cell 1 _ rfl; have m2 := HVa3.cell 2 _ rfl; have n0 := HVb3.cell 0 _ rfl; have n1' := HVb3.cell 1 _ rfl; have n2' := HVb3.cell 2 _ rfl; clear HVa3 HVb3 hb3))
    | (go_at_call 12; go_loud (refine (HAn.out _ HB3.out).mono ?_; rintro e w4 ⟨rfl, hb4⟩; have HB4 := qa0 (jtwo HB3.out hb4); have a0' := cell_kept m0 hb4; have a1' := cell_kept m1 hb4; have a2' := cell_kept m2 hb4; have b0' := cell_kept n0 hb4; have b1' := cell_kept n1' hb4; have b2' := cell_kept n2' hb4; clear hb4)))
   go_ret
   exact ⟨rfl, HB4.out⟩
  | ok T =>
   rw [hx] at HTk
   have hTl := qf3 hx
   cases hy : tbl F0 len0 with
   | error qq =>
    obtain ⟨c, l1, l2⟩ := qq
    have hc := qdu hy
    rw [hy] at HTn
    clear hx hy
    have q0 : (c != 0) = true := by simpa using hc
    go_enter Tryd.func7, Tryd.ntmps7
    have M1 : True := trivial
    go_wp2_with (first
     | (clear M1; go_at_call 9; go_loud (refine (HTk.out _ (Below.refl _ _)).mono ?_; rintro e w1 ⟨⟨v, rfl, _⟩, hb1⟩; have HVa := qa0 (Vn.new w1 26 #[.int .i64 0, .int .i64 0, .int .i64 0]); have HBa := qa0 (jtwo hb1 (jlow w1 (.cells #[.int .i64 0, .int .i64 0, .int .i64 0] 26))); clear hb1))
     | (go_at_call 9; go_loud (refine (HTn.out _ HBa.out).mono ?_; rintro e w2 ⟨rfl, hb2⟩; have HVa2 := qa0 ((HVa.out.later hb2).later (jlow w2 (.cells #[.int .i64 c, .int .i64 l1, .int .i64 l2] 26))); have HVb := qa0 (Vn.new w2 26 #[.int .i64 c, .int .i64 l1, .int .i64 l2]); have HBb := qa0 (jtwo (jtwo HBa.out hb2) (jlow w2 (.cells #[.int .i64 c, .int .i64 l1, .int .i64 l2] 26))); clear hb2))
     | (go_at_call 19; go_loud (refine (HMy.out _ HBb.out).mono ?_; rintro e w3 ⟨rfl, hb3⟩; rw [hm]; have HB3 := qa0 (jtwo HBb.out hb3); have HVa3 := HVa2.out.later hb3; have HVb3 := HVb.out.later hb3; have m0 := HVa3.cell 0 _ rfl; have m1 := HVa3.cell 1 _ rfl; have m2 := HVa3.cell 2 _ rfl; have n0 := HVb3.cell 0 _ rfl; have n1' := HVb3.cell 1 _ rfl; have n2' := HVb3.cell 2 _ rfl; clear HVa3 HVb3 hb3))
     | (go_at_call 12; go_loud (refine (HAn.out _ HB3.out).mono ?_; rintro e w4 ⟨rfl, hb4⟩; have HB4 := qa0 (jtwo HB3.out hb4); have a0' := cell_kept m0 hb4; have a1' := cell_kept m1 hb4; have a2' := cell_kept m2 hb4; have b0' := cell_kept n0 hb4; have b1' := cell_kept n1' hb4; have b2' := cell_kept n2' hb4; clear hb4)))
    go_ret
    exact ⟨rfl, HB4.out⟩
   | ok U =>
    rw [hy] at HTn
    have hUl := qf3 hy
    obtain ⟨R, HR⟩ : ∃ R, Hid (U = T ++ R) := by
     obtain ⟨d, rfl⟩ : ∃ d, len0 = k + d := ⟨len0 - k, by omega⟩
     exact tbl_pre hx d hy
    clear hx hy
    go_enter Tryd.func7, Tryd.ntmps7
    have hlu : T.length ≤ U.length := by rw [HR.out, List.length_append]; omega
    have HLs : Hid (∀ {W : World} {x : Option Addr}, SyL W x U.length (fun j => U.getD j sy0) → SyL W x T.length (fun j => T.getD j sy0)) := fun {W x} h i hi => by
     have h1 := h i (by omega)
     have e : U.getD i sy0 = T.getD i sy0 := by rw [HR.out, List.getD_eq_getElem?_getD, List.getD_eq_getElem?_getD, List.getElem?_append_left hi]
     dsimp only at h1 ⊢
     rw [e] at h1
     exact h1
    have M1 : True := trivial
    go_wp2_with (first
     | (clear M1; go_at_call 9; go_loud (refine (HTk.out _ (Below.refl _ _)).mono ?_; rintro e w1 ⟨⟨v, rfl, hs1, hok1⟩, hb1⟩; obtain ⟨x3, d3, rfl, _⟩ := hs1.form; have HX1 := qa0 (hs1.el hok1).2; clear hs1 hok1; have HVa := qa0 (Vn.new w1 26 #[.int .i64 0, .int .i64 0, .int .i64 0]); have HBa := qa0 (jtwo hb1 (jlow w1 (.cells #[.int .i64 0, .int .i64 0, .int .i64 0] 26))); clear hb1))
     | (go_at_call 9; go_loud (refine (HTn.out _ HBa.out).mono ?_; rintro e w2 ⟨⟨v, rfl, hs2, hok2⟩, hb2⟩; obtain ⟨x4, d4, rfl, _⟩ := hs2.form; have hd4 := sw_cap hs2; have HX2 := qa0 (HX1.out.later (jtwo (jlow w1 (.cells #[.int .i64 0, .int .i64 0, .int .i64 0] 26)) hb2)); have HY2 := qa0 (hs2.el hok2).2; clear hs2 hok2; have HVa2 := qa0 ((HVa.out.later hb2).later (jlow w2 (.cells #[.int .i64 0, .int .i64 0, .int .i64 0] 26))); have HVb := qa0 (Vn.new w2 26 #[.int .i64 0, .int .i64 0, .int .i64 0]); have HBb := qa0 (jtwo (jtwo HBa.out hb2) (jlow w2 (.cells #[.int .i64 0, .int .i64 0, .int .i64 0] 26))); clear hb2))
     | (go_at_call 19; go_loud (refine (HMy.out _ HBb.out).mono ?_; rintro e w3 ⟨rfl, hb3⟩; rw [hm]; have HB3 := qa0 (jtwo HBb.out hb3); have HVa3 := HVa2.out.later hb3; have HVb3 := HVb.out.later hb3; have m0 := HVa3.cell 0 _ rfl; have m1 := HVa3.cell 1 _ rfl; have m2 := HVa3.cell 2 _ rfl; have n0 := HVb3.cell 0 _ rfl; have n1' := HVb3.cell 1 _ rfl; have n2' := HVb3.cell 2 _ rfl; have HX3 := qa0 (HX2.out.later (jtwo (jlow w2 (.cells #[.int .i64 0, .int .i64 0, .int .i64 0] 26)) hb3)); have HY3 := qa0 (HY2.out.later (jtwo (jlow w2 (.cells #[.int .i64 0, .int .i64 0, .int .i64 0] 26)) hb3)); clear HVa3 HVb3 hb3))
     | (go_at_call 12; go_loud (refine (HAn.out _ HB3.out).mono ?_; rintro e w4 ⟨rfl, hb4⟩; have HB4 := qa0 (jtwo HB3.out hb4); have a0' := cell_kept m0 hb4; have a1' := cell_kept m1 hb4; have a2' := cell_kept m2 hb4; have b0' := cell_kept n0 hb4; have b1' := cell_kept n1' hb4; have b2' := cell_kept n2' hb4; have HX4 := qa0 (HX3.out.later hb4); have HY4 := qa0 (HY3.out.later hb4); clear hb4))
     | (go_at_call 11; go_loud (refine (rlike13 _ x3 x4 T.length _ _ (fun j => T.getD j sy0) HX4.out (HLs.out HY4.out) (by omega)).mono ?_; rintro e w5 ⟨rfl, hb5⟩; have HB5 := qa0 (jtwo HB4.out hb5); clear hb5)))
    go_ret
    exact ⟨rfl, HB5.out⟩
theorem lifted (os : Os) (started : os.Started) (H : Type) (enc : TypeId × Value → H) :
  ReturnsInHanded {} Tryd.checked os 7 .any (fun w args => (Rows.namesBeginSpec.pre enc Tryd.prog Tryd.f7 [] false w args ∧ laidMetH Tryd.prog laidL w) ∧ sizedMet enc Tryd.prog Tryd.f7 (OpenSpec.ofChange Rows.namesBeginSpec) false w args)
   (Rows.namesBeginSpec.post enc Tryd.prog Tryd.f7 false true false false) := by
 refine returnsInHanded_of_change_and (C := Tryd.checked) (X := fun w _ => laidMetH Tryd.prog laidL w) (fun _ _ _ hh h => h.of_heap hh) own started (by kernel_rfl) Tryd.func7
  (ChangeSpec.witness_shaped (enc := enc) (C := Tryd.checked) (os := os) (X := fun w _ => laidMetH Tryd.prog laidL w) false (World.doorLaid Tryd.prog 4000 os) #[.slice none 0 0, .int .u8 0] 8 rfl (World.shaped_of_RefB (by kernel_rfl) (by kernel_rfl)) (by kernel_rfl) (by kernel_rfl) (by kernel_rfl) (door_met os _)) ?_
 intro W base args ds gs before hval0 hW hcnd hsz0 hL _
 have hsz : (DataW.weightsEach Tryd.prog (Tryd.f7.params.toList ++ Rows.namesBeginSpec.plain.varTypes Tryd.prog) (ds ++ gs)).all (· ≤ reachBytes) = true := hsz0
 clear hsz0
 have hval : ∀ (j : Nat) t v, Tryd.f7.params[j]? = some t → args[j]? = some v → Value.okWide Tryd.prog W .any base t v := hval0
 have hW' := hW
 obtain ⟨p, q, hA0, hV, rfl, hfz, hnd⟩ := hW
 have hA : DataW.TrodAll enc Tryd.prog W 0 (fun _ => true) true Tryd.f7.params.toList args.toList ds p := hA0
 rw [Tryd.params7] at hA hval hsz
 obtain ⟨va0, vs0, d0, ds0, p0, q0, hargs0, rfl, rfl, h0, tr0⟩ := trodAll_cons hA
 obtain ⟨va1, vs1, d1, ds1, p1, q1, hargs1, rfl, rfl, h1, tr1⟩ := trodAll_cons tr0
 obtain ⟨rfl, rfl, rfl⟩ := trodAll_nil tr1
 obtain rfl : args = #[va0, va1] := by cases args; simp_all
 obtain ⟨rfl, rfl⟩ := trodVars_none hV
 have k0 := h0
 have lt0 : ∀ x ∈ p0, x.block < W.heap.size := by obtain ⟨m, hm⟩ := k0; exact DataW.trod_lt m _ _ _ hm
 have k1 := h1
 have lt1 : ∀ x ∈ p1, x.block < W.heap.size := by obtain ⟨m, hm⟩ := k1; exact DataW.trod_lt m _ _ _ hm
 have hL0 := hL
 rw [MakeChecks.laidMetH_plain _ _ _ (by kernel_rfl)] at hL0
 obtain ⟨a0, len0, cap0, F0, rfl, l0, w0⟩ : ∃ (a : Option Addr) (len cap : Nat) (F : Nat → It), va0 = .slice a len cap ∧ len ≤ 549755813888 ∧ Its W a len F := by
  obtain ⟨fuel, hf⟩ := h0
  obtain ⟨a, len, cap, rfl⟩ := okWide_slice Tryd.underlying22 (hval 0 22 va0 rfl rfl)
  exact its_in (by simpa [Value.cells] using hf) (List.all_eq_true.2 fun n hn => List.all_eq_true.1 hsz n (DataW.weights_mem_each (j := 0) rfl rfl n hn))
 have c0 : len0 ≤ cap0 := by
  obtain ⟨fuel, hf⟩ := h0
  exact cap_in (fuel := fuel) (by simpa [Value.cells] using hf)
 obtain ⟨n1, rfl, w1⟩ : ∃ n : Nat, va1 = .int .u8 (n : Int) ∧ n < 256 := by
  obtain ⟨n, rfl, _, _, hw⟩ := open_int Tryd.underlying5 (hval 1 5 va1 rfl rfl) h1
  obtain ⟨x, rfl, hx⟩ := qco hw
  exact ⟨x, rfl, hx⟩
 clear hA0 hval0
 refine (walk a0 len0 cap0 F0 n1 W w0 l0 c0 w1 (of_words hL0)).mono fun e W' ⟨he, bel⟩ => ?_
 subst he
 exact ⟨_, rfl, _, _, _, [], _, [], hW', trodAll_mk1 (shut_bool Tryd.underlying4 _), (trodAll_cons_mk (Below.trod laidOut (by kernel_rfl) (of_decide_eq_true (by kernel_rfl)) k0 bel lt0) (trodAll_cons_mk (Below.trod laidOut (by kernel_rfl) (of_decide_eq_true (by kernel_rfl)) k1 bel lt1) trodAll_mk0)), rfl, bel.frame _, fun h => by cases h⟩
theorem over : Rows.NamesBeginSaid :=
 OpenClaim.holds_of_wide 7 Tryd.f7 rfl rfl rfl rfl rfl rfl rfl ⟨rfl, rfl, rfl, rfl, rfl⟩ rfl rfl rfl rfl rfl (by kernel_rfl) Tryd.func7 (by kernel_rfl)
  (of_decide_eq_true (by kernel_rfl)) (by unfold Func.isWrapper; first | (rw [if_pos (by decide +kernel)]; kernel_rfl) | (rw [if_neg (by decide +kernel)]; exact ⟨rfl, rfl⟩))
  (fun os started H enc _ => lifted os started H enc)
theorem proved : Rows.NamesBeginCardSaid :=
 Claim7.holds_tied_plain_at .later [] [.data] true (true, "cb96c78dc449a60ff3d87b454051880e732b7ed7f30712d5013391cc80f9a798") false
  over (fun _ h => by cases h) (by kernel_rfl) (fun _ h => by cases h) namesBegin_row_tie rfl ⟨rfl, rfl⟩ (by kernel_rfl) rfl
  (fun f fn hf hfn => by
   obtain rfl : f = 7 := Option.some.inj ((show Tryd.prog.funcNamed "recoup/recouplaw13.NamesBegin" = some 7 by kernel_rfl).symm.trans hf) |>.symm
   obtain rfl : fn = Tryd.f7 := (Option.some.inj (Tryd.func7.symm.trans hfn)).symm
   exact ⟨by kernel_rfl, fun j t ht => by
    rw [Tryd.params7] at ht
    have hm : t ∈ [22, 5] := by simpa using Array.mem_of_getElem? ht
    have hall : ([22, 5].all fun u => !Tryd.prog.wantsStandIn u) = true := by kernel_rfl
    exact (show Tryd.prog.wantsStandIn t = false by simpa using List.all_eq_true.1 hall t hm)⟩)
  (by kernel_rfl)
#print axioms proved
end Go.Proofs.YtemhodenkgngmaaDoor.namesBegin
