/-
  Proved: for every list of items: the program's Table is the document's, or its fault is (P13.1); no condition.
-/
import Derived.Test.YtemhodenkgngmaaDoorQttes00
import Derived.Test.YtemhodenkgngmaaDoorQttes50
import Derived.Test.YtemhodenkgngmaaDoorTie
import Derived.Test.YtemhodenkgngmaaDoorCards
import Derived.WalkKit
import Derived.SizedLaws
import Derived.ProofKit
import Derived.LaidMore
import Derived.OpenShut
import Derived.ShutString
import Derived.ChangeOld
import Derived.Below
import Derived.Stop.Joined
import Derived.SevenTiedAt
import Derived.Lib.SmallJoins
import Derived.Lib.LaidTab
import Derived.MakeChecks
import Derived.Handed
import Derived.Stop.LaidErr
set_option maxRecDepth 100000
set_option maxHeartbeats 16000000
namespace Go.Proofs.YtemhodenkgngmaaDoor.namesTables
open Go.ChangeShapes Go.WideShapes Go.ChangeAt Go.RowKit Go.Joins
set_option linter.unusedVariables false
theorem own : ownKnob Tryd.prog.godebug = none := by kernel_rfl
theorem laidOut : laidOutB Tryd.prog = true := by kernel_rfl
/-- What the listed variables hold. -/
def laidL : List (String × DataW Unit) := [("recoup/token.words", Rows.laid_recoup_token_words)]
theorem door_met (os : Os) (args : Array Value) : laidMetH Tryd.prog laidL ((World.doorLaid Tryd.prog 4000 os).forCall (fun _ _ => 0) ⟨#[], args, []⟩).memory :=
 laidMetH_of_parts3 (fuel := 8) (laidMet_of_run' 8 (by kernel_rfl) (by kernel_rfl)) (by kernel_rfl) (by kernel_rfl)
theorem gWds : Tryd.prog.globalNamed "recoup/token.words" = some 0 := by kernel_rfl
theorem tWds : (Tryd.prog.globals[0]?).map (·.type) = some 165 := by kernel_rfl
theorem dWds : (Rows.laid_recoup_token_words : DataW Unit) = .agg ((wds.map fun x => x.data.toList).map fun z => .lit (.string z)) := by kernel_rfl
theorem of_words {W : World} (h : laidMet Tryd.prog laidL W) : Wt9 W := by
 have hk := h
 obtain ⟨ps, ⟨g0, t0, cs0, f0, p0, q0, hg0, ht0, hv0, hd0, _, _⟩, _, _⟩ := hk
 obtain rfl := Option.some.inj (gWds.symm.trans hg0)
 obtain rfl := Option.some.inj (tWds.symm.trans ht0)
 rw [dWds] at hd0
 have hc := qcj Tryd.underlying165 Tryd.underlying9 (by kernel_rfl) (by kernel_rfl) hd0
 unfold Wt9
 rw [hv0]
 obtain ⟨l⟩ := cs0
 have hl : l = wds.map Value.string := hc.trans (by kernel_rfl)
 rw [hl]
theorem sy_none (w : World) : SyL w none 0 (fun _ => sy0) := fun i hi => absurd hi (Nat.not_lt_zero i)

theorem walk (a0 : Option Addr) (len0 cap0 : Nat) (F0 : Nat → It) (w : World) (w0 : Its w a0 len0 F0) (l0 : len0 ≤ 549755813888) (c0 : len0 ≤ cap0) (t1 : Wt9 w) :
  Calls Tryd.prog 3 #[.slice a0 len0 cap0] w fun e w' => e = .returned (.bool true) ∧ Below w.heap.size w w' := by
 have HI := qa0 w0
 have HW := qa0 t1
 have HAn : Hid (∀ w' : World, Below w.heap.size w w' → Calls Tryd.prog 12 #[] w' fun e w'' => e = .returned (.bool true) ∧ Below w'.heap.size w' w'') := fun w' hb => qfb w' (HW.out.later hb)
 have HT1 : Hid (∀ w' : World, Below w.heap.size w w' → Calls Tryd.prog 9 #[.slice a0 len0 cap0] w' fun e w'' => TbA w'' w'.heap.size e (tbD F0 len0) ∧ Below w'.heap.size w' w'') := fun w' hb => ptable w' a0 len0 cap0 F0 (HI.out.later hb) l0 (HW.out.later hb)
 have HT2 : Hid (∀ w' : World, Below w.heap.size w w' → Calls Tryd.prog 10 #[.slice a0 len0 cap0] w' fun e w'' => TbA w'' w'.heap.size e (tbD F0 len0) ∧ Below w'.heap.size w' w'') := fun w' hb => rtable13 w' a0 len0 cap0 F0 (HI.out.later hb) l0
 have hef := qdu
 have hnf := qb1
 have Htl : Hid (∀ T, tbD F0 len0 = .ok T → T.length ≤ 64) := fun T h => by
  unfold tbD at h
  split at h
  ·rename_i hm
   exact Nat.le_trans (tbl_len h) (qdy hm).1
  ·cases h
 clear w0 t1 HI HW
 cases hx : tbD F0 len0 with
 | error qq =>
  obtain ⟨c, l1, l2⟩ := qq
  rw [hx] at HT1 HT2
  clear hx Htl
  go_enter Tryd.func3, Tryd.ntmps3
  have qq : ((c == c) && ((l1 == l1) && (l2 == l2))) = true := by simp
  have M1 : True := trivial
  go_wp2_with (first
   | (clear M1; go_at_call 9; go_loud (refine (HT1.out _ (Below.refl _ _)).mono ?_; rintro e w1 ⟨rfl, hb1⟩; have HVa := qa0 (Vn.new w1 26 #[.int .i64 c, .int .i64 l1, .int .i64 l2]); have HBa := qa0 (jtwo hb1 (jlow w1 (.cells #[.int .i64 c, .int .i64 l1, .int .i64 l2] 26))); clear hb1))
   | (go_at_call 10; go_loud (refine (HT2.out _ HBa.out).mono ?_; rintro e w2 ⟨rfl, hb2⟩; have HVa2 := (HVa.out.later hb2).later (jlow w2 (.cells #[.int .i64 c, .int .i64 l1, .int .i64 l2] 26)); have HVb := Vn.new w2 26 #[.int .i64 c, .int .i64 l1, .int .i64 l2]; have m0 := HVa2.cell 0 _ rfl; have m1 := HVa2.cell 1 _ rfl; have m2 := HVa2.cell 2 _ rfl; have n0 := HVb.cell 0 _ rfl; have n1 := HVb.cell 1 _ rfl; have n2 := HVb.cell 2 _ rfl; have HBb := qa0 (jtwo (jtwo HBa.out hb2) (jlow w2 (.cells #[.int .i64 c, .int .i64 l1, .int .i64 l2] 26))); clear hb2 HVa2 HVb))
   | (go_at_call 11; go_loud (refine (qgf _ none none 0 _ _ (fun _ => sy0) (sy_none _) (sy_none _) (by omega)).mono ?_; rintro e w3 ⟨rfl, hb3⟩; have HBc := qa0 (jtwo HBb.out hb3); clear hb3))
   | (go_at_call 12; go_loud (refine (HAn.out _ HBc.out).mono ?_; rintro e w4 ⟨rfl, hb4⟩; have HBd := qa0 (jtwo HBc.out hb4); clear hb4)))
  go_ret
  exact ⟨rfl, HBd.out⟩
 | ok T =>
  have hl64 := Htl.out T hx
  rw [hx] at HT1 HT2
  clear hx Htl
  go_enter Tryd.func3, Tryd.ntmps3
  have M1 : True := trivial
  go_wp2_with (first
   | (clear M1; go_at_call 9; go_loud (refine (HT1.out _ (Below.refl _ _)).mono ?_; rintro e w1 ⟨⟨v, rfl, hs1, hok1⟩, hb1⟩; obtain ⟨x3, d3, rfl, -⟩ := hs1.form; have HX1 := qa0 ((hs1.el hok1).2.later (jlow w1 (.cells #[.int .i64 0, .int .i64 0, .int .i64 0] 26))); clear hs1 hok1; have HVa := qa0 (Vn.new w1 26 #[.int .i64 0, .int .i64 0, .int .i64 0]); have HBa := qa0 (jtwo hb1 (jlow w1 (.cells #[.int .i64 0, .int .i64 0, .int .i64 0] 26))); clear hb1))
   | (go_at_call 10; go_loud (refine (HT2.out _ HBa.out).mono ?_; rintro e w2 ⟨⟨v, rfl, hs2, hok2⟩, hb2⟩; obtain ⟨x4, d4, rfl, -⟩ := hs2.form; have HX2 := qa0 (HX1.out.later (jtwo hb2 (jlow w2 (.cells #[.int .i64 0, .int .i64 0, .int .i64 0] 26)))); have HY2 := qa0 ((hs2.el hok2).2.later (jlow w2 (.cells #[.int .i64 0, .int .i64 0, .int .i64 0] 26))); clear hs2 hok2; have HVa2 := (HVa.out.later hb2).later (jlow w2 (.cells #[.int .i64 0, .int .i64 0, .int .i64 0] 26)); have HVb := Vn.new w2 26 #[.int .i64 0, .int .i64 0, .int .i64 0]; have m0 := HVa2.cell 0 _ rfl; have m1 := HVa2.cell 1 _ rfl; have m2 := HVa2.cell 2 _ rfl; have n0 := HVb.cell 0 _ rfl; have n1 := HVb.cell 1 _ rfl; have n2 := HVb.cell 2 _ rfl; have HBb := qa0 (jtwo (jtwo HBa.out hb2) (jlow w2 (.cells #[.int .i64 0, .int .i64 0, .int .i64 0] 26))); clear hb2 HVa2 HVb))
   | (go_at_call 11; go_loud (refine (qgf _ x3 x4 T.length _ _ (fun j => T.getD j sy0) HX2.out HY2.out (by omega)).mono ?_; rintro e w3 ⟨rfl, hb3⟩; have HBc := qa0 (jtwo HBb.out hb3); clear hb3))
   | (go_at_call 12; go_loud (refine (HAn.out _ HBc.out).mono ?_; rintro e w4 ⟨rfl, hb4⟩; have HBd := qa0 (jtwo HBc.out hb4); clear hb4)))
  go_ret
  exact ⟨rfl, HBd.out⟩
theorem lifted (os : Os) (started : os.Started) (H : Type) (enc : TypeId × Value → H) :
  ReturnsInHanded {} Tryd.checked os 3 .any (fun w args => (Rows.namesTablesSpec.pre enc Tryd.prog Tryd.f3 [] false w args ∧ laidMetH Tryd.prog laidL w) ∧ sizedMet enc Tryd.prog Tryd.f3 (OpenSpec.ofChange Rows.namesTablesSpec) false w args)
   (Rows.namesTablesSpec.post enc Tryd.prog Tryd.f3 false true false false) := by
 refine returnsInHanded_of_change_and (C := Tryd.checked) (X := fun w _ => laidMetH Tryd.prog laidL w) (fun _ _ _ hh h => h.of_heap hh) own started (by kernel_rfl) Tryd.func3
  (ChangeSpec.witness_shaped (enc := enc) (C := Tryd.checked) (os := os) (X := fun w _ => laidMetH Tryd.prog laidL w) false (World.doorLaid Tryd.prog 4000 os) #[.slice none 0 0] 8 rfl (World.shaped_of_RefB (by kernel_rfl) (by kernel_rfl)) (by kernel_rfl) (by kernel_rfl) (by kernel_rfl) (door_met os _)) ?_
 intro W base args ds gs before hval0 hW hcnd hsz0 hL _
 have hsz : (DataW.weightsEach Tryd.prog (Tryd.f3.params.toList ++ Rows.namesTablesSpec.plain.varTypes Tryd.prog) (ds ++ gs)).all (· ≤ reachBytes) = true := hsz0
 clear hsz0
 have hval : ∀ (j : Nat) t v, Tryd.f3.params[j]? = some t → args[j]? = some v → Value.okWide Tryd.prog W .any base t v := hval0
 have hW' := hW
 obtain ⟨p, q, hA0, hV, rfl, hfz, hnd⟩ := hW
 have hA : DataW.TrodAll enc Tryd.prog W 0 (fun _ => true) true Tryd.f3.params.toList args.toList ds p := hA0
 rw [Tryd.params3] at hA hval hsz
 obtain ⟨va0, vs0, d0, ds0, p0, q0, hargs0, rfl, rfl, h0, tr0⟩ := trodAll_cons hA
 obtain ⟨rfl, rfl, rfl⟩ := trodAll_nil tr0
 obtain rfl : args = #[va0] := by cases args; simp_all
 obtain ⟨rfl, rfl⟩ := trodVars_none hV
 have k0 := h0
 have lt0 : ∀ x ∈ p0, x.block < W.heap.size := by obtain ⟨m, hm⟩ := k0; exact DataW.trod_lt m _ _ _ hm
 have hL0 := hL
 rw [MakeChecks.laidMetH_plain _ _ _ (by kernel_rfl)] at hL0
 obtain ⟨a0, len0, cap0, F0, rfl, l0, w0⟩ : ∃ (a : Option Addr) (len cap : Nat) (F : Nat → It), va0 = .slice a len cap ∧ len ≤ 549755813888 ∧ Its W a len F := by
  obtain ⟨fuel, hf⟩ := h0
  obtain ⟨a, len, cap, rfl⟩ := okWide_slice Tryd.underlying22 (hval 0 22 va0 rfl rfl)
  exact its_in (by simpa [Value.cells] using hf) (List.all_eq_true.2 fun n hn => List.all_eq_true.1 hsz n (DataW.weights_mem_each (j := 0) rfl rfl n hn))
 have c0 : len0 ≤ cap0 := by
  obtain ⟨fuel, hf⟩ := h0
  exact cap_in (fuel := fuel) (by simpa [Value.cells] using hf)
 clear hA0 hval0
 refine (walk a0 len0 cap0 F0 W w0 l0 c0 (of_words hL0)).mono fun e W' ⟨he, bel⟩ => ?_
 subst he
 exact ⟨_, rfl, _, _, _, [], _, [], hW', trodAll_mk1 (shut_bool Tryd.underlying4 _), (trodAll_cons_mk (Below.trod laidOut (by kernel_rfl) (of_decide_eq_true (by kernel_rfl)) k0 bel lt0) trodAll_mk0), rfl, bel.frame _, fun h => by cases h⟩
theorem over : Rows.NamesTablesSaid :=
 OpenClaim.holds_of_wide 3 Tryd.f3 rfl rfl rfl rfl rfl rfl rfl ⟨rfl, rfl, rfl, rfl, rfl⟩ rfl rfl rfl rfl rfl (by kernel_rfl) Tryd.func3 (by kernel_rfl)
  (of_decide_eq_true (by kernel_rfl)) (by unfold Func.isWrapper; first | (rw [if_pos (by decide +kernel)]; kernel_rfl) | (rw [if_neg (by decide +kernel)]; exact ⟨rfl, rfl⟩))
  (fun os started H enc _ => lifted os started H enc)
theorem proved : Rows.NamesTablesCardSaid :=
 Claim7.holds_tied_plain_at .later [] [.data] true (true, "cb96c78dc449a60ff3d87b454051880e732b7ed7f30712d5013391cc80f9a798") false
  over (fun _ h => by cases h) (by kernel_rfl) (fun _ h => by cases h) namesTables_row_tie rfl ⟨rfl, rfl⟩ (by kernel_rfl) rfl
  (fun f fn hf hfn => by
   obtain rfl : f = 3 := Option.some.inj ((show Tryd.prog.funcNamed "recoup/recouplaw13.NamesTables" = some 3 by kernel_rfl).symm.trans hf) |>.symm
   obtain rfl : fn = Tryd.f3 := (Option.some.inj (Tryd.func3.symm.trans hfn)).symm
   exact ⟨by kernel_rfl, fun j t ht => by
    rw [Tryd.params3] at ht
    have hm : t ∈ [22] := by simpa using Array.mem_of_getElem? ht
    have hall : ([22].all fun u => !Tryd.prog.wantsStandIn u) = true := by kernel_rfl
    exact (show Tryd.prog.wantsStandIn t = false by simpa using List.all_eq_true.1 hall t hm)⟩)
  (by kernel_rfl)
#print axioms proved
end Go.Proofs.YtemhodenkgngmaaDoor.namesTables
