/-
  Proved: for all descriptions: the text of a description, of each item's value and of each item's shape is the document's, or the error is (P10.3); no condition.
-/
import Derived.Test.YtdimkfcanegahaaDoorFh
import Derived.Test.YtdimkfcanegahaaDoorTie
import Derived.Test.YtdimkfcanegahaaDoorCards
import Derived.Test.YtdimkfcanegahaaDoorFi
import Derived.Test.YtdimkfcanegahaaDoorDt
import Derived.Test.YtdimkfcanegahaaDoorDh
import Derived.WalkKit
import Derived.SizedLaws
import Derived.ProofKit
import Derived.LaidMore
import Derived.OpenShut
import Derived.ShutString
import Derived.ChangeOld
import Derived.Below
import Derived.Stop.Joined
import Derived.SevenTiedAt
import Derived.Lib.SmallJoins
import Derived.Lib.LaidTab
import Derived.MakeChecks
import Derived.Handed
import Derived.Stop.LaidErr
namespace Go.Proofs.YtdimkfcanegahaaDoor.treeTexts
open Go.ChangeShapes Go.WideShapes Go.ChangeAt Go.RowKit Go.Joins
set_option linter.unusedVariables false
theorem own : ownKnob Tryd.prog.godebug = none := by kernel_rfl
theorem laidOut : laidOutB Tryd.prog = true := by kernel_rfl
/-- What the listed variables hold. -/
def laidL : List (String × DataW Unit) := [("math/bits.deBruijn32tab", Rows.laid_math_bits_deBruijn32tab), ("math/bits.deBruijn64tab", Rows.laid_math_bits_deBruijn64tab), ("internal/strconv.uint64pow10", Rows.laid_internal_strconv_uint64pow10), ("recoup/token.words", Rows.laid_recoup_token_words), ("recoup/tree.exprSigns", Rows.laid_recoup_tree_exprSigns), ("recoup/tree.shapeWords", Rows.laid_recoup_tree_shapeWords), ("recoup/tree.itemWords", Rows.laid_recoup_tree_itemWords), ("recoup/tree.placeWords", Rows.laid_recoup_tree_placeWords)]
theorem door_met (os : Os) (args : Array Value) : laidMetH Tryd.prog laidL ((World.doorLaid Tryd.prog 4000 os).forCall (fun _ _ => 0) ⟨#[], args, []⟩).memory :=
  laidMetH_of_parts3 (fuel := 8) (laidMet_of_run' 8 (by kernel_rfl) (by kernel_rfl)) (by kernel_rfl) (by kernel_rfl)
theorem gTab : Tryd.prog.globalNamed "internal/strconv.uint64pow10" = some 5 := by kernel_rfl
theorem tTab : (Tryd.prog.globals[5]?).map (·.type) = some 127 := by kernel_rfl
theorem dTab : (Rows.laid_internal_strconv_uint64pow10 : DataW Unit) = Lib.tabData .u64 Lib.pow10Tab := by kernel_rfl
theorem of_pow {W : World} (h : laidMet Tryd.prog laidL W) : Tab9 W := by
  have hk := h.tail.tail
  rw [dTab] at hk
  exact Lib.tabIs_of_head gTab tTab Tryd.underlying127 Tryd.underlying120 (by kernel_rfl) (by kernel_rfl) hk
theorem gWds : Tryd.prog.globalNamed "recoup/token.words" = some 4 := by kernel_rfl
theorem tWds : (Tryd.prog.globals[4]?).map (·.type) = some 117 := by kernel_rfl
theorem dWds : (Rows.laid_recoup_token_words : DataW Unit) = .agg ((wds.map fun x => x.data.toList).map fun z => .lit (.string z)) := by kernel_rfl
theorem of_words {W : World} (h : laidMet Tryd.prog laidL W) : Wt9 W := by
  have hk := h.tail.tail.tail
  obtain ⟨ps, ⟨g0, t0, cs0, f0, p0, q0, hg0, ht0, hv0, hd0, _, _⟩, _, _⟩ := hk
  obtain rfl := Option.some.inj (gWds.symm.trans hg0)
  obtain rfl := Option.some.inj (tWds.symm.trans ht0)
  rw [dWds] at hd0
  have hc := cells_of_texts Tryd.underlying117 Tryd.underlying9 (by kernel_rfl) (by kernel_rfl) hd0
  unfold Wt9
  rw [hv0]
  obtain ⟨l⟩ := cs0
  have hl : l = wds.map Value.string := hc.trans (by kernel_rfl)
  rw [hl]
theorem gXs10 : Tryd.prog.globalNamed "recoup/tree.exprSigns" = some 1 := by kernel_rfl
theorem tXs10 : (Tryd.prog.globals[1]?).map (·.type) = some 90 := by kernel_rfl
theorem dXs10 : (Rows.laid_recoup_tree_exprSigns : DataW Unit) = .agg ((xsg.map fun x => x.data.toList).map fun z => .lit (.string z)) := by kernel_rfl
theorem of_Xs10 {W : World} (h : laidMet Tryd.prog laidL W) : Xs10 W := by
  have hk := h.tail.tail.tail.tail
  obtain ⟨ps, ⟨g0, t0, cs0, f0, p0, q0, hg0, ht0, hv0, hd0, _, _⟩, _, _⟩ := hk
  obtain rfl := Option.some.inj (gXs10.symm.trans hg0)
  obtain rfl := Option.some.inj (tXs10.symm.trans ht0)
  rw [dXs10] at hd0
  have hc := cells_of_texts Tryd.underlying90 Tryd.underlying9 (by kernel_rfl) (by kernel_rfl) hd0
  unfold Xs10
  rw [hv0]
  obtain ⟨l⟩ := cs0
  have hl : l = xsg.map Value.string := hc.trans (by kernel_rfl)
  rw [hl]
theorem gSw10 : Tryd.prog.globalNamed "recoup/tree.shapeWords" = some 2 := by kernel_rfl
theorem tSw10 : (Tryd.prog.globals[2]?).map (·.type) = some 90 := by kernel_rfl
theorem dSw10 : (Rows.laid_recoup_tree_shapeWords : DataW Unit) = .agg ((swd.map fun x => x.data.toList).map fun z => .lit (.string z)) := by kernel_rfl
theorem of_Sw10 {W : World} (h : laidMet Tryd.prog laidL W) : Sw10 W := by
  have hk := h.tail.tail.tail.tail.tail
  obtain ⟨ps, ⟨g0, t0, cs0, f0, p0, q0, hg0, ht0, hv0, hd0, _, _⟩, _, _⟩ := hk
  obtain rfl := Option.some.inj (gSw10.symm.trans hg0)
  obtain rfl := Option.some.inj (tSw10.symm.trans ht0)
  rw [dSw10] at hd0
  have hc := cells_of_texts Tryd.underlying90 Tryd.underlying9 (by kernel_rfl) (by kernel_rfl) hd0
  unfold Sw10
  rw [hv0]
  obtain ⟨l⟩ := cs0
  have hl : l = swd.map Value.string := hc.trans (by kernel_rfl)
  rw [hl]
theorem gIw10 : Tryd.prog.globalNamed "recoup/tree.itemWords" = some 0 := by kernel_rfl
theorem tIw10 : (Tryd.prog.globals[0]?).map (·.type) = some 86 := by kernel_rfl
theorem dIw10 : (Rows.laid_recoup_tree_itemWords : DataW Unit) = .agg ((iwl.map fun x => x.data.toList).map fun z => .lit (.string z)) := by kernel_rfl
theorem of_Iw10 {W : World} (h : laidMet Tryd.prog laidL W) : Iw10 W := by
  have hk := h.tail.tail.tail.tail.tail.tail
  obtain ⟨ps, ⟨g0, t0, cs0, f0, p0, q0, hg0, ht0, hv0, hd0, _, _⟩, _, _⟩ := hk
  obtain rfl := Option.some.inj (gIw10.symm.trans hg0)
  obtain rfl := Option.some.inj (tIw10.symm.trans ht0)
  rw [dIw10] at hd0
  have hc := cells_of_texts Tryd.underlying86 Tryd.underlying9 (by kernel_rfl) (by kernel_rfl) hd0
  unfold Iw10
  rw [hv0]
  obtain ⟨l⟩ := cs0
  have hl : l = iwl.map Value.string := hc.trans (by kernel_rfl)
  rw [hl]
theorem gPw10 : Tryd.prog.globalNamed "recoup/tree.placeWords" = some 3 := by kernel_rfl
theorem tPw10 : (Tryd.prog.globals[3]?).map (·.type) = some 106 := by kernel_rfl
theorem dPw10 : (Rows.laid_recoup_tree_placeWords : DataW Unit) = .agg ((pwl.map fun x => x.data.toList).map fun z => .lit (.string z)) := by kernel_rfl
theorem of_Pw10 {W : World} (h : laidMet Tryd.prog laidL W) : Pw10 W := by
  have hk := h.tail.tail.tail.tail.tail.tail.tail
  obtain ⟨ps, ⟨g0, t0, cs0, f0, p0, q0, hg0, ht0, hv0, hd0, _, _⟩, _, _⟩ := hk
  obtain rfl := Option.some.inj (gPw10.symm.trans hg0)
  obtain rfl := Option.some.inj (tPw10.symm.trans ht0)
  rw [dPw10] at hd0
  have hc := cells_of_texts Tryd.underlying106 Tryd.underlying9 (by kernel_rfl) (by kernel_rfl) hd0
  unfold Pw10
  rw [hv0]
  obtain ⟨l⟩ := cs0
  have hl : l = pwl.map Value.string := hc.trans (by kernel_rfl)
  rw [hl]

set_option maxRecDepth 20000 in
set_option maxHeartbeats 8000000 in
theorem walk (a0 : Option Addr) (len0 cap0 : Nat) (F0 : Nat → It) (w : World) (w0 : Its w a0 len0 F0) (l0 : len0 ≤ 549755813888) (t0 : Tab9 w) (t1 : Wt9 w) (t2 : Xs10 w) (t3 : Sw10 w) (t4 : Iw10 w) (t5 : Pw10 w) :
    Calls Tryd.prog 5 #[.slice a0 len0 cap0] w fun e w' => e = .returned (.bool true) ∧ Below w.heap.size w w' := by
  have HI := jhid9 w0
  have HE : Hid (Ev10 w) := ⟨t0, t1, t2, t3, t4, t5⟩
  have HT : Hid (∀ w' : World, Below w.heap.size w w' → Calls Tryd.prog 18 #[.slice a0 len0 cap0] w' fun e w'' => e = .returned (.tuple #[.string (dS F0 len0), .int .i64 (dE F0 len0 : Nat)]) ∧ Below w'.heap.size w' w'') := fun w' hb => ttext10 w' a0 len0 cap0 F0 (HI.out.later hb) l0 (HE.out.later hb)
  have HR : Hid (∀ w' : World, Below w.heap.size w w' → Calls Tryd.prog 19 #[.slice a0 len0 cap0] w' fun e w'' => e = .returned (.tuple #[.string (dS F0 len0), .int .i64 (dE F0 len0 : Nat)]) ∧ Below w'.heap.size w' w'') := fun w' hb => rtext10 w' a0 len0 cap0 F0 (HI.out.later hb) l0 (HE.out.later hb).t0
  have HA : Hid (∀ w' : World, Below w.heap.size w w' → Calls Tryd.prog 9 #[] w' fun e w'' => e = .returned (.bool true) ∧ Below w'.heap.size w' w'') := fun w' hb => anch10_any w' (HE.out.later hb).t0 (HE.out.later hb).t1 (HE.out.later hb).t2
  clear t0 t1 t2 t3 t4 t5 w0
  generalize dS F0 len0 = S0 at *
  generalize dE F0 len0 = E0 at *
  go_enter Tryd.func5, Tryd.ntmps5
  go_wp2_with (first
    | (go_at_call 18; refine (HT.out _ (Below.refl _ _)).mono ?_; rintro e w1 ⟨rfl, hb1⟩; have HB1 := jhid9 hb1; clear hb1)
    | (go_at_call 19; refine (HR.out _ HB1.out).mono ?_; rintro e w2 ⟨rfl, hb2⟩; have HB2 := jhid9 (jtwo HB1.out hb2); clear hb2))
  go_loopw [7] (fun vi wr => ∃ i : Nat, i ≤ len0 ∧ vi = .int .i64 (i : Int) ∧ Below w.heap.size w wr) (fun vi _ => len0 - (intOf vi).toNat)
  case atStart => exact ⟨0, by omega, rfl, HB2.out⟩
  case round =>
    obtain ⟨i, hi, rfl, hb⟩ := hrel
    have HB := jhid9 hb
    by_cases hlt : i < len0
    · have p0 : (0 : Int) ≤ (i : Int) := by omega
      have p1 : (i : Int) < (len0 : Int) := by omega
      obtain ⟨b, o, k, pl, nl, vk, vl, vc, sk, na, ca, np, cp, nr, cr, lc, nm, vm, sm, vn, vln, vcl, sln, scl, ln, cl, va, aa, pa, ra, la, T, S, G, rfl, hF, hT, hS, hG, k8, p8, hnm, hnl, hcl⟩ := HI.out.at_ hlt
      have HX : Hid (∀ w' : World, Below w.heap.size w w' → Calls Tryd.prog 20 #[.agg #[.int .u8 (vk : Int), .int .i64 vn, .string vm, .slice va vl vc, .int .i64 vln, .int .i64 vcl]] w' fun e w'' => e = .returned (.bool true) ∧ Below w'.heap.size w' w'') := fun w' hb => lxtext w' T _ (hT.later hb) (HE.out.later hb).t0 (HE.out.later hb).t1 (HE.out.later hb).t2
      have HS : Hid (∀ w' : World, Below w.heap.size w w' → Calls Tryd.prog 21 #[.agg #[.int .u8 (sk : Int), .string sm, .slice aa na ca, .slice pa np cp, .slice ra nr cr, .int .i64 sln, .int .i64 scl]] w' fun e w'' => e = .returned (.bool true) ∧ Below w'.heap.size w' w'') := fun w' hb => lstext w' S _ (hS.later hb) (HE.out.later hb).t0 (HE.out.later hb).t1 (HE.out.later hb).t2 (HE.out.later hb).t3
      have HRg := jhid9 (hcl _ hb)
      have HRl := jhid9 hcl
      have r2 := HRg.out 2 _ rfl
      have r3 := HRg.out 3 _ rfl
      have r4 := HRg.out 4 _ rfl
      have r5 := HRg.out 5 _ rfl
      have r6 := HRg.out 6 _ rfl
      have r7 := HRg.out 7 _ rfl
      clear hcl hT hS hG hF hb
      go_wp2_with (first
        | (go_at_call 20; refine (HX.out _ HB.out).mono ?_; rintro e w3 ⟨rfl, hb3⟩; have HB3 := jhid9 (jtwo HB.out hb3); clear hb3; have HRh := jhid9 (HRl.out _ HB3.out); have s8 := HRh.out 8 _ rfl; have s9 := HRh.out 9 _ rfl; have s10 := HRh.out 10 _ rfl; have s11 := HRh.out 11 _ rfl; have s12 := HRh.out 12 _ rfl; have s13 := HRh.out 13 _ rfl; have s14 := HRh.out 14 _ rfl)
        | (go_at_call 21; refine (HS.out _ HB3.out).mono ?_; rintro e w4 ⟨rfl, hb4⟩; have HB4 := jhid9 (jtwo HB3.out hb4); clear hb4))
      exact ⟨⟨i + 1, by omega, by go_num, HB4.out⟩, by simp [intOf]; omega⟩
    · obtain rfl : i = len0 := by omega
      clear hb
      go_wp2_with (go_at_call 9; refine (HA.out _ HB.out).mono ?_; rintro e w5 ⟨rfl, hb5⟩; have HB5 := jhid9 (jtwo HB.out hb5); clear hb5)
      go_ret
      exact ⟨rfl, HB5.out⟩
set_option maxRecDepth 100000 in
set_option maxHeartbeats 2000000 in
theorem lifted (os : Os) (started : os.Started) (H : Type) (enc : TypeId × Value → H) :
    ReturnsInHanded {} Tryd.checked os 5 .any (fun w args => (Rows.treeTextsSpec.pre enc Tryd.prog Tryd.f5 [] false w args ∧ laidMetH Tryd.prog laidL w) ∧ sizedMet enc Tryd.prog Tryd.f5 (OpenSpec.ofChange Rows.treeTextsSpec) false w args)
      (Rows.treeTextsSpec.post enc Tryd.prog Tryd.f5 false true false false) := by
  refine returnsInHanded_of_change_and (C := Tryd.checked) (X := fun w _ => laidMetH Tryd.prog laidL w) (fun _ _ _ hh h => h.of_heap hh) own started (by kernel_rfl) Tryd.func5
    (ChangeSpec.witness_shaped (enc := enc) (C := Tryd.checked) (os := os) (X := fun w _ => laidMetH Tryd.prog laidL w) false (World.doorLaid Tryd.prog 4000 os) #[.slice none 0 0] 8 rfl (World.shaped_of_RefB (by kernel_rfl) (by kernel_rfl)) (by kernel_rfl) (by kernel_rfl) (by kernel_rfl) (door_met os _)) ?_
  intro W base args ds gs before hval0 hW hcnd hsz0 hL _
  have hsz : (DataW.weightsEach Tryd.prog (Tryd.f5.params.toList ++ Rows.treeTextsSpec.plain.varTypes Tryd.prog) (ds ++ gs)).all (· ≤ reachBytes) = true := hsz0
  clear hsz0
  have hval : ∀ (j : Nat) t v, Tryd.f5.params[j]? = some t → args[j]? = some v → Value.okWide Tryd.prog W .any base t v := hval0
  have hW' := hW
  obtain ⟨p, q, hA0, hV, rfl, hfz, hnd⟩ := hW
  have hA : DataW.TrodAll enc Tryd.prog W 0 (fun _ => true) true Tryd.f5.params.toList args.toList ds p := hA0
  rw [Tryd.params5] at hA hval hsz
  obtain ⟨va0, vs0, d0, ds0, p0, q0, hargs0, rfl, rfl, h0, tr0⟩ := trodAll_cons hA
  obtain ⟨rfl, rfl, rfl⟩ := trodAll_nil tr0
  obtain rfl : args = #[va0] := by cases args; simp_all
  obtain ⟨rfl, rfl⟩ := trodVars_none hV
  have k0 := h0
  have lt0 : ∀ x ∈ p0, x.block < W.heap.size := by obtain ⟨m, hm⟩ := k0; exact DataW.trod_lt m _ _ _ hm
  have hL0 := hL
  rw [MakeChecks.laidMetH_plain _ _ _ (by kernel_rfl)] at hL0
  obtain ⟨a0, len0, cap0, F0, rfl, l0, w0⟩ : ∃ (a : Option Addr) (len cap : Nat) (F : Nat → It), va0 = .slice a len cap ∧ len ≤ 549755813888 ∧ Its W a len F := by
    obtain ⟨fuel, hf⟩ := h0
    obtain ⟨a, len, cap, rfl⟩ := okWide_slice Tryd.underlying23 (hval 0 23 va0 rfl rfl)
    exact its_in (by simpa [Value.cells] using hf) (List.all_eq_true.2 fun n hn => List.all_eq_true.1 hsz n (DataW.weights_mem_each (j := 0) rfl rfl n hn))
  clear hA0 hval0
  refine (walk a0 len0 cap0 F0 W w0 l0 (of_pow hL0) (of_words hL0) (of_Xs10 hL0) (of_Sw10 hL0) (of_Iw10 hL0) (of_Pw10 hL0)).mono fun e W' ⟨he, bel⟩ => ?_
  subst he
  exact ⟨_, rfl, _, _, _, [], _, [], hW', trodAll_mk1 (shut_bool Tryd.underlying4 _), (trodAll_cons_mk (Below.trod laidOut (by kernel_rfl) (of_decide_eq_true (by kernel_rfl)) k0 bel lt0) trodAll_mk0), rfl, bel.frame _, fun h => by cases h⟩
theorem over : Rows.TreeTextsSaid :=
  OpenClaim.holds_of_wide 5 Tryd.f5 rfl rfl rfl rfl rfl rfl rfl ⟨rfl, rfl, rfl, rfl, rfl⟩ rfl rfl rfl rfl rfl (by kernel_rfl) Tryd.func5 (by kernel_rfl)
    (of_decide_eq_true (by kernel_rfl)) (by unfold Func.isWrapper; first | (rw [if_pos (by decide +kernel)]; kernel_rfl) | (rw [if_neg (by decide +kernel)]; exact ⟨rfl, rfl⟩))
    (fun os started H enc _ => lifted os started H enc)
theorem proved : Rows.TreeTextsCardSaid :=
  Claim7.holds_tied_plain_at .later [] [.data, .data, .data, .data, .data, .data, .data, .data] true (true, "f75ffb74e37c39cd96e6aded352265c1cb9c7583dc056a7ebaffed3d53f4923d") false
    over (fun _ h => by cases h) (by kernel_rfl) (fun _ h => by cases h) treeTexts_row_tie rfl ⟨rfl, rfl⟩ (by kernel_rfl) rfl
    (fun f fn hf hfn => by
      obtain rfl : f = 5 := Option.some.inj ((show Tryd.prog.funcNamed "recoup/recouplaw10.TreeTexts" = some 5 by kernel_rfl).symm.trans hf) |>.symm
      obtain rfl : fn = Tryd.f5 := (Option.some.inj (Tryd.func5.symm.trans hfn)).symm
      exact ⟨by kernel_rfl, fun j t ht => by
        rw [Tryd.params5] at ht
        have hm : t ∈ [23] := by simpa using Array.mem_of_getElem? ht
        have hall : ([23].all fun u => !Tryd.prog.wantsStandIn u) = true := by kernel_rfl
        exact (show Tryd.prog.wantsStandIn t = false by simpa using List.all_eq_true.1 hall t hm)⟩)
    (by kernel_rfl)
#print axioms proved
end Go.Proofs.YtdimkfcanegahaaDoor.treeTexts
