/-
  Proved: for every expression and every environment the program's Eval answers the document's number, or its fault with its place (P12.2); no condition.
-/
import Derived.Test.YtgmndjbicandfaaDoorN1n
import Derived.Test.YtgmndjbicandfaaDoorTie
import Derived.Test.YtgmndjbicandfaaDoorCards
import Derived.Test.YtgmndjbicandfaaDoorN1k
import Derived.WalkKit
import Derived.SizedLaws
import Derived.ProofKit
import Derived.LaidMore
import Derived.OpenShut
import Derived.ShutString
import Derived.ChangeOld
import Derived.Below
import Derived.Stop.Joined
import Derived.SevenTiedAt
import Derived.Lib.SmallJoins
import Derived.Lib.LaidTab
import Derived.MakeChecks
import Derived.Handed
import Derived.Stop.LaidErr
namespace Go.Proofs.YtgmndjbicandfaaDoor.numberEvals
open Go.ChangeShapes Go.WideShapes Go.ChangeAt Go.RowKit Go.Joins
set_option linter.unusedVariables false
theorem own : ownKnob Tryd.prog.godebug = none := by kernel_rfl
theorem laidOut : laidOutB Tryd.prog = true := by kernel_rfl
/-- What the listed variables hold. -/
def laidL : List (String × DataW Unit) := [("recoup/token.words", Rows.laid_recoup_token_words)]
theorem door_met (os : Os) (args : Array Value) : laidMetH Tryd.prog laidL ((World.doorLaid Tryd.prog 4000 os).forCall (fun _ _ => 0) ⟨#[], args, []⟩).memory :=
  laidMetH_of_parts3 (fuel := 8) (laidMet_of_run' 8 (by kernel_rfl) (by kernel_rfl)) (by kernel_rfl) (by kernel_rfl)
theorem gWds : Tryd.prog.globalNamed "recoup/token.words" = some 0 := by kernel_rfl
theorem tWds : (Tryd.prog.globals[0]?).map (·.type) = some 117 := by kernel_rfl
theorem dWds : (Rows.laid_recoup_token_words : DataW Unit) = .agg ((wds.map fun x => x.data.toList).map fun z => .lit (.string z)) := by kernel_rfl
theorem of_words {W : World} (h : laidMet Tryd.prog laidL W) : Wt9 W := by
  have hk := h
  obtain ⟨ps, ⟨g0, t0, cs0, f0, p0, q0, hg0, ht0, hv0, hd0, _, _⟩, _, _⟩ := hk
  obtain rfl := Option.some.inj (gWds.symm.trans hg0)
  obtain rfl := Option.some.inj (tWds.symm.trans ht0)
  rw [dWds] at hd0
  have hc := cells_of_texts Tryd.underlying117 Tryd.underlying9 (by kernel_rfl) (by kernel_rfl) hd0
  unfold Wt9
  rw [hv0]
  obtain ⟨l⟩ := cs0
  have hl : l = wds.map Value.string := hc.trans (by kernel_rfl)
  rw [hl]
set_option maxRecDepth 20000 in
set_option maxHeartbeats 2000000 in
theorem walk (v0 : Value) (T0 : Xt) (a1 : Option Addr) (len1 cap1 : Nat) (F1 : Nat → Cn) (w : World) (w0 : XV w v0 T0) (w1 : EL w a1 len1 F1) (l1 : len1 ≤ 5864062014634) (t1 : Wt9 w) :
    Calls Tryd.prog 3 #[v0, .slice a1 len1 cap1] w fun e w' => e = .returned (.bool true) ∧ Below w.heap.size w w' := by
  have H1 : Hid (∀ w' : World, Below w.heap.size w w' → Calls Tryd.prog 8 #[v0, .slice a1 len1 cap1] w' fun e w'' => e = .returned (vtV (evl F1 len1 T0)) ∧ Below w'.heap.size w' w'') := fun w' hb => eval_any w' T0 v0 a1 len1 cap1 F1 (w0.later hb) (w1.later hb) (by omega) (t1.later hb)
  have H2 : Hid (∀ w' : World, Below w.heap.size w w' → Calls Tryd.prog 9 #[v0, .slice a1 len1 cap1] w' fun e w'' => e = .returned (vtV (evl F1 len1 T0)) ∧ Below w'.heap.size w' w'') := fun w' hb => reval_any w' T0 v0 a1 len1 cap1 F1 (w0.later hb) (w1.later hb) (by omega)
  generalize evl F1 len1 T0 = V at *
  obtain ⟨vv, vc, vl, vk⟩ := V
  unfold vtV at H1 H2
  dsimp only at H1 H2
  obtain ⟨⟨a, cap, rfl, _⟩, _⟩ := w0
  generalize T0 [] = l at *
  obtain ⟨k, n, nm, len, ln, cl⟩ := l
  dsimp only at H1 H2 ⊢
  clear w1 t1
  have HX := jhid9 (Vn.new w 25 #[.int .u8 (k : Int), .int .i64 n, .string nm, .slice a len cap, .int .i64 ln, .int .i64 cl])
  have HB := jhid9 (jlow w (.cells #[.int .u8 (k : Int), .int .i64 n, .string nm, .slice a len cap, .int .i64 ln, .int .i64 cl] 25))
  have c0 := HX.out.cell 0 _ rfl
  have c1 := HX.out.cell 1 _ rfl
  have c2 := HX.out.cell 2 _ rfl
  have c3 := HX.out.cell 3 _ rfl
  have c4 := HX.out.cell 4 _ rfl
  have c5 := HX.out.cell 5 _ rfl
  have heq := eql_f12
  have hng := nguard_f12
  have M1 : True := trivial
  have M2 : True := trivial
  go_enter Tryd.func3, Tryd.ntmps3
  go_wp2_with (first
    | (go_at_call 8; refine (H1.out _ HB.out).mono ?_; rintro e w2 ⟨rfl, hb2⟩; have HB2 := jhid9 (jtwo HB.out hb2); have HX2 := jhid9 (HX.out.later hb2); clear hb2)
    | (go_at_call 9; refine (H2.out _ HB3.out).mono ?_; rintro e w4 ⟨rfl, hb4⟩; have HB4 := jhid9 (jtwo HB3.out hb4); have HG4 := jhid9 (HG3.out.later hb4); clear hb4)
    | (clear M1; refine wpList_store_vn rfl 29 _ _ rfl w2.heap.size _ #[.int .i64 (vc : Int), .int .i64 vl, .int .i64 vk] rfl rfl (Vn.new w2 _ _) sizeFau rfl (all3 rfl rfl rfl) ?_; intro w3 HG3 hg3; have hb3 : Below w2.heap.size w2 w3 := (jlow _ _).trans (jbelow hg3.out (jlow _ _).size (fun g e => by cases e; exact Nat.le_refl _)); have HB3 := jhid9 (jtwo HB2.out hb3); have HX3 := jhid9 (HX2.out.later hb3); have y0 := HX3.out.cell 0 _ rfl; have y1 := HX3.out.cell 1 _ rfl; have y2 := HX3.out.cell 2 _ rfl; have y3 := HX3.out.cell 3 _ rfl; have y4 := HX3.out.cell 4 _ rfl; have y5 := HX3.out.cell 5 _ rfl; clear hg3 hb3)
    | (clear M2; refine wpList_store_vn rfl 29 _ _ rfl w4.heap.size _ #[.int .i64 (vc : Int), .int .i64 vl, .int .i64 vk] rfl rfl (Vn.new w4 _ _) sizeFau rfl (all3 rfl rfl rfl) ?_; intro w5 HG5 hg5; have hb5 : Below w4.heap.size w4 w5 := (jlow _ _).trans (jbelow hg5.out (jlow _ _).size (fun g e => by cases e; exact Nat.le_refl _)); have HB5 := jhid9 (jtwo HB4.out hb5); have HK5 := jhid9 (HG4.out.later hb5); have m0 := HG5.out.cell 0 _ rfl; have m1 := HG5.out.cell 1 _ rfl; have m2 := HG5.out.cell 2 _ rfl; have r0 := HK5.out.cell 0 _ rfl; have r1 := HK5.out.cell 1 _ rfl; have r2 := HK5.out.cell 2 _ rfl; clear hg5 hb5))
  go_ret
  exact ⟨by simp, HB5.out⟩
set_option maxRecDepth 100000 in
set_option maxHeartbeats 2000000 in
theorem lifted (os : Os) (started : os.Started) (H : Type) (enc : TypeId × Value → H) :
    ReturnsInHanded {} Tryd.checked os 3 .any (fun w args => (Rows.numberEvalsSpec.pre enc Tryd.prog Tryd.f3 [] false w args ∧ laidMetH Tryd.prog laidL w) ∧ sizedMet enc Tryd.prog Tryd.f3 (OpenSpec.ofChange Rows.numberEvalsSpec) false w args)
      (Rows.numberEvalsSpec.post enc Tryd.prog Tryd.f3 false true false false) := by
  refine returnsInHanded_of_change_and (C := Tryd.checked) (X := fun w _ => laidMetH Tryd.prog laidL w) (fun _ _ _ hh h => h.of_heap hh) own started (by kernel_rfl) Tryd.func3
    (ChangeSpec.witness_shaped (enc := enc) (C := Tryd.checked) (os := os) (X := fun w _ => laidMetH Tryd.prog laidL w) false (World.doorLaid Tryd.prog 4000 os) #[.agg #[.int .u8 0, .int .i64 0, .string ⟨#[]⟩, .slice none 0 0, .int .i64 0, .int .i64 0], .slice none 0 0] 8 rfl (World.shaped_of_RefB (by kernel_rfl) (by kernel_rfl)) (by kernel_rfl) (by kernel_rfl) (by kernel_rfl) (door_met os _)) ?_
  intro W base args ds gs before hval0 hW hcnd hsz0 hL _
  have hsz : (DataW.weightsEach Tryd.prog (Tryd.f3.params.toList ++ Rows.numberEvalsSpec.plain.varTypes Tryd.prog) (ds ++ gs)).all (· ≤ reachBytes) = true := hsz0
  clear hsz0
  have hval : ∀ (j : Nat) t v, Tryd.f3.params[j]? = some t → args[j]? = some v → Value.okWide Tryd.prog W .any base t v := hval0
  have hW' := hW
  obtain ⟨p, q, hA0, hV, rfl, hfz, hnd⟩ := hW
  have hA : DataW.TrodAll enc Tryd.prog W 0 (fun _ => true) true Tryd.f3.params.toList args.toList ds p := hA0
  rw [Tryd.params3] at hA hval hsz
  obtain ⟨va0, vs0, d0, ds0, p0, q0, hargs0, rfl, rfl, h0, tr0⟩ := trodAll_cons hA
  obtain ⟨va1, vs1, d1, ds1, p1, q1, hargs1, rfl, rfl, h1, tr1⟩ := trodAll_cons tr0
  obtain ⟨rfl, rfl, rfl⟩ := trodAll_nil tr1
  obtain rfl : args = #[va0, va1] := by cases args; simp_all
  obtain ⟨rfl, rfl⟩ := trodVars_none hV
  have k0 := h0
  have lt0 : ∀ x ∈ p0, x.block < W.heap.size := by obtain ⟨m, hm⟩ := k0; exact DataW.trod_lt m _ _ _ hm
  have k1 := h1
  have lt1 : ∀ x ∈ p1, x.block < W.heap.size := by obtain ⟨m, hm⟩ := k1; exact DataW.trod_lt m _ _ _ hm
  have hL0 := hL
  rw [MakeChecks.laidMetH_plain _ _ _ (by kernel_rfl)] at hL0
  obtain ⟨T0, w0⟩ : ∃ T : Xt, XV W va0 T := by
    obtain ⟨fuel, hf⟩ := h0
    obtain ⟨cs, rfl, _⟩ := okWide_struct Tryd.underlying25 (hval 0 25 va0 rfl rfl)
    obtain ⟨T, hT⟩ := x_in fuel cs.toList _ (by simpa [Value.cells] using hf) (List.all_eq_true.2 fun n hn => List.all_eq_true.1 hsz n (DataW.weights_mem_each (j := 0) rfl rfl n hn))
    exact ⟨T, by simpa using hT.value⟩
  obtain ⟨a1, len1, cap1, F1, rfl, l1, w1⟩ : ∃ (a : Option Addr) (len cap : Nat) (F : Nat → Cn), va1 = .slice a len cap ∧ len ≤ 5864062014634 ∧ EL W a len F := by
    obtain ⟨fuel, hf⟩ := h1
    obtain ⟨a, len, cap, rfl⟩ := okWide_slice Tryd.underlying26 (hval 1 26 va1 rfl rfl)
    exact env_in (by simpa [Value.cells] using hf) (List.all_eq_true.2 fun n hn => List.all_eq_true.1 hsz n (DataW.weights_mem_each (j := 1) rfl rfl n hn))
  clear hA0 hval0
  refine (walk va0 T0 a1 len1 cap1 F1 W w0 w1 l1 (of_words hL0)).mono fun e W' ⟨he, bel⟩ => ?_
  subst he
  exact ⟨_, rfl, _, _, _, [], _, [], hW', trodAll_mk1 (shut_bool Tryd.underlying4 _), (trodAll_cons_mk (Below.trod laidOut (by kernel_rfl) (of_decide_eq_true (by kernel_rfl)) k0 bel lt0) (trodAll_cons_mk (Below.trod laidOut (by kernel_rfl) (of_decide_eq_true (by kernel_rfl)) k1 bel lt1) trodAll_mk0)), rfl, bel.frame _, fun h => by cases h⟩
theorem over : Rows.NumberEvalsSaid :=
  OpenClaim.holds_of_wide 3 Tryd.f3 rfl rfl rfl rfl rfl rfl rfl ⟨rfl, rfl, rfl, rfl, rfl⟩ rfl rfl rfl rfl rfl (by kernel_rfl) Tryd.func3 (by kernel_rfl)
    (of_decide_eq_true (by kernel_rfl)) (by unfold Func.isWrapper; first | (rw [if_pos (by decide +kernel)]; kernel_rfl) | (rw [if_neg (by decide +kernel)]; exact ⟨rfl, rfl⟩))
    (fun os started H enc _ => lifted os started H enc)
theorem proved : Rows.NumberEvalsCardSaid :=
  Claim7.holds_tied_plain_at .later [] [.data] true (true, "1329221dac406c43c15575f849f7c51730e5667f4e56abb764632b948d968ae6") false
    over (fun _ h => by cases h) (by kernel_rfl) (fun _ h => by cases h) numberEvals_row_tie rfl ⟨rfl, rfl⟩ (by kernel_rfl) rfl
    (fun f fn hf hfn => by
      obtain rfl : f = 3 := Option.some.inj ((show Tryd.prog.funcNamed "recoup/recouplaw12.NumberEvals" = some 3 by kernel_rfl).symm.trans hf) |>.symm
      obtain rfl : fn = Tryd.f3 := (Option.some.inj (Tryd.func3.symm.trans hfn)).symm
      exact ⟨by kernel_rfl, fun j t ht => by
        rw [Tryd.params3] at ht
        have hm : t ∈ [25, 26] := by simpa using Array.mem_of_getElem? ht
        have hall : ([25, 26].all fun u => !Tryd.prog.wantsStandIn u) = true := by kernel_rfl
        exact (show Tryd.prog.wantsStandIn t = false by simpa using List.all_eq_true.1 hall t hm)⟩)
    (by kernel_rfl)
#print axioms proved
end Go.Proofs.YtgmndjbicandfaaDoor.numberEvals
