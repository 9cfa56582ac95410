/-
  Proved: for every list of items: the names that the program says are used are the document's, in their order, or its error is (P13.3); no condition.
-/
import Derived.Test.YtemhodenkgngmaaDoorQuues00
import Derived.Test.YtemhodenkgngmaaDoorQuues47
import Derived.Test.YtemhodenkgngmaaDoorTie
import Derived.Test.YtemhodenkgngmaaDoorCards
import Derived.Test.YtemhodenkgngmaaDoorQuues50
import Derived.WalkKit
import Derived.SizedLaws
import Derived.ProofKit
import Derived.LaidMore
import Derived.OpenShut
import Derived.ShutString
import Derived.ChangeOld
import Derived.Below
import Derived.Stop.Joined
import Derived.SevenTiedAt
import Derived.Lib.SmallJoins
import Derived.Lib.LaidTab
import Derived.MakeChecks
import Derived.Handed
import Derived.Stop.LaidErr
set_option maxRecDepth 100000
set_option maxHeartbeats 16000000
namespace Go.Proofs.YtemhodenkgngmaaDoor.namesUses
open Go.ChangeShapes Go.WideShapes Go.ChangeAt Go.RowKit Go.Joins
set_option linter.unusedVariables false
theorem own : ownKnob Tryd.prog.godebug = none := by kernel_rfl
theorem laidOut : laidOutB Tryd.prog = true := by kernel_rfl
/-- What the listed variables hold. -/
def laidL : List (String × DataW Unit) := [("recoup/token.words", Rows.laid_recoup_token_words)]
theorem door_met (os : Os) (args : Array Value) : laidMetH Tryd.prog laidL ((World.doorLaid Tryd.prog 4000 os).forCall (fun _ _ => 0) ⟨#[], args, []⟩).memory :=
 laidMetH_of_parts3 (fuel := 8) (laidMet_of_run' 8 (by kernel_rfl) (by kernel_rfl)) (by kernel_rfl) (by kernel_rfl)
theorem gWds : Tryd.prog.globalNamed "recoup/token.words" = some 0 := by kernel_rfl
theorem tWds : (Tryd.prog.globals[0]?).map (·.type) = some 165 := by kernel_rfl
theorem dWds : (Rows.laid_recoup_token_words : DataW Unit) = .agg ((wds.map fun x => x.data.toList).map fun z => .lit (.string z)) := by kernel_rfl
theorem of_words {W : World} (h : laidMet Tryd.prog laidL W) : Wt9 W := by
 have hk := h
 obtain ⟨ps, ⟨g0, t0, cs0, f0, p0, q0, hg0, ht0, hv0, hd0, _, _⟩, _, _⟩ := hk
 obtain rfl := Option.some.inj (gWds.symm.trans hg0)
 obtain rfl := Option.some.inj (tWds.symm.trans ht0)
 rw [dWds] at hd0
 have hc := qc9 Tryd.underlying165 Tryd.underlying9 (by kernel_rfl) (by kernel_rfl) hd0
 unfold Wt9
 rw [hv0]
 obtain ⟨l⟩ := cs0
 have hl : l = wds.map Value.string := hc.trans (by kernel_rfl)
 rw [hl]
theorem uses_triv : True := trivial

theorem walk (a0 : Option Addr) (len0 cap0 : Nat) (F0 : Nat → It) (w : World) (w0 : Its w a0 len0 F0) (l0 : len0 ≤ 549755813888) (c0 : len0 ≤ cap0) (t1 : Wt9 w) :
  Calls Tryd.prog 5 #[.slice a0 len0 cap0] w fun e w' => e = .returned (.bool true) ∧ Below w.heap.size w w' := by
 have HI := qa0 w0
 have HW := qa0 t1
 have HAn : Hid (∀ w' : World, Below w.heap.size w w' → Calls Tryd.prog 12 #[] w' fun e w'' => e = .returned (.bool true) ∧ Below w'.heap.size w' w'') := fun w' hb => qem w' (HW.out.later hb)
 cases hm : mayD F0 len0 with
 | false =>
  have H1 : Hid (∀ w' : World, Below w.heap.size w w' → Calls Tryd.prog 17 #[.slice a0 len0 cap0] w' fun e w'' => e = .returned (.tuple #[.slice none 0 0, .int .i64 2]) ∧ Below w'.heap.size w' w'') := fun w' hb => qfv w' a0 len0 cap0 F0 (HI.out.later hb) l0 (HW.out.later hb) hm
  have H2 : Hid (∀ w' : World, Below w.heap.size w w' → Calls Tryd.prog 18 #[.slice a0 len0 cap0] w' fun e w'' => e = .returned (.tuple #[.slice none 0 0, .int .i64 2]) ∧ Below w'.heap.size w' w'') := fun w' hb => qfu w' a0 len0 cap0 F0 (HI.out.later hb) l0 hm
  clear w0 t1 hm HI HW
  go_enter Tryd.func5, Tryd.ntmps5
  go_wp2_with (first
   | (go_at_call 17; go_loud (refine (H1.out _ (Below.refl _ _)).mono ?_; rintro e w1 ⟨rfl, hb1⟩; have HB1 := qa0 hb1; clear hb1))
   | (go_at_call 18; go_loud (refine (H2.out _ HB1.out).mono ?_; rintro e w2 ⟨rfl, hb2⟩; have HB2 := qa0 (jtwo HB1.out hb2); clear hb2)))
  go_loopw [7] (fun vi wr => vi = .int .i64 0 ∧ Hid (Below w.heap.size w wr)) (fun _ _ => 0)
  case atStart => exact ⟨rfl, HB2⟩
  case round =>
   obtain ⟨rfl, HB⟩ := hrel
   go_wp2_with (go_at_call 12; go_loud (refine (HAn.out _ HB.out).mono ?_; rintro e w3 ⟨rfl, hb3⟩; have HB3 := qa0 (jtwo HB.out hb3); clear hb3))
   go_ret
   exact ⟨rfl, HB3.out⟩
 | true =>
  obtain ⟨L, HL⟩ : ∃ L, Hid ((nam (usl F0 len0)).mergeSort leB = L) := ⟨_, rfl⟩
  have hll : L.length = (nam (usl F0 len0)).length := by rw [← HL.out, List.length_mergeSort]
  have hLw : L.length ≤ 8192 := by rw [hll]; exact Nat.le_trans (qdj _) (qdi hm)
  have H1 : Hid (∀ w' : World, Below w.heap.size w w' → Calls Tryd.prog 17 #[.slice a0 len0 cap0] w' fun e w'' => (∃ v, e = .returned (.tuple #[v, .int .i64 0]) ∧ w''.ownsRow w'.heap.size 9 1 v L.length (L.map encStr)) ∧ Below w'.heap.size w' w'') := fun w' hb => by
   have h := pused_ok w' a0 len0 cap0 F0 (HI.out.later hb) l0 (HW.out.later hb) hm
   unfold UsA at h
   rw [HL.out, ← hll] at h
   exact h
  have H2 : Hid (∀ w' : World, Below w.heap.size w w' → Calls Tryd.prog 18 #[.slice a0 len0 cap0] w' fun e w'' => (∃ v, e = .returned (.tuple #[v, .int .i64 0]) ∧ w''.ownsRow w'.heap.size 9 1 v L.length (L.map encStr)) ∧ Below w'.heap.size w' w'') := fun w' hb => by
   have h := rused_ok w' a0 len0 cap0 F0 (HI.out.later hb) l0 hm
   unfold Nw at h
   rw [HL.out] at h
   exact h
  clear w0 t1 hm HI HW HL hll
  go_enter Tryd.func5, Tryd.ntmps5
  go_wp2_with (first
   | (go_at_call 17; go_loud (refine (H1.out _ (Below.refl _ _)).mono ?_; rintro e w1 ⟨⟨v, rfl, hr⟩, hb1⟩; obtain ⟨xa, da, rfl, hst⟩ := qfw hr rfl; have HA1 := qa0 hst; have HB1 := qa0 hb1; clear hb1 hr hst))
   | (go_at_call 18; go_loud (refine (H2.out _ HB1.out).mono ?_; rintro e w2 ⟨⟨v, rfl, hr⟩, hb2⟩; obtain ⟨xb, db, rfl, hst⟩ := qfw hr rfl; have HC2 := qa0 hst; have HA2 := qa0 (HA1.out.later hb2); have HB2 := qa0 (jtwo HB1.out hb2); clear hb2 hr hst)))
  go_loopw [7] (fun vi wr => ∃ i : Nat, i ≤ L.length ∧ vi = .int .i64 (i : Int) ∧ Hid (StL wr xa L) ∧ Hid (StL wr xb L) ∧ Hid (Below w.heap.size w wr)) (fun vi _ => L.length - (intOf vi).toNat)
  case atStart => exact ⟨0, by omega, rfl, HA2, HC2, HB2⟩
  case round =>
   obtain ⟨i, hi, rfl, HA, HC, HB⟩ := hrel
   clear HA1 HA2 HC2 HB1 HB2
   by_cases hlt : i < L.length
   ·have p0 : (0 : Int) ≤ (i : Int) := by omega
    have p1 : (i : Int) < (L.length : Int) := by omega
    obtain ⟨x, hx⟩ : ∃ x, L[i]? = some x := ⟨_, List.getElem?_eq_getElem hlt⟩
    obtain ⟨b, o, ex, z0⟩ := HA.out i x hx
    subst ex
    obtain ⟨b2, o2, ex, z1⟩ := HC.out i x hx
    subst ex
    obtain ⟨s, Hs⟩ : ∃ s : ByteArray, Hid (⟨x.toArray⟩ = s) := ⟨_, rfl⟩
    rw [Hs.out] at z0 z1
    clear hx Hs
    go_wp2
    go_quiet (fail)
    go_wp2
    exact ⟨⟨i + 1, by omega, by go_num, HA.out.later (below_drewN (Below.refl _ _) _), HC.out.later (below_drewN (Below.refl _ _) _), below_drewN HB.out _⟩, by simp [intOf]; omega⟩
   ·obtain rfl : i = L.length := by omega
    go_wp2_with (go_at_call 12; go_loud (refine (HAn.out _ HB.out).mono ?_; rintro e w3 ⟨rfl, hb3⟩; have HB3 := qa0 (jtwo HB.out hb3); clear hb3))
    go_ret
    exact ⟨rfl, HB3.out⟩
theorem lifted (os : Os) (started : os.Started) (H : Type) (enc : TypeId × Value → H) :
  ReturnsInHanded {} Tryd.checked os 5 .any (fun w args => (Rows.namesUsesSpec.pre enc Tryd.prog Tryd.f5 [] false w args ∧ laidMetH Tryd.prog laidL w) ∧ sizedMet enc Tryd.prog Tryd.f5 (OpenSpec.ofChange Rows.namesUsesSpec) false w args)
   (Rows.namesUsesSpec.post enc Tryd.prog Tryd.f5 false true false false) := by
 refine returnsInHanded_of_change_and (C := Tryd.checked) (X := fun w _ => laidMetH Tryd.prog laidL w) (fun _ _ _ hh h => h.of_heap hh) own started (by kernel_rfl) Tryd.func5
  (ChangeSpec.witness_shaped (enc := enc) (C := Tryd.checked) (os := os) (X := fun w _ => laidMetH Tryd.prog laidL w) false (World.doorLaid Tryd.prog 4000 os) #[.slice none 0 0] 8 rfl (World.shaped_of_RefB (by kernel_rfl) (by kernel_rfl)) (by kernel_rfl) (by kernel_rfl) (by kernel_rfl) (door_met os _)) ?_
 intro W base args ds gs before hval0 hW hcnd hsz0 hL _
 have hsz : (DataW.weightsEach Tryd.prog (Tryd.f5.params.toList ++ Rows.namesUsesSpec.plain.varTypes Tryd.prog) (ds ++ gs)).all (· ≤ reachBytes) = true := hsz0
 clear hsz0
 have hval : ∀ (j : Nat) t v, Tryd.f5.params[j]? = some t → args[j]? = some v → Value.okWide Tryd.prog W .any base t v := hval0
 have hW' := hW
 obtain ⟨p, q, hA0, hV, rfl, hfz, hnd⟩ := hW
 have hA : DataW.TrodAll enc Tryd.prog W 0 (fun _ => true) true Tryd.f5.params.toList args.toList ds p := hA0
 rw [Tryd.params5] at hA hval hsz
 obtain ⟨va0, vs0, d0, ds0, p0, q0, hargs0, rfl, rfl, h0, tr0⟩ := trodAll_cons hA
 obtain ⟨rfl, rfl, rfl⟩ := trodAll_nil tr0
 obtain rfl : args = #[va0] := by cases args; simp_all
 obtain ⟨rfl, rfl⟩ := trodVars_none hV
 have k0 := h0
 have lt0 : ∀ x ∈ p0, x.block < W.heap.size := by obtain ⟨m, hm⟩ := k0; exact DataW.trod_lt m _ _ _ hm
 have hL0 := hL
 rw [MakeChecks.laidMetH_plain _ _ _ (by kernel_rfl)] at hL0
 obtain ⟨a0, len0, cap0, F0, rfl, l0, w0⟩ : ∃ (a : Option Addr) (len cap : Nat) (F : Nat → It), va0 = .slice a len cap ∧ len ≤ 549755813888 ∧ Its W a len F := by
  obtain ⟨fuel, hf⟩ := h0
  obtain ⟨a, len, cap, rfl⟩ := okWide_slice Tryd.underlying22 (hval 0 22 va0 rfl rfl)
  exact its_in (by simpa [Value.cells] using hf) (List.all_eq_true.2 fun n hn => List.all_eq_true.1 hsz n (DataW.weights_mem_each (j := 0) rfl rfl n hn))
 have c0 : len0 ≤ cap0 := by
  obtain ⟨fuel, hf⟩ := h0
  exact cap_in (fuel := fuel) (by simpa [Value.cells] using hf)
 clear hA0 hval0
 refine (walk a0 len0 cap0 F0 W w0 l0 c0 (of_words hL0)).mono fun e W' ⟨he, bel⟩ => ?_
 subst he
 exact ⟨_, rfl, _, _, _, [], _, [], hW', trodAll_mk1 (shut_bool Tryd.underlying4 _), (trodAll_cons_mk (Below.trod laidOut (by kernel_rfl) (of_decide_eq_true (by kernel_rfl)) k0 bel lt0) trodAll_mk0), rfl, bel.frame _, fun h => by cases h⟩
theorem over : Rows.NamesUsesSaid :=
 OpenClaim.holds_of_wide 5 Tryd.f5 rfl rfl rfl rfl rfl rfl rfl ⟨rfl, rfl, rfl, rfl, rfl⟩ rfl rfl rfl rfl rfl (by kernel_rfl) Tryd.func5 (by kernel_rfl)
  (of_decide_eq_true (by kernel_rfl)) (by unfold Func.isWrapper; first | (rw [if_pos (by decide +kernel)]; kernel_rfl) | (rw [if_neg (by decide +kernel)]; exact ⟨rfl, rfl⟩))
  (fun os started H enc _ => lifted os started H enc)
theorem proved : Rows.NamesUsesCardSaid :=
 Claim7.holds_tied_plain_at .later [] [.data] true (true, "cb96c78dc449a60ff3d87b454051880e732b7ed7f30712d5013391cc80f9a798") false
  over (fun _ h => by cases h) (by kernel_rfl) (fun _ h => by cases h) namesUses_row_tie rfl ⟨rfl, rfl⟩ (by kernel_rfl) rfl
  (fun f fn hf hfn => by
   obtain rfl : f = 5 := Option.some.inj ((show Tryd.prog.funcNamed "recoup/recouplaw13.NamesUses" = some 5 by kernel_rfl).symm.trans hf) |>.symm
   obtain rfl : fn = Tryd.f5 := (Option.some.inj (Tryd.func5.symm.trans hfn)).symm
   exact ⟨by kernel_rfl, fun j t ht => by
    rw [Tryd.params5] at ht
    have hm : t ∈ [22] := by simpa using Array.mem_of_getElem? ht
    have hall : ([22].all fun u => !Tryd.prog.wantsStandIn u) = true := by kernel_rfl
    exact (show Tryd.prog.wantsStandIn t = false by simpa using List.all_eq_true.1 hall t hm)⟩)
  (by kernel_rfl)
#print axioms proved
end Go.Proofs.YtemhodenkgngmaaDoor.namesUses
