/-
  Proved: for all lists of tokens the program's May and Join answer the document's (P9.1, P9.3); the listed tables hold what the program's text lays in them (the card's tie).
-/
import Derived.Test.YtipjejkjoiifdaaDoorAs
import Derived.Test.YtipjejkjoiifdaaDoorTie
import Derived.Test.YtipjejkjoiifdaaDoorCards
import Derived.Deep.RegionHeld
import Derived.WalkKit
import Derived.SizedLaws
import Derived.ProofKit
import Derived.LaidMore
import Derived.OpenShut
import Derived.ShutString
import Derived.ChangeOld
import Derived.Below
import Derived.Stop.Joined
import Derived.SevenTiedAt
import Derived.Lib.SmallJoins
import Derived.Lib.LaidTab
import Derived.MakeChecks
import Derived.Handed
import Derived.Stop.LaidErr
namespace Go.Proofs.YtipjejkjoiifdaaDoor.tokenJoins
open Go.ChangeShapes Go.WideShapes Go.ChangeAt Go.RowKit Go.Joins
set_option linter.unusedVariables false
theorem own : ownKnob Tryd.prog.godebug = none := by kernel_rfl
theorem laidOut : laidOutB Tryd.prog = true := by kernel_rfl
/-- What the listed variables hold. -/
def laidL : List (String × DataW Unit) := [("math/bits.deBruijn32tab", Rows.laid_math_bits_deBruijn32tab), ("math/bits.deBruijn64tab", Rows.laid_math_bits_deBruijn64tab), ("internal/strconv.uint64pow10", Rows.laid_internal_strconv_uint64pow10), ("strconv.ErrRange", Rows.laid_strconv_ErrRange), ("strconv.ErrSyntax", Rows.laid_strconv_ErrSyntax), ("recoup/token.words", Rows.laid_recoup_token_words)]
theorem door_met (os : Os) (args : Array Value) : laidMetH Tryd.prog laidL ((World.doorLaid Tryd.prog 4000 os).forCall (fun _ _ => 0) ⟨#[], args, []⟩).memory :=
  laidMetH_of_parts3 (fuel := 8) (laidMet_of_run' 8 (by kernel_rfl) (by kernel_rfl)) (by kernel_rfl) (by kernel_rfl)
theorem gTab : Tryd.prog.globalNamed "internal/strconv.uint64pow10" = some 4 := by kernel_rfl
theorem tTab : (Tryd.prog.globals[4]?).map (·.type) = some 95 := by kernel_rfl
theorem dTab : (Rows.laid_internal_strconv_uint64pow10 : DataW Unit) = Lib.tabData .u64 Lib.pow10Tab := by kernel_rfl
theorem of_pow {W : World} (h : laidMet Tryd.prog laidL W) : Tab9 W := by
  have hk := h.tail.tail
  rw [dTab] at hk
  exact Lib.tabIs_of_head gTab tTab Tryd.underlying95 Tryd.underlying75 (by kernel_rfl) (by kernel_rfl) hk
theorem gErr : Tryd.prog.globalNamed "strconv.ErrRange" = some 3 := by kernel_rfl
theorem tErr : (Tryd.prog.globals[3]?).map (·.type) = some 61 := by kernel_rfl
theorem star : "*" ++ "errors.errorString" = "*errors.errorString" := by decide
theorem rowErr (u : TypeId) (h : Tryd.prog.typeName? 3 u = some "*errors.errorString") : u = 90 :=
  typeName_ptr_named (nm := "errors.errorString") (by rw [star]; kernel_rfl) (by kernel_rfl) (by decide) u (by rw [star]; exact h)
theorem of_range {W : World} (h : laidMet Tryd.prog laidL W) : Er9 W := by
  obtain ⟨a, s, hv, _, _, _⟩ := laid_sentinel h.tail.tail.tail gErr tErr Tryd.underlying61 rowErr Tryd.underlying90 Tryd.underlying92 rfl rfl Tryd.underlying9 (by kernel_rfl) (by kernel_rfl)
  exact ⟨_, _, hv⟩
theorem gWds : Tryd.prog.globalNamed "recoup/token.words" = some 0 := by kernel_rfl
theorem tWds : (Tryd.prog.globals[0]?).map (·.type) = some 43 := by kernel_rfl
theorem dWds : (Rows.laid_recoup_token_words : DataW Unit) = .agg ((wds.map fun x => x.data.toList).map fun z => .lit (.string z)) := by kernel_rfl
theorem of_words {W : World} (h : laidMet Tryd.prog laidL W) : Wt9 W := by
  have hk := h.tail.tail.tail.tail.tail
  obtain ⟨ps, ⟨g0, t0, cs0, f0, p0, q0, hg0, ht0, hv0, hd0, _, _⟩, _, _⟩ := hk
  obtain rfl := Option.some.inj (gWds.symm.trans hg0)
  obtain rfl := Option.some.inj (tWds.symm.trans ht0)
  rw [dWds] at hd0
  have hc := cells_of_texts Tryd.underlying43 Tryd.underlying9 (by kernel_rfl) (by kernel_rfl) hd0
  unfold Wt9
  rw [hv0]
  obtain ⟨l⟩ := cs0
  have hl : l = wds.map Value.string := hc.trans (by kernel_rfl)
  rw [hl]

set_option maxRecDepth 20000 in
set_option maxHeartbeats 8000000 in
theorem walk (a0 : Option Addr) (len0 cap0 : Nat) (K : Nat → TV) (w : World) (w0 : Toks w a0 len0 K) (l0 : len0 ≤ 2932031007402) (t0 : Tab9 w) (t1 : Wt9 w) (t2 : Er9 w) :
    Calls Tryd.prog 5 #[.slice a0 len0 cap0] w fun e w' => e = .returned (.bool true) ∧ Below w.heap.size w w' := by
  have HEv := jhid9 (show Ev9 w from ⟨t1, t2⟩)
  obtain ⟨S, E, hA⟩ := join_ex K len0
  have HX := jhid9 w0
  have HT := jhid9 t0
  have H1 : Hid (∀ w' : World, Below w.heap.size w w' → Calls Tryd.prog 16 #[.slice a0 len0 cap0] w' fun e w'' => e = .returned (.tuple #[.string S, .int .i64 (E : Int)]) ∧ Below w'.heap.size w' w'') := fun w' hb => tjoin w' a0 len0 cap0 E K S (HX.out.later hb) l0 (HT.out.later hb) (HEv.out.1.later hb) hA
  have H2 : Hid (∀ w' : World, Below w.heap.size w w' → Calls Tryd.prog 17 #[.slice a0 len0 cap0] w' fun e w'' => e = .returned (.tuple #[.string S, .int .i64 (E : Int)]) ∧ Below w'.heap.size w' w'') := fun w' hb => rjoin_any w' a0 len0 cap0 E K S (HX.out.later hb) l0 (HT.out.later hb) hA
  have hE : E ≤ 4 := by rcases hA with ⟨rfl, _⟩ | ⟨rfl, _⟩ | ⟨rfl, _⟩ <;> decide
  clear w0 t0 hA
  go_enter Tryd.func5, Tryd.ntmps5
  go_wp2
  go_loopw [3] (fun vi wr => ∃ i : Nat, i ≤ len0 ∧ vi = .int .i64 (i : Int) ∧ Below w.heap.size w wr) (fun vi _ => len0 - (intOf vi).toNat)
  case atStart => exact ⟨0, by omega, rfl, Below.refl _ _⟩
  case round =>
    obtain ⟨i, hi, rfl, hb⟩ := hrel
    have HB := jhid9 hb
    by_cases hlt : i < len0
    · obtain ⟨b, o, k, tx, nn, ll, cc, rfl, hK, hok, hcl⟩ := HX.out.cells hlt
      have HCl := jhid9 hcl
      have HOk := jhid9 hok
      obtain ⟨m, Hm⟩ : ∃ m, Hid (mayB ⟨k, tx, nn, ll, cc⟩ = m) := ⟨_, rfl⟩
      have HM1 : Hid (∀ w' : World, Below w.heap.size w w' → Calls Tryd.prog 14 #[.agg #[.int .u8 (k : Int), .string tx, .int .i64 nn, .int .i64 ll, .int .i64 cc]] w' fun e w'' => e = .returned (.bool m) ∧ Below w'.heap.size w' w'') := fun w' hb => by rw [← Hm.out]; exact tmay w' k tx nn ll cc HOk.out (HEv.out.1.later hb)
      have HM2 : Hid (∀ w' : World, Calls Tryd.prog 15 #[.agg #[.int .u8 (k : Int), .string tx, .int .i64 nn, .int .i64 ll, .int .i64 cc]] w' fun e w'' => e = .returned (.bool m) ∧ Below w'.heap.size w' w'') := fun w' => by rw [← Hm.out]; exact rmay_any w' k tx nn ll cc HOk.out
      have p0 : (0 : Int) ≤ (i : Int) := by omega
      have p1 : (i : Int) < (len0 : Int) := by omega
      clear hK hok hcl hb
      go_wp2
      refine wp_region_held (S := fun w' => Below w.heap.size w w') (by kernel_rfl) ?_
      change wpAnyH _ _ _ _ _ _ _ _ (World.drew _)
      have HBd : Hid (Below w.heap.size w wr.drew) := HB.out.drew
      obtain ⟨W, HW⟩ : ∃ W, Hid (wr.drew = W) := ⟨_, rfl⟩
      rw [HW.out] at HBd ⊢
      refine wpAnyH_take (i := 0) (v := ?v0) rfl (by kernel_rfl) (by kernel_rfl) (by kernel_rfl) (fun _ _ _ h => h) (Or.inl ⟨by rfl, ?y0⟩) HBd.out ?z0
      case y0 => (intro w' hSw; (try dsimp only at hSw); go_simp; try with_reducible rfl)
      try simp only [List.getElem_toArray, List.getElem_cons_zero, Act.put, List.setIfInBounds_toArray, List.set_cons_zero, List.set_cons_succ]
      refine wpAnyH_take (i := 1) (v := ?v1) rfl (by kernel_rfl) (by kernel_rfl) (by kernel_rfl) (fun _ _ _ h => h) (Or.inl ⟨by rfl, ?y1⟩) HBd.out ?z1
      case y1 => (intro w' hSw; (try dsimp only at hSw); go_simp; try with_reducible rfl)
      try simp only [List.getElem_toArray, List.getElem_cons_succ, List.getElem_cons_zero, Act.put, List.setIfInBounds_toArray, List.set_cons_zero, List.set_cons_succ]
      refine wpAnyH_take (i := 2) (v := ?v2) rfl (by kernel_rfl) (by kernel_rfl) (by kernel_rfl) (fun _ _ _ h => h) (Or.inl ⟨by rfl, ?y2⟩) HBd.out ?z2
      case y2 => (intro w' hSw; (try dsimp only at hSw); go_simp; try with_reducible rfl)
      try simp only [List.getElem_toArray, List.getElem_cons_succ, List.getElem_cons_zero, Act.put, List.setIfInBounds_toArray, List.set_cons_zero, List.set_cons_succ]
      refine wpAnyH_take (i := 3) (v := ?v3) rfl (by kernel_rfl) (by kernel_rfl) (by kernel_rfl) (fun _ _ _ h => h) (Or.inl ⟨by rfl, ?y3⟩) HBd.out ?z3
      case y3 => (intro w' hSw; (try dsimp only at hSw); obtain ⟨c0, c1, c2, c3, c4⟩ := HCl.out _ hSw; go_simp; try with_reducible rfl)
      try simp only [List.getElem_toArray, List.getElem_cons_succ, List.getElem_cons_zero, Act.put, List.setIfInBounds_toArray, List.set_cons_zero, List.set_cons_succ]
      refine wpAnyH_take (i := 5) (v := ?v5) rfl (by kernel_rfl) (by kernel_rfl) (by kernel_rfl) (fun _ _ _ h => h) (Or.inl ⟨by rfl, ?y5⟩) HBd.out ?z5
      case y5 => (intro w' hSw; (try dsimp only at hSw); go_simp; try with_reducible rfl)
      try simp only [List.getElem_toArray, List.getElem_cons_succ, List.getElem_cons_zero, Act.put, List.setIfInBounds_toArray, List.set_cons_zero, List.set_cons_succ]
      refine wpAnyH_take (i := 6) (v := ?v6) rfl (by kernel_rfl) (by kernel_rfl) (by kernel_rfl) (fun _ _ _ h => h) (Or.inl ⟨by rfl, ?y6⟩) HBd.out ?z6
      case y6 => (intro w' hSw; (try dsimp only at hSw); go_simp; try with_reducible rfl)
      try simp only [List.getElem_toArray, List.getElem_cons_succ, List.getElem_cons_zero, Act.put, List.setIfInBounds_toArray, List.set_cons_zero, List.set_cons_succ]
      refine wpAnyH_take (i := 7) (v := ?v7) rfl (by kernel_rfl) (by kernel_rfl) (by kernel_rfl) (fun _ _ _ h => h) (Or.inl ⟨by rfl, ?y7⟩) HBd.out ?z7
      case y7 => (intro w' hSw; (try dsimp only at hSw); go_simp; try with_reducible rfl)
      try simp only [List.getElem_toArray, List.getElem_cons_succ, List.getElem_cons_zero, Act.put, List.setIfInBounds_toArray, List.set_cons_zero, List.set_cons_succ]
      refine wpAnyH_take (i := 8) (v := ?v8) rfl (by kernel_rfl) (by kernel_rfl) (by kernel_rfl) (fun _ _ _ h => h) (Or.inl ⟨by rfl, ?y8⟩) HBd.out ?z8
      case y8 => (intro w' hSw; (try dsimp only at hSw); obtain ⟨c0, c1, c2, c3, c4⟩ := HCl.out _ hSw; go_simp; try with_reducible rfl)
      try simp only [List.getElem_toArray, List.getElem_cons_succ, List.getElem_cons_zero, Act.put, List.setIfInBounds_toArray, List.set_cons_zero, List.set_cons_succ]
      refine wpAnyH_ready (rs := [4]) (by kernel_rfl) (by simp) ?_
      refine AllReadyH.cons rfl (fun KK hKK => ?_) AllReadyH.nil
      go_simp
      refine (HM1.out _ HBd.out).mono ?_
      rintro r w2 ⟨rfl, hb2⟩
      have HB2 := jhid9 (jtwo HBd.out hb2)
      clear hb2
      refine hKK.out _ _ HB2.out (fun _ => ?_)
      clear hKK KK
      try simp only [List.getElem_toArray, List.getElem_cons_succ, List.getElem_cons_zero, Act.put, List.setIfInBounds_toArray, List.set_cons_zero, List.set_cons_succ]
      refine wpAnyH_ready (rs := [9]) (by kernel_rfl) (by simp) ?_
      refine AllReadyH.cons rfl (fun KK hKK => ?_) AllReadyH.nil
      go_simp
      refine (HM2.out _).mono ?_
      rintro r w3 ⟨rfl, hb3⟩
      have HB3 := jhid9 (jtwo HB2.out hb3)
      clear hb3
      refine hKK.out _ _ HB3.out (fun _ => ?_)
      clear hKK KK
      try simp only [List.getElem_toArray, List.getElem_cons_succ, List.getElem_cons_zero, Act.put, List.setIfInBounds_toArray, List.set_cons_zero, List.set_cons_succ]
      refine wpAnyH_take (i := 10) (v := ?v10) rfl (by kernel_rfl) (by kernel_rfl) (by kernel_rfl) (fun _ _ _ h => h) (Or.inl ⟨by rfl, ?y10⟩) HB3.out ?z10
      case y10 => (intro w' hSw; (try dsimp only at hSw); go_simp; try with_reducible rfl)
      try simp only [List.getElem_toArray, List.getElem_cons_succ, List.getElem_cons_zero, Act.put, List.setIfInBounds_toArray, List.set_cons_zero, List.set_cons_succ]
      refine wpAnyH_done (by kernel_rfl) ?_ _
      go_wp2
      exact ⟨⟨i + 1, by omega, by go_num, HB3.out⟩, by simp [intOf]; omega⟩
    · obtain rfl : i = len0 := by omega
      clear hb
      go_wp2_with (first
        | (go_at_call 16; refine (H1.out _ HB.out).mono ?_; rintro r w2 ⟨rfl, hb2⟩; have HB2 := jhid9 (jtwo HB.out hb2); clear hb2)
        | (go_at_call 17; refine (H2.out _ HB2.out).mono ?_; rintro r w3 ⟨rfl, hb3⟩; have HB3 := jhid9 (jtwo HB2.out hb3); clear hb3)
        | (go_at_call 18; refine (anch9_any _ (HEv.out.later HB3.out)).mono ?_; rintro r w4 ⟨rfl, hb4⟩; have HB4 := jhid9 (jtwo HB3.out hb4); clear hb4))
      go_ret
      exact ⟨rfl, HB4.out⟩
set_option maxRecDepth 100000 in
set_option maxHeartbeats 2000000 in
theorem lifted (os : Os) (started : os.Started) (H : Type) (enc : TypeId × Value → H) :
    ReturnsInHanded {} Tryd.checked os 5 .any (fun w args => (Rows.tokenJoinsSpec.pre enc Tryd.prog Tryd.f5 [] false w args ∧ laidMetH Tryd.prog laidL w) ∧ sizedMet enc Tryd.prog Tryd.f5 (OpenSpec.ofChange Rows.tokenJoinsSpec) false w args)
      (Rows.tokenJoinsSpec.post enc Tryd.prog Tryd.f5 false true false false) := by
  refine returnsInHanded_of_change_and (C := Tryd.checked) (X := fun w _ => laidMetH Tryd.prog laidL w) (fun _ _ _ hh h => h.of_heap hh) own started (by kernel_rfl) Tryd.func5
    (ChangeSpec.witness_shaped (enc := enc) (C := Tryd.checked) (os := os) (X := fun w _ => laidMetH Tryd.prog laidL w) false (World.doorLaid Tryd.prog 4000 os) #[.slice none 0 0] 8 rfl (World.shaped_of_RefB (by kernel_rfl) (by kernel_rfl)) (by kernel_rfl) (by kernel_rfl) (by kernel_rfl) (door_met os _)) ?_
  intro W base args ds gs before hval0 hW hcnd hsz0 hL _
  have hsz : (DataW.weightsEach Tryd.prog (Tryd.f5.params.toList ++ Rows.tokenJoinsSpec.plain.varTypes Tryd.prog) (ds ++ gs)).all (· ≤ reachBytes) = true := hsz0
  clear hsz0
  have hval : ∀ (j : Nat) t v, Tryd.f5.params[j]? = some t → args[j]? = some v → Value.okWide Tryd.prog W .any base t v := hval0
  have hW' := hW
  obtain ⟨p, q, hA0, hV, rfl, hfz, hnd⟩ := hW
  have hA : DataW.TrodAll enc Tryd.prog W 0 (fun _ => true) true Tryd.f5.params.toList args.toList ds p := hA0
  rw [Tryd.params5] at hA hval hsz
  obtain ⟨va0, vs0, d0, ds0, p0, q0, hargs, rfl, rfl, h0, tr0⟩ := trodAll_cons hA
  obtain ⟨rfl, rfl, rfl⟩ := trodAll_nil tr0
  obtain rfl : args = #[va0] := by cases args; simp_all
  obtain ⟨rfl, rfl⟩ := trodVars_none hV
  have k0 := h0
  have lt0 : ∀ x ∈ p0, x.block < W.heap.size := by obtain ⟨m, hm⟩ := k0; exact DataW.trod_lt m _ _ _ hm
  have hL0 := hL
  rw [MakeChecks.laidMetH_plain _ _ _ (by kernel_rfl)] at hL0
  obtain ⟨a0, len0, cap0, rfl⟩ := okWide_slice Tryd.underlying26 (hval 0 26 va0 rfl rfl)
  obtain ⟨K, w0, l0⟩ : ∃ K, Toks W a0 len0 K ∧ len0 ≤ 2932031007402 := by
    obtain ⟨fuel, hf⟩ := h0
    exact toks_in (by simpa [Value.cells] using hf) (List.all_eq_true.2 fun n hn => List.all_eq_true.1 hsz n (DataW.weights_mem_each (j := 0) rfl rfl n hn))
  clear hA0 hval0
  refine (walk a0 len0 cap0 K W w0 l0 (of_pow hL0) (of_words hL0) (of_range hL0)).mono fun e W' ⟨he, bel⟩ => ?_
  subst he
  exact ⟨_, rfl, _, _, _, [], _, [], hW', trodAll_mk1 (shut_bool Tryd.underlying4 _), (trodAll_cons_mk (Below.trod laidOut (by kernel_rfl) (of_decide_eq_true (by kernel_rfl)) k0 bel lt0) trodAll_mk0), rfl, bel.frame _, fun h => by cases h⟩
theorem over : Rows.TokenJoinsSaid :=
  OpenClaim.holds_of_wide 5 Tryd.f5 rfl rfl rfl rfl rfl rfl rfl ⟨rfl, rfl, rfl, rfl, rfl⟩ rfl rfl rfl rfl rfl (by kernel_rfl) Tryd.func5 (by kernel_rfl)
    (of_decide_eq_true (by kernel_rfl)) (by unfold Func.isWrapper; first | (rw [if_pos (by decide +kernel)]; kernel_rfl) | (rw [if_neg (by decide +kernel)]; exact ⟨rfl, rfl⟩))
    (fun os started H enc _ => lifted os started H enc)
theorem proved : Rows.TokenJoinsCardSaid :=
  Claim7.holds_tied_plain_at .later [] [.data, .data, .data, .sentinel, .sentinel, .data] true (true, "5215d5b3646cb0ea1153a510b30e6e53c6bd7434a4e791b14c076d0587fd2be8") true
    over (fun _ h => by cases h) (by kernel_rfl) (fun _ h => by cases h) tokenJoins_row_tie rfl ⟨rfl, rfl⟩ (by kernel_rfl) rfl
    (fun f fn hf hfn => by
      obtain rfl : f = 5 := Option.some.inj ((show Tryd.prog.funcNamed "recoup/recouplaw09.TokenJoins" = some 5 by kernel_rfl).symm.trans hf) |>.symm
      obtain rfl : fn = Tryd.f5 := (Option.some.inj (Tryd.func5.symm.trans hfn)).symm
      exact ⟨by kernel_rfl, fun j t ht => by
        rw [Tryd.params5] at ht
        have hm : t ∈ [26] := by simpa using Array.mem_of_getElem? ht
        have hall : ([26].all fun u => !Tryd.prog.wantsStandIn u) = true := by kernel_rfl
        exact (show Tryd.prog.wantsStandIn t = false by simpa using List.all_eq_true.1 hall t hm)⟩)
    (by kernel_rfl)
#print axioms proved
end Go.Proofs.YtipjejkjoiifdaaDoor.tokenJoins
