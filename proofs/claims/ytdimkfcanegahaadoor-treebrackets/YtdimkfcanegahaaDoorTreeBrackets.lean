/-
  Proved: for all expressions: the text of one that may be has as many opening brackets as it has expressions of two parts (P10.4); no condition.
-/
import Derived.Test.YtdimkfcanegahaaDoorDh
import Derived.Test.YtdimkfcanegahaaDoorTie
import Derived.Test.YtdimkfcanegahaaDoorCards
import Derived.WalkKit
import Derived.SizedLaws
import Derived.ProofKit
import Derived.LaidMore
import Derived.OpenShut
import Derived.ShutString
import Derived.ChangeOld
import Derived.Below
import Derived.Stop.Joined
import Derived.SevenTiedAt
import Derived.Lib.SmallJoins
import Derived.Lib.LaidTab
import Derived.MakeChecks
import Derived.Handed
import Derived.Stop.LaidErr
namespace Go.Proofs.YtdimkfcanegahaaDoor.treeBrackets
open Go.ChangeShapes Go.WideShapes Go.ChangeAt Go.RowKit Go.Joins
set_option linter.unusedVariables false
theorem own : ownKnob Tryd.prog.godebug = none := by kernel_rfl
theorem laidOut : laidOutB Tryd.prog = true := by kernel_rfl
/-- What the listed variables hold. -/
def laidL : List (String × DataW Unit) := [("math/bits.deBruijn32tab", Rows.laid_math_bits_deBruijn32tab), ("math/bits.deBruijn64tab", Rows.laid_math_bits_deBruijn64tab), ("internal/strconv.uint64pow10", Rows.laid_internal_strconv_uint64pow10), ("recoup/token.words", Rows.laid_recoup_token_words), ("recoup/tree.exprSigns", Rows.laid_recoup_tree_exprSigns)]
theorem door_met (os : Os) (args : Array Value) : laidMetH Tryd.prog laidL ((World.doorLaid Tryd.prog 4000 os).forCall (fun _ _ => 0) ⟨#[], args, []⟩).memory :=
  laidMetH_of_parts3 (fuel := 8) (laidMet_of_run' 8 (by kernel_rfl) (by kernel_rfl)) (by kernel_rfl) (by kernel_rfl)
theorem gTab : Tryd.prog.globalNamed "internal/strconv.uint64pow10" = some 5 := by kernel_rfl
theorem tTab : (Tryd.prog.globals[5]?).map (·.type) = some 127 := by kernel_rfl
theorem dTab : (Rows.laid_internal_strconv_uint64pow10 : DataW Unit) = Lib.tabData .u64 Lib.pow10Tab := by kernel_rfl
theorem of_pow {W : World} (h : laidMet Tryd.prog laidL W) : Tab9 W := by
  have hk := h.tail.tail
  rw [dTab] at hk
  exact Lib.tabIs_of_head gTab tTab Tryd.underlying127 Tryd.underlying120 (by kernel_rfl) (by kernel_rfl) hk
theorem gWds : Tryd.prog.globalNamed "recoup/token.words" = some 4 := by kernel_rfl
theorem tWds : (Tryd.prog.globals[4]?).map (·.type) = some 117 := by kernel_rfl
theorem dWds : (Rows.laid_recoup_token_words : DataW Unit) = .agg ((wds.map fun x => x.data.toList).map fun z => .lit (.string z)) := by kernel_rfl
theorem of_words {W : World} (h : laidMet Tryd.prog laidL W) : Wt9 W := by
  have hk := h.tail.tail.tail
  obtain ⟨ps, ⟨g0, t0, cs0, f0, p0, q0, hg0, ht0, hv0, hd0, _, _⟩, _, _⟩ := hk
  obtain rfl := Option.some.inj (gWds.symm.trans hg0)
  obtain rfl := Option.some.inj (tWds.symm.trans ht0)
  rw [dWds] at hd0
  have hc := cells_of_texts Tryd.underlying117 Tryd.underlying9 (by kernel_rfl) (by kernel_rfl) hd0
  unfold Wt9
  rw [hv0]
  obtain ⟨l⟩ := cs0
  have hl : l = wds.map Value.string := hc.trans (by kernel_rfl)
  rw [hl]
theorem gXs10 : Tryd.prog.globalNamed "recoup/tree.exprSigns" = some 1 := by kernel_rfl
theorem tXs10 : (Tryd.prog.globals[1]?).map (·.type) = some 90 := by kernel_rfl
theorem dXs10 : (Rows.laid_recoup_tree_exprSigns : DataW Unit) = .agg ((xsg.map fun x => x.data.toList).map fun z => .lit (.string z)) := by kernel_rfl
theorem of_Xs10 {W : World} (h : laidMet Tryd.prog laidL W) : Xs10 W := by
  have hk := h.tail.tail.tail.tail
  obtain ⟨ps, ⟨g0, t0, cs0, f0, p0, q0, hg0, ht0, hv0, hd0, _, _⟩, _, _⟩ := hk
  obtain rfl := Option.some.inj (gXs10.symm.trans hg0)
  obtain rfl := Option.some.inj (tXs10.symm.trans ht0)
  rw [dXs10] at hd0
  have hc := cells_of_texts Tryd.underlying90 Tryd.underlying9 (by kernel_rfl) (by kernel_rfl) hd0
  unfold Xs10
  rw [hv0]
  obtain ⟨l⟩ := cs0
  have hl : l = xsg.map Value.string := hc.trans (by kernel_rfl)
  rw [hl]
/-- How many opening brackets there are in the first i bytes. -/
def cb (s : ByteArray) (i : Nat) : Nat := (s.data.toList.take i).count 40
theorem cb_step (s : ByteArray) (i : Nat) (h : i < s.size) : cb s (i + 1) = cb s i + (if s[i].toNat = 40 then 1 else 0) := by
  unfold cb
  have hl : i < s.data.toList.length := by rw [Array.length_toList]; exact h
  have e : s.data.toList.take (i + 1) = s.data.toList.take i ++ [s.data.toList[i]] := by rw [List.take_add_one, List.getElem?_eq_getElem hl]; rfl
  rw [e, List.count_append]
  have e2 : s.data.toList[i] = s[i] := by rw [Array.getElem_toList]; rfl
  rw [e2, List.count_singleton]
  congr 1
  by_cases hb : s[i] = 40
  · rw [hb]; rfl
  · rw [if_neg (by simpa using hb), if_neg (fun h => hb (UInt8.toNat_inj.1 (by rw [h]; rfl)))]
theorem cb_le (s : ByteArray) (i : Nat) : cb s i ≤ i := Nat.le_trans List.count_le_length (by rw [List.length_take]; omega)
theorem cb_all (s : ByteArray) : cb s s.size = brk s.data.toList := by
  unfold cb brk
  rw [List.take_of_length_le (by rw [Array.length_toList]; exact Nat.le_refl _)]
theorem xE_ways (T : Xt) : (mayX T = false ∧ xE T = 2) ∨ (mayX T = true ∧ xE T = 0 ∧ cb (xS T) (xS T).size = xtwo 16 T) ∨ (mayX T = true ∧ xE T = 4) := by
  cases hm : mayX T with
  | false => exact .inl ⟨rfl, by unfold xE; rw [hm]; rfl⟩
  | true =>
    by_cases hl : (xby 16 T).length ≤ 65536
    · refine .inr (.inl ⟨rfl, by unfold xE; rw [hm, if_neg (by simp), if_pos hl], ?_⟩)
      have e : xS T = xtext 16 T := by unfold xS; rw [hm, if_neg (by simp), if_pos hl]
      rw [e, cb_all, ← brk_two 16 T (mayX_mx hm)]
      rfl
    · exact .inr (.inr ⟨rfl, by unfold xE; rw [hm, if_neg (by simp), if_neg hl]⟩)
theorem xS_size (T : Xt) : (xS T).size ≤ 65536 := by
  unfold xS
  split
  · show 0 ≤ _; omega
  · split
    · rename_i h
      have e : (xby 16 T).length = (xtext 16 T).size := by unfold xby; rw [Array.length_toList]; rfl
      omega
    · show 0 ≤ _; omega
set_option maxRecDepth 20000 in
set_option maxHeartbeats 8000000 in
theorem walk (v0 : Value) (T0 : Xt) (w : World) (w0 : XV w v0 T0) (t0 : Tab9 w) (t1 : Wt9 w) (t2 : Xs10 w) :
    Calls Tryd.prog 8 #[v0] w fun e w' => e = .returned (.bool true) ∧ Below w.heap.size w w' := by
  have HX := jhid9 w0
  have H0 := jhid9 t0
  have H1 := jhid9 t1
  have H2 := jhid9 t2
  have HT : Hid (∀ w' : World, Below w.heap.size w w' → Calls Tryd.prog 26 #[v0] w' fun e w'' => e = .returned (.tuple #[.string (xS T0), .int .i64 (xE T0 : Nat)]) ∧ Below w'.heap.size w' w'') := fun w' hb => txtext w' T0 v0 (HX.out.later hb) (H0.out.later hb) (H1.out.later hb) (H2.out.later hb)
  have HM : Hid (∀ w' : World, Below w.heap.size w w' → Calls Tryd.prog 12 #[v0] w' fun e w'' => e = .returned (.bool (mayX T0)) ∧ Below w'.heap.size w' w'') := fun w' hb => tmayx w' T0 v0 (HX.out.later hb) (H1.out.later hb)
  have HA : Hid (∀ w' : World, Below w.heap.size w w' → Calls Tryd.prog 9 #[] w' fun e w'' => e = .returned (.bool true) ∧ Below w'.heap.size w' w'') := fun w' hb => anch10_any w' (H0.out.later hb) (H1.out.later hb) (H2.out.later hb)
  have HW2 : Hid (mayX T0 = true → ∀ w' : World, Below w.heap.size w w' → Calls Tryd.prog 27 #[v0] w' fun e w'' => e = .returned (.int .i64 (xtwo 16 T0 : Nat)) ∧ Below w'.heap.size w' w'') := fun hm w' hb => twos_any 16 w' T0 v0 (by omega) (HX.out.later hb) (mayX_mx hm)
  have hways := xE_ways T0
  have hsz := xS_size T0
  generalize xS T0 = S at *
  generalize xE T0 = E at *
  generalize xtwo 16 T0 = R at *
  obtain ⟨⟨a, cap, rfl, _⟩, _⟩ := w0
  clear HX t0 t1 t2 H0 H1 H2
  have HG : Hid ((mayX T0 = false ∧ E = 2) ∨ (mayX T0 = true ∧ E = 0 ∧ cb S S.size = R) ∨ (mayX T0 = true ∧ E = 4)) := hways
  clear hways
  obtain ⟨my, Hmy⟩ : ∃ my, Hid (mayX T0 = my) := ⟨_, rfl⟩
  rw [Hmy.out] at HG HM HW2
  clear Hmy
  generalize T0 [] = l at *
  obtain ⟨k, n, nm, len, ln, cl⟩ := l
  have HV := jhid9 (Vn.new w 28 #[.int .u8 (k : Int), .int .i64 n, .string nm, .slice a len cap, .int .i64 ln, .int .i64 cl])
  have c0 := HV.out.cell 0 _ rfl
  have c1 := HV.out.cell 1 _ rfl
  have c2 := HV.out.cell 2 _ rfl
  have c3 := HV.out.cell 3 _ rfl
  have c4 := HV.out.cell 4 _ rfl
  have c5 := HV.out.cell 5 _ rfl
  cases my with
  | false =>
    obtain rfl : E = 2 := by rcases HG.out with ⟨_, h⟩ | ⟨h, _⟩ | ⟨h, _⟩; exact h; cases h; cases h
    clear HG HW2
    go_enter Tryd.func8, Tryd.ntmps8
    go_wp2_with (first
      | (go_at_call 26; refine (HT.out _ (jlow _ _)).mono ?_; rintro e w1 ⟨rfl, hb1⟩; have HB1 := jhid9 (jtwo (jlow _ _) hb1); have HV1 := jhid9 (HV.out.later hb1); clear hb1; have d0 := HV1.out.cell 0 _ rfl; have d1 := HV1.out.cell 1 _ rfl; have d2 := HV1.out.cell 2 _ rfl; have d3 := HV1.out.cell 3 _ rfl; have d4 := HV1.out.cell 4 _ rfl; have d5 := HV1.out.cell 5 _ rfl)
      | (go_at_call 12; refine (HM.out _ HB1.out).mono ?_; rintro e w2 ⟨rfl, hb2⟩; have HB2 := jhid9 (jtwo HB1.out hb2); clear hb2)
      | (go_at_call 9; refine (HA.out _ HB2.out).mono ?_; rintro e w3 ⟨rfl, hb3⟩; have HB3 := jhid9 (jtwo HB2.out hb3); clear hb3))
    go_ret
    exact ⟨rfl, HB3.out⟩
  | true =>
    have HW3 := jhid9 (HW2.out rfl)
    clear HW2
    have HEc : Hid ((E = 0 ∧ cb S S.size = R) ∨ E = 4) := by
      rcases HG.out with ⟨h, _⟩ | ⟨_, h1, h2⟩ | ⟨_, h⟩
      · cases h
      · exact .inl ⟨h1, h2⟩
      · exact .inr h
    clear HG
    obtain ⟨z, Hz⟩ : ∃ z, Hid (S.size = z) := ⟨_, rfl⟩
    have hz := Hz.out
    have hz6 : z ≤ 65536 := by omega
    clear hsz
    go_enter Tryd.func8, Tryd.ntmps8
    go_wp2_with (first
      | (go_at_call 26; refine (HT.out _ (jlow _ _)).mono ?_; rintro e w1 ⟨rfl, hb1⟩; have HB1 := jhid9 (jtwo (jlow _ _) hb1); have HV1 := jhid9 (HV.out.later hb1); clear hb1; have d0 := HV1.out.cell 0 _ rfl; have d1 := HV1.out.cell 1 _ rfl; have d2 := HV1.out.cell 2 _ rfl; have d3 := HV1.out.cell 3 _ rfl; have d4 := HV1.out.cell 4 _ rfl; have d5 := HV1.out.cell 5 _ rfl)
      | (go_at_call 12; refine (HM.out _ HB1.out).mono ?_; rintro e w2 ⟨rfl, hb2⟩; have HB2 := jhid9 (jtwo HB1.out hb2); have HV2 := jhid9 (HV1.out.later hb2); clear hb2))
    go_loop [5, 6] (fun vn vi => ∃ (i m : Nat), i ≤ z ∧ m ≤ i ∧ vi = .int .i64 (i : Int) ∧ vn = .int .i64 (m : Int) ∧ Hid (cb S i = m)) (fun _ vi => z - (intOf vi).toNat)
    case atStart => exact ⟨0, 0, by omega, by omega, rfl, rfl, rfl⟩
    case round =>
      obtain ⟨i, m, hi, hm, rfl, rfl, Hm⟩ := hrel
      by_cases hlt : i < z
      · have hix : i < S.size := by omega
        obtain ⟨c, hc⟩ : ∃ c, S[i].toNat = c := ⟨_, rfl⟩
        have p0 : (0 : Int) ≤ (i : Int) := by omega
        have p1 : (i : Int) < (z : Int) := by omega
        have HK : Hid (cb S (i + 1) = m + (if c = 40 then 1 else 0)) := by show _ = _; rw [cb_step S i hix, Hm.out, hc]
        by_cases h40 : c = 40
        · subst h40
          have HK2 : Hid (cb S (i + 1) = m + 1) := HK.out
          clear HK
          go_wp2
          exact ⟨⟨i + 1, m + 1, by omega, by omega, by go_num, by go_num, HK2⟩, by simp [intOf]; omega⟩
        · have q : ((c : Int) == 40) = false := by simp; omega
          have HK2 : Hid (cb S (i + 1) = m) := by show _ = _; rw [HK.out, if_neg h40]; rfl
          clear HK
          go_wp2
          exact ⟨⟨i + 1, m, by omega, by omega, by go_num, rfl, HK2⟩, by simp [intOf]; omega⟩
      · obtain rfl : i = z := by omega
        have d0 := HV2.out.cell 0 _ rfl
        have d1 := HV2.out.cell 1 _ rfl
        have d2 := HV2.out.cell 2 _ rfl
        have d3 := HV2.out.cell 3 _ rfl
        have d4 := HV2.out.cell 4 _ rfl
        have d5 := HV2.out.cell 5 _ rfl
        rcases HEc.out with ⟨rfl, hR⟩ | rfl
        · have hR2 : R = m := by rw [← hR, Hz.out]; exact Hm.out
          subst hR2
          clear hR HEc
          go_wp2_with (first
            | (go_at_call 9; refine (HA.out _ HB2.out).mono ?_; rintro e w3 ⟨rfl, hb3⟩; have HB3 := jhid9 (jtwo HB2.out hb3); have HV3 := jhid9 (HV2.out.later hb3); clear hb3; have e0 := HV3.out.cell 0 _ rfl; have e1 := HV3.out.cell 1 _ rfl; have e2 := HV3.out.cell 2 _ rfl; have e3 := HV3.out.cell 3 _ rfl; have e4 := HV3.out.cell 4 _ rfl; have e5 := HV3.out.cell 5 _ rfl)
            | (go_at_call 27; refine (HW3.out _ HB3.out).mono ?_; rintro e w4 ⟨rfl, hb4⟩; have HB4 := jhid9 (jtwo HB3.out hb4); clear hb4))
          go_ret
          exact ⟨rfl, HB4.out⟩
        · clear HEc
          go_wp2_with (go_at_call 9; refine (HA.out _ HB2.out).mono ?_; rintro e w3 ⟨rfl, hb3⟩; have HB3 := jhid9 (jtwo HB2.out hb3); clear hb3)
          go_ret
          exact ⟨rfl, HB3.out⟩
set_option maxRecDepth 100000 in
set_option maxHeartbeats 2000000 in
theorem lifted (os : Os) (started : os.Started) (H : Type) (enc : TypeId × Value → H) :
    ReturnsInHanded {} Tryd.checked os 8 .any (fun w args => (Rows.treeBracketsSpec.pre enc Tryd.prog Tryd.f8 [] false w args ∧ laidMetH Tryd.prog laidL w) ∧ sizedMet enc Tryd.prog Tryd.f8 (OpenSpec.ofChange Rows.treeBracketsSpec) false w args)
      (Rows.treeBracketsSpec.post enc Tryd.prog Tryd.f8 false true false false) := by
  refine returnsInHanded_of_change_and (C := Tryd.checked) (X := fun w _ => laidMetH Tryd.prog laidL w) (fun _ _ _ hh h => h.of_heap hh) own started (by kernel_rfl) Tryd.func8
    (ChangeSpec.witness_shaped (enc := enc) (C := Tryd.checked) (os := os) (X := fun w _ => laidMetH Tryd.prog laidL w) false (World.doorLaid Tryd.prog 4000 os) #[.agg #[.int .u8 0, .int .i64 0, .string ⟨#[]⟩, .slice none 0 0, .int .i64 0, .int .i64 0]] 8 rfl (World.shaped_of_RefB (by kernel_rfl) (by kernel_rfl)) (by kernel_rfl) (by kernel_rfl) (by kernel_rfl) (door_met os _)) ?_
  intro W base args ds gs before hval0 hW hcnd hsz0 hL _
  have hsz : (DataW.weightsEach Tryd.prog (Tryd.f8.params.toList ++ Rows.treeBracketsSpec.plain.varTypes Tryd.prog) (ds ++ gs)).all (· ≤ reachBytes) = true := hsz0
  clear hsz0
  have hval : ∀ (j : Nat) t v, Tryd.f8.params[j]? = some t → args[j]? = some v → Value.okWide Tryd.prog W .any base t v := hval0
  have hW' := hW
  obtain ⟨p, q, hA0, hV, rfl, hfz, hnd⟩ := hW
  have hA : DataW.TrodAll enc Tryd.prog W 0 (fun _ => true) true Tryd.f8.params.toList args.toList ds p := hA0
  rw [Tryd.params8] at hA hval hsz
  obtain ⟨va0, vs0, d0, ds0, p0, q0, hargs0, rfl, rfl, h0, tr0⟩ := trodAll_cons hA
  obtain ⟨rfl, rfl, rfl⟩ := trodAll_nil tr0
  obtain rfl : args = #[va0] := by cases args; simp_all
  obtain ⟨rfl, rfl⟩ := trodVars_none hV
  have k0 := h0
  have lt0 : ∀ x ∈ p0, x.block < W.heap.size := by obtain ⟨m, hm⟩ := k0; exact DataW.trod_lt m _ _ _ hm
  have hL0 := hL
  rw [MakeChecks.laidMetH_plain _ _ _ (by kernel_rfl)] at hL0
  obtain ⟨T0, w0⟩ : ∃ T : Xt, XV W va0 T := by
    obtain ⟨fuel, hf⟩ := h0
    obtain ⟨cs, rfl, _⟩ := okWide_struct Tryd.underlying28 (hval 0 28 va0 rfl rfl)
    obtain ⟨T, hT⟩ := x_in fuel cs.toList _ (by simpa [Value.cells] using hf) (List.all_eq_true.2 fun n hn => List.all_eq_true.1 hsz n (DataW.weights_mem_each (j := 0) rfl rfl n hn))
    exact ⟨T, by simpa using hT.value⟩
  clear hA0 hval0
  refine (walk va0 T0 W w0 (of_pow hL0) (of_words hL0) (of_Xs10 hL0)).mono fun e W' ⟨he, bel⟩ => ?_
  subst he
  exact ⟨_, rfl, _, _, _, [], _, [], hW', trodAll_mk1 (shut_bool Tryd.underlying4 _), (trodAll_cons_mk (Below.trod laidOut (by kernel_rfl) (of_decide_eq_true (by kernel_rfl)) k0 bel lt0) trodAll_mk0), rfl, bel.frame _, fun h => by cases h⟩
theorem over : Rows.TreeBracketsSaid :=
  OpenClaim.holds_of_wide 8 Tryd.f8 rfl rfl rfl rfl rfl rfl rfl ⟨rfl, rfl, rfl, rfl, rfl⟩ rfl rfl rfl rfl rfl (by kernel_rfl) Tryd.func8 (by kernel_rfl)
    (of_decide_eq_true (by kernel_rfl)) (by unfold Func.isWrapper; first | (rw [if_pos (by decide +kernel)]; kernel_rfl) | (rw [if_neg (by decide +kernel)]; exact ⟨rfl, rfl⟩))
    (fun os started H enc _ => lifted os started H enc)
theorem proved : Rows.TreeBracketsCardSaid :=
  Claim7.holds_tied_plain_at .later [] [.data, .data, .data, .data, .data] true (true, "f75ffb74e37c39cd96e6aded352265c1cb9c7583dc056a7ebaffed3d53f4923d") false
    over (fun _ h => by cases h) (by kernel_rfl) (fun _ h => by cases h) treeBrackets_row_tie rfl ⟨rfl, rfl⟩ (by kernel_rfl) rfl
    (fun f fn hf hfn => by
      obtain rfl : f = 8 := Option.some.inj ((show Tryd.prog.funcNamed "recoup/recouplaw10.TreeBrackets" = some 8 by kernel_rfl).symm.trans hf) |>.symm
      obtain rfl : fn = Tryd.f8 := (Option.some.inj (Tryd.func8.symm.trans hfn)).symm
      exact ⟨by kernel_rfl, fun j t ht => by
        rw [Tryd.params8] at ht
        have hm : t ∈ [28] := by simpa using Array.mem_of_getElem? ht
        have hall : ([28].all fun u => !Tryd.prog.wantsStandIn u) = true := by kernel_rfl
        exact (show Tryd.prog.wantsStandIn t = false by simpa using List.all_eq_true.1 hall t hm)⟩)
    (by kernel_rfl)
#print axioms proved
end Go.Proofs.YtdimkfcanegahaaDoor.treeBrackets
