/-
  Proved: for all lists of tokens Cut of Join tells the tokens, or Join refuses them with cause (P9.4); the listed tables hold what the program's text lays in them (the card's tie).
-/
import Derived.Test.YtipjejkjoiifdaaDoorAu
import Derived.Test.YtipjejkjoiifdaaDoorTie
import Derived.Test.YtipjejkjoiifdaaDoorCards
import Derived.WalkKit
import Derived.SizedLaws
import Derived.ProofKit
import Derived.LaidMore
import Derived.OpenShut
import Derived.ShutString
import Derived.ChangeOld
import Derived.Below
import Derived.Stop.Joined
import Derived.SevenTiedAt
import Derived.Lib.SmallJoins
import Derived.Lib.LaidTab
import Derived.MakeChecks
import Derived.Handed
import Derived.Stop.LaidErr
namespace Go.Proofs.YtipjejkjoiifdaaDoor.tokenBack
open Go.ChangeShapes Go.WideShapes Go.ChangeAt Go.RowKit Go.Joins
set_option linter.unusedVariables false
theorem own : ownKnob Tryd.prog.godebug = none := by kernel_rfl
theorem laidOut : laidOutB Tryd.prog = true := by kernel_rfl
/-- What the listed variables hold. -/
def laidL : List (String × DataW Unit) := [("math/bits.deBruijn32tab", Rows.laid_math_bits_deBruijn32tab), ("math/bits.deBruijn64tab", Rows.laid_math_bits_deBruijn64tab), ("internal/strconv.uint64pow10", Rows.laid_internal_strconv_uint64pow10), ("strconv.ErrRange", Rows.laid_strconv_ErrRange), ("strconv.ErrSyntax", Rows.laid_strconv_ErrSyntax), ("recoup/token.words", Rows.laid_recoup_token_words)]
theorem door_met (os : Os) (args : Array Value) : laidMetH Tryd.prog laidL ((World.doorLaid Tryd.prog 4000 os).forCall (fun _ _ => 0) ⟨#[], args, []⟩).memory :=
  laidMetH_of_parts3 (fuel := 8) (laidMet_of_run' 8 (by kernel_rfl) (by kernel_rfl)) (by kernel_rfl) (by kernel_rfl)
theorem gTab : Tryd.prog.globalNamed "internal/strconv.uint64pow10" = some 4 := by kernel_rfl
theorem tTab : (Tryd.prog.globals[4]?).map (·.type) = some 95 := by kernel_rfl
theorem dTab : (Rows.laid_internal_strconv_uint64pow10 : DataW Unit) = Lib.tabData .u64 Lib.pow10Tab := by kernel_rfl
theorem of_pow {W : World} (h : laidMet Tryd.prog laidL W) : Tab9 W := by
  have hk := h.tail.tail
  rw [dTab] at hk
  exact Lib.tabIs_of_head gTab tTab Tryd.underlying95 Tryd.underlying75 (by kernel_rfl) (by kernel_rfl) hk
theorem gErr : Tryd.prog.globalNamed "strconv.ErrRange" = some 3 := by kernel_rfl
theorem tErr : (Tryd.prog.globals[3]?).map (·.type) = some 61 := by kernel_rfl
theorem star : "*" ++ "errors.errorString" = "*errors.errorString" := by decide
theorem rowErr (u : TypeId) (h : Tryd.prog.typeName? 3 u = some "*errors.errorString") : u = 90 :=
  typeName_ptr_named (nm := "errors.errorString") (by rw [star]; kernel_rfl) (by kernel_rfl) (by decide) u (by rw [star]; exact h)
theorem of_range {W : World} (h : laidMet Tryd.prog laidL W) : Er9 W := by
  obtain ⟨a, s, hv, _, _, _⟩ := laid_sentinel h.tail.tail.tail gErr tErr Tryd.underlying61 rowErr Tryd.underlying90 Tryd.underlying92 rfl rfl Tryd.underlying9 (by kernel_rfl) (by kernel_rfl)
  exact ⟨_, _, hv⟩
theorem gWds : Tryd.prog.globalNamed "recoup/token.words" = some 0 := by kernel_rfl
theorem tWds : (Tryd.prog.globals[0]?).map (·.type) = some 43 := by kernel_rfl
theorem dWds : (Rows.laid_recoup_token_words : DataW Unit) = .agg ((wds.map fun x => x.data.toList).map fun z => .lit (.string z)) := by kernel_rfl
theorem of_words {W : World} (h : laidMet Tryd.prog laidL W) : Wt9 W := by
  have hk := h.tail.tail.tail.tail.tail
  obtain ⟨ps, ⟨g0, t0, cs0, f0, p0, q0, hg0, ht0, hv0, hd0, _, _⟩, _, _⟩ := hk
  obtain rfl := Option.some.inj (gWds.symm.trans hg0)
  obtain rfl := Option.some.inj (tWds.symm.trans ht0)
  rw [dWds] at hd0
  have hc := cells_of_texts Tryd.underlying43 Tryd.underlying9 (by kernel_rfl) (by kernel_rfl) hd0
  unfold Wt9
  rw [hv0]
  obtain ⟨l⟩ := cs0
  have hl : l = wds.map Value.string := hc.trans (by kernel_rfl)
  rw [hl]

set_option maxRecDepth 20000 in
set_option maxHeartbeats 8000000 in
theorem walk (a0 : Option Addr) (len0 cap0 : Nat) (K : Nat → TV) (w : World) (w0 : Toks w a0 len0 K) (l0 : len0 ≤ 2932031007402) (t0 : Tab9 w) (t1 : Wt9 w) (t2 : Er9 w) :
    Calls Tryd.prog 6 #[.slice a0 len0 cap0] w fun e w' => e = .returned (.bool true) ∧ Below w.heap.size w w' := by
  have HEv := jhid9 (show Ev9 w from ⟨t1, t2⟩)
  have HX := jhid9 w0
  have HT := jhid9 t0
  have HMy : Hid (∀ (w' : World) (k : Nat) (tx : ByteArray) (nn ll cc : Int), TvOk ⟨k, tx, nn, ll, cc⟩ → Calls Tryd.prog 15 #[.agg #[.int .u8 (k : Int), .string tx, .int .i64 nn, .int .i64 ll, .int .i64 cc]] w' fun e w'' => e = .returned (.bool (mayB ⟨k, tx, nn, ll, cc⟩)) ∧ Below w'.heap.size w' w'') := fun w' k tx nn ll cc h => rmay_any w' k tx nn ll cc h
  obtain ⟨S, E, hA⟩ := join_ex K len0
  have H1 : Hid (Calls Tryd.prog 16 #[.slice a0 len0 cap0] w fun e w'' => e = .returned (.tuple #[.string S, .int .i64 (E : Int)]) ∧ Below w.heap.size w w'') := tjoin w a0 len0 cap0 E K S w0 l0 t0 t1 hA
  clear w0 t0
  rcases hA with ⟨rfl, rfl, hbad⟩ | ⟨rfl, rfl, hall, hbig⟩ | ⟨rfl, hall, hsm, rfl⟩
  · have HBd := jhid9 hbad
    clear hbad
    go_enter Tryd.func6, Tryd.ntmps6
    go_wp2_with (go_at_call 16; refine H1.out.mono ?_; rintro r w2 ⟨rfl, hb2⟩; have HB2 := jhid9 hb2; clear hb2)
    go_loopw [5] (fun vi wr => ∃ i : Nat, i ≤ len0 ∧ vi = .int .i64 (i : Int) ∧ Hid (∀ j, j < i → mayB (K j) = true) ∧ Below w.heap.size w wr) (fun vi _ => len0 - (intOf vi).toNat)
    case atStart => exact ⟨0, by omega, rfl, fun j hj => by omega, HB2.out⟩
    case round =>
      obtain ⟨i, hi, rfl, HJ, hb⟩ := hrel
      have HB := jhid9 hb
      by_cases hlt : i < len0
      · obtain ⟨b, o, k, tx, nn, ll, cc, rfl, hK, hok, hcl⟩ := HX.out.cells hlt
        obtain ⟨c0, c1, c2, c3, c4⟩ := hcl _ hb
        have HK := jhid9 hK
        have HOk := jhid9 hok
        have p0 : (0 : Int) ≤ (i : Int) := by omega
        have p1 : (i : Int) < (len0 : Int) := by omega
        clear hK hok hcl hb
        cases hm : mayB ⟨k, tx, nn, ll, cc⟩ with
        | false =>
          have Hm := jhid9 hm
          clear hm
          go_wp2_with (first
            | (go_at_call 15; refine (HMy.out _ k tx nn ll cc HOk.out).mono ?_; rintro r w3 ⟨rfl, hb3⟩; rw [Hm.out]; have HB3 := jhid9 (jtwo HB.out hb3); clear hb3)
            | (go_at_call 18; refine (anch9_any _ (HEv.out.later HB3.out)).mono ?_; rintro r w4 ⟨rfl, hb4⟩; have HB4 := jhid9 (jtwo HB3.out hb4); clear hb4))
          go_ret
          exact ⟨rfl, HB4.out⟩
        | true =>
          have Hm := jhid9 hm
          have HJ2 : Hid (∀ j, j < i + 1 → mayB (K j) = true) := fun j hj => by
            by_cases e : j = i
            · rw [e, HK.out]; exact Hm.out
            · exact HJ.out j (by omega)
          clear hm
          go_wp2_with (go_at_call 15; refine (HMy.out _ k tx nn ll cc HOk.out).mono ?_; rintro r w3 ⟨rfl, hb3⟩; rw [Hm.out]; have HB3 := jhid9 (jtwo HB.out hb3); clear hb3)
          exact ⟨⟨i + 1, by omega, by go_num, HJ2, HB3.out⟩, by simp [intOf]; omega⟩
      · obtain ⟨j, hj, hf⟩ := HBd.out
        rw [HJ.out j (by omega)] at hf
        cases hf
  · have h17 := jz_17 len0 hall
    have hlen : 3855 < len0 := by omega
    have qlen : decide (3855 < len0) = true := decide_eq_true hlen
    have qlenI : decide ((3855 : Int) < (len0 : Int)) = true := decide_eq_true (by omega)
    have HAl := jhid9 hall
    clear hall hbig h17
    go_enter Tryd.func6, Tryd.ntmps6
    go_wp2_with (go_at_call 16; refine H1.out.mono ?_; rintro r w2 ⟨rfl, hb2⟩; have HB2 := jhid9 hb2; clear hb2)
    go_loopw [5] (fun vi wr => ∃ i : Nat, i ≤ len0 ∧ vi = .int .i64 (i : Int) ∧ Below w.heap.size w wr) (fun vi _ => len0 - (intOf vi).toNat)
    case atStart => exact ⟨0, by omega, rfl, HB2.out⟩
    case round =>
      obtain ⟨i, hi, rfl, hb⟩ := hrel
      have HB := jhid9 hb
      by_cases hlt : i < len0
      · obtain ⟨b, o, k, tx, nn, ll, cc, rfl, hK, hok, hcl⟩ := HX.out.cells hlt
        obtain ⟨c0, c1, c2, c3, c4⟩ := hcl _ hb
        have HOk := jhid9 hok
        have Hm : Hid (mayB ⟨k, tx, nn, ll, cc⟩ = true) := by rw [← hK]; exact HAl.out i hlt
        have p0 : (0 : Int) ≤ (i : Int) := by omega
        have p1 : (i : Int) < (len0 : Int) := by omega
        clear hK hok hcl hb
        go_wp2_with (go_at_call 15; refine (HMy.out _ k tx nn ll cc HOk.out).mono ?_; rintro r w3 ⟨rfl, hb3⟩; rw [Hm.out]; have HB3 := jhid9 (jtwo HB.out hb3); clear hb3)
        exact ⟨⟨i + 1, by omega, by go_num, HB3.out⟩, by simp [intOf]; omega⟩
      · obtain rfl : i = len0 := by omega
        clear hb
        go_wp2_with (go_at_call 18; refine (anch9_any _ (HEv.out.later HB.out)).mono ?_; rintro r w4 ⟨rfl, hb4⟩; have HB4 := jhid9 (jtwo HB.out hb4); clear hb4)
        go_ret
        exact ⟨rfl, HB4.out⟩
  · have hcut : CutA (jn K len0) (tkl K 0 len0) 0 0 := .inr ⟨by
      by_cases h0 : len0 = 0
      · subst h0; exact Nat.zero_le _
      · have := (jn_spec K len0 (by omega)).1
        omega, join_cut hall⟩
    have hjs : (jn K len0).size ≤ 140737488351232 := by have := jn_size K len0; omega
    have HU : Hid (∀ w' : World, Below w.heap.size w w' → Calls Tryd.prog 11 #[.string (jn K len0)] w' fun e w'' => ∃ (x : Option Addr) (d : Nat), e = .returned (.tuple #[.slice x len0 d, .agg #[.int .i64 0, .int .i64 0, .int .i64 0]]) ∧ (∀ i, i < len0 → TvAt w'' x i (tvo (jn K len0) ((tkl K 0 len0).getD i ⟨0, 0, 0, 0⟩))) ∧ Below w'.heap.size w' w'') := fun w' hb => (tcut w' _ _ 0 0 hcut (HEv.out.later hb)).mono (fun e w'' h => by
      exact h.use (f0 := 0) (f1 := 0) (f2 := 0) (m := len0) rfl (by rw [if_pos rfl, tkl_len]))
    have HE : Hid (∀ i, i < len0 → (K i).k = (tvo (jn K len0) ((tkl K 0 len0).getD i ⟨0, 0, 0, 0⟩)).k ∧ (K i).tx = (tvo (jn K len0) ((tkl K 0 len0).getD i ⟨0, 0, 0, 0⟩)).tx ∧ (K i).n = (tvo (jn K len0) ((tkl K 0 len0).getD i ⟨0, 0, 0, 0⟩)).n ∧ (false = true → (K i).ln = (tvo (jn K len0) ((tkl K 0 len0).getD i ⟨0, 0, 0, 0⟩)).ln ∧ (K i).cl = (tvo (jn K len0) ((tkl K 0 len0).getD i ⟨0, 0, 0, 0⟩)).cl)) := fun i hi => by
      obtain ⟨e1, e2⟩ := tkl_tx hall hi
      rw [tkl_get K len0 0 i hi, Nat.zero_add]
      exact ⟨rfl, e1.symm, e2.symm, fun h => by cases h⟩
    generalize hS : jn K len0 = S at *
    clear hall hsm hcut hjs
    go_enter Tryd.func6, Tryd.ntmps6
    go_wp2_with (first
      | (go_at_call 16; refine H1.out.mono ?_; rintro r w2 ⟨rfl, hb2⟩; have HB2 := jhid9 hb2; clear hb2)
      | (go_at_call 11; refine (HU.out _ HB2.out).mono ?_; rintro r w3 ⟨y, d, rfl, ht, hb3⟩; have HT3 := jhid9 ht; have HB3 := jhid9 (jtwo HB2.out hb3); clear ht hb3)
      | (go_at_call 18; refine (anch9_any _ (HEv.out.later (jtwo HB3.out (jlow _ _)))).mono ?_; rintro r w4 ⟨rfl, hb4⟩; have hb' := jtwo (jlow w3 _) hb4; have HT4 : Hid (∀ i, i < len0 → TvAt w4 y i (tvo S ((tkl K 0 len0).getD i ⟨0, 0, 0, 0⟩))) := (fun i hi => (HT3.out i hi).later hb'); have HB4 := jhid9 (jtwo HB3.out hb'); have hv := (Vn.new w3 29 #[.int .i64 0, .int .i64 0, .int .i64 0]).later hb4; have k0 := hv.cell 0 _ rfl; have k1 := hv.cell 1 _ rfl; have k2 := hv.cell 2 _ rfl; clear hb4 hb' hv)
      | (go_at_call 13; refine (rlike_true _ a0 y len0 cap0 d false K (fun i => tvo S ((tkl K 0 len0).getD i ⟨0, 0, 0, 0⟩)) (by omega) (fun i hi => (HX.out.later HB4.out).at_ i hi) (fun i hi => HT4.out i hi) HE.out).mono ?_; rintro r w5 ⟨rfl, hb5⟩; have HB5 := jhid9 (jtwo HB4.out hb5); clear hb5))
    go_ret
    exact ⟨rfl, HB5.out⟩
set_option maxRecDepth 100000 in
set_option maxHeartbeats 2000000 in
theorem lifted (os : Os) (started : os.Started) (H : Type) (enc : TypeId × Value → H) :
    ReturnsInHanded {} Tryd.checked os 6 .any (fun w args => (Rows.tokenBackSpec.pre enc Tryd.prog Tryd.f6 [] false w args ∧ laidMetH Tryd.prog laidL w) ∧ sizedMet enc Tryd.prog Tryd.f6 (OpenSpec.ofChange Rows.tokenBackSpec) false w args)
      (Rows.tokenBackSpec.post enc Tryd.prog Tryd.f6 false true false false) := by
  refine returnsInHanded_of_change_and (C := Tryd.checked) (X := fun w _ => laidMetH Tryd.prog laidL w) (fun _ _ _ hh h => h.of_heap hh) own started (by kernel_rfl) Tryd.func6
    (ChangeSpec.witness_shaped (enc := enc) (C := Tryd.checked) (os := os) (X := fun w _ => laidMetH Tryd.prog laidL w) false (World.doorLaid Tryd.prog 4000 os) #[.slice none 0 0] 8 rfl (World.shaped_of_RefB (by kernel_rfl) (by kernel_rfl)) (by kernel_rfl) (by kernel_rfl) (by kernel_rfl) (door_met os _)) ?_
  intro W base args ds gs before hval0 hW hcnd hsz0 hL _
  have hsz : (DataW.weightsEach Tryd.prog (Tryd.f6.params.toList ++ Rows.tokenBackSpec.plain.varTypes Tryd.prog) (ds ++ gs)).all (· ≤ reachBytes) = true := hsz0
  clear hsz0
  have hval : ∀ (j : Nat) t v, Tryd.f6.params[j]? = some t → args[j]? = some v → Value.okWide Tryd.prog W .any base t v := hval0
  have hW' := hW
  obtain ⟨p, q, hA0, hV, rfl, hfz, hnd⟩ := hW
  have hA : DataW.TrodAll enc Tryd.prog W 0 (fun _ => true) true Tryd.f6.params.toList args.toList ds p := hA0
  rw [Tryd.params6] at hA hval hsz
  obtain ⟨va0, vs0, d0, ds0, p0, q0, hargs, rfl, rfl, h0, tr0⟩ := trodAll_cons hA
  obtain ⟨rfl, rfl, rfl⟩ := trodAll_nil tr0
  obtain rfl : args = #[va0] := by cases args; simp_all
  obtain ⟨rfl, rfl⟩ := trodVars_none hV
  have k0 := h0
  have lt0 : ∀ x ∈ p0, x.block < W.heap.size := by obtain ⟨m, hm⟩ := k0; exact DataW.trod_lt m _ _ _ hm
  have hL0 := hL
  rw [MakeChecks.laidMetH_plain _ _ _ (by kernel_rfl)] at hL0
  obtain ⟨a0, len0, cap0, rfl⟩ := okWide_slice Tryd.underlying26 (hval 0 26 va0 rfl rfl)
  obtain ⟨K, w0, l0⟩ : ∃ K, Toks W a0 len0 K ∧ len0 ≤ 2932031007402 := by
    obtain ⟨fuel, hf⟩ := h0
    exact toks_in (by simpa [Value.cells] using hf) (List.all_eq_true.2 fun n hn => List.all_eq_true.1 hsz n (DataW.weights_mem_each (j := 0) rfl rfl n hn))
  clear hA0 hval0
  refine (walk a0 len0 cap0 K W w0 l0 (of_pow hL0) (of_words hL0) (of_range hL0)).mono fun e W' ⟨he, bel⟩ => ?_
  subst he
  exact ⟨_, rfl, _, _, _, [], _, [], hW', trodAll_mk1 (shut_bool Tryd.underlying4 _), (trodAll_cons_mk (Below.trod laidOut (by kernel_rfl) (of_decide_eq_true (by kernel_rfl)) k0 bel lt0) trodAll_mk0), rfl, bel.frame _, fun h => by cases h⟩
theorem over : Rows.TokenBackSaid :=
  OpenClaim.holds_of_wide 6 Tryd.f6 rfl rfl rfl rfl rfl rfl rfl ⟨rfl, rfl, rfl, rfl, rfl⟩ rfl rfl rfl rfl rfl (by kernel_rfl) Tryd.func6 (by kernel_rfl)
    (of_decide_eq_true (by kernel_rfl)) (by unfold Func.isWrapper; first | (rw [if_pos (by decide +kernel)]; kernel_rfl) | (rw [if_neg (by decide +kernel)]; exact ⟨rfl, rfl⟩))
    (fun os started H enc _ => lifted os started H enc)
theorem proved : Rows.TokenBackCardSaid :=
  Claim7.holds_tied_plain_at .later [] [.data, .data, .data, .sentinel, .sentinel, .data] true (true, "5215d5b3646cb0ea1153a510b30e6e53c6bd7434a4e791b14c076d0587fd2be8") true
    over (fun _ h => by cases h) (by kernel_rfl) (fun _ h => by cases h) tokenBack_row_tie rfl ⟨rfl, rfl⟩ (by kernel_rfl) rfl
    (fun f fn hf hfn => by
      obtain rfl : f = 6 := Option.some.inj ((show Tryd.prog.funcNamed "recoup/recouplaw09.TokenBack" = some 6 by kernel_rfl).symm.trans hf) |>.symm
      obtain rfl : fn = Tryd.f6 := (Option.some.inj (Tryd.func6.symm.trans hfn)).symm
      exact ⟨by kernel_rfl, fun j t ht => by
        rw [Tryd.params6] at ht
        have hm : t ∈ [26] := by simpa using Array.mem_of_getElem? ht
        have hall : ([26].all fun u => !Tryd.prog.wantsStandIn u) = true := by kernel_rfl
        exact (show Tryd.prog.wantsStandIn t = false by simpa using List.all_eq_true.1 hall t hm)⟩)
    (by kernel_rfl)
#print axioms proved
end Go.Proofs.YtipjejkjoiifdaaDoor.tokenBack
