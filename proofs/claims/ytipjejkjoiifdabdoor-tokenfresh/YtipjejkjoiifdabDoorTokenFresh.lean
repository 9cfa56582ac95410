/-
  Proved: for all texts: what Cut and Words answer is new memory: written over, nothing else changes (the rules); no condition.
-/
import Derived.Test.YtipjejkjoiifdabDoorAl
import Derived.Test.YtipjejkjoiifdabDoorTie
import Derived.Test.YtipjejkjoiifdabDoorCards
import Derived.WalkKit
import Derived.SizedLaws
import Derived.ProofKit
import Derived.LaidMore
import Derived.OpenShut
import Derived.ShutString
import Derived.ChangeOld
import Derived.Below
import Derived.Stop.Joined
import Derived.SevenTiedAt
import Derived.Lib.SmallJoins
import Derived.Lib.LaidTab
import Derived.MakeChecks
import Derived.Handed
import Derived.Stop.LaidErr
import Derived.ChangeMaps5
namespace Go.Proofs.YtipjejkjoiifdabDoor.tokenFresh
open Go.ChangeShapes Go.WideShapes Go.ChangeAt Go.RowKit Go.Joins
set_option linter.unusedVariables false
theorem own : ownKnob Tryd.prog.godebug = none := by kernel_rfl
theorem laidOut : laidOutB Tryd.prog = true := by kernel_rfl
/-- What the listed variables hold. -/
def laidL : List (String × DataW Unit) := [("math/bits.deBruijn32tab", Rows.laid_math_bits_deBruijn32tab), ("math/bits.deBruijn64tab", Rows.laid_math_bits_deBruijn64tab), ("internal/strconv.uint64pow10", Rows.laid_internal_strconv_uint64pow10), ("strconv.ErrRange", Rows.laid_strconv_ErrRange), ("strconv.ErrSyntax", Rows.laid_strconv_ErrSyntax), ("recoup/token.words", Rows.laid_recoup_token_words)]
theorem door_met (os : Os) (args : Array Value) : laidMetH Tryd.prog laidL ((World.doorLaid Tryd.prog 4000 os).forCall (fun _ _ => 0) ⟨#[], args, []⟩).memory :=
  laidMetH_of_parts3 (fuel := 8) (laidMet_of_run' 8 (by kernel_rfl) (by kernel_rfl)) (by kernel_rfl) (by kernel_rfl)
theorem gTab : Tryd.prog.globalNamed "internal/strconv.uint64pow10" = some 4 := by kernel_rfl
theorem tTab : (Tryd.prog.globals[4]?).map (·.type) = some 88 := by kernel_rfl
theorem dTab : (Rows.laid_internal_strconv_uint64pow10 : DataW Unit) = Lib.tabData .u64 Lib.pow10Tab := by kernel_rfl
theorem of_pow {W : World} (h : laidMet Tryd.prog laidL W) : Tab9 W := by
  have hk := h.tail.tail
  rw [dTab] at hk
  exact Lib.tabIs_of_head gTab tTab Tryd.underlying88 Tryd.underlying66 (by kernel_rfl) (by kernel_rfl) hk
theorem gErr : Tryd.prog.globalNamed "strconv.ErrRange" = some 3 := by kernel_rfl
theorem tErr : (Tryd.prog.globals[3]?).map (·.type) = some 53 := by kernel_rfl
theorem star : "*" ++ "errors.errorString" = "*errors.errorString" := by decide
theorem rowErr (u : TypeId) (h : Tryd.prog.typeName? 3 u = some "*errors.errorString") : u = 77 :=
  typeName_ptr_named (nm := "errors.errorString") (by rw [star]; kernel_rfl) (by kernel_rfl) (by decide) u (by rw [star]; exact h)
theorem of_range {W : World} (h : laidMet Tryd.prog laidL W) : Er9 W := by
  obtain ⟨a, s, hv, _, _, _⟩ := laid_sentinel h.tail.tail.tail gErr tErr Tryd.underlying53 rowErr Tryd.underlying77 Tryd.underlying79 rfl rfl Tryd.underlying9 (by kernel_rfl) (by kernel_rfl)
  exact ⟨_, _, hv⟩
theorem gWds : Tryd.prog.globalNamed "recoup/token.words" = some 0 := by kernel_rfl
theorem tWds : (Tryd.prog.globals[0]?).map (·.type) = some 45 := by kernel_rfl
theorem dWds : (Rows.laid_recoup_token_words : DataW Unit) = .agg ((wds.map fun x => x.data.toList).map fun z => .lit (.string z)) := by kernel_rfl
theorem of_words {W : World} (h : laidMet Tryd.prog laidL W) : Wt9 W := by
  have hk := h.tail.tail.tail.tail.tail
  obtain ⟨ps, ⟨g0, t0, cs0, f0, p0, q0, hg0, ht0, hv0, hd0, _, _⟩, _, _⟩ := hk
  obtain rfl := Option.some.inj (gWds.symm.trans hg0)
  obtain rfl := Option.some.inj (tWds.symm.trans ht0)
  rw [dWds] at hd0
  have hc := cells_of_texts Tryd.underlying45 Tryd.underlying9 (by kernel_rfl) (by kernel_rfl) hd0
  unfold Wt9
  rw [hv0]
  obtain ⟨l⟩ := cs0
  have hl : l = wds.map Value.string := hc.trans (by kernel_rfl)
  rw [hl]

set_option maxRecDepth 20000 in
set_option maxHeartbeats 8000000 in
theorem walk (s0 : ByteArray) (w : World) (w0 : s0.size ≤ 140737488351232) (t0 : Tab9 w) (t1 : Wt9 w) (t2 : Er9 w) :
    Calls Tryd.prog 3 #[.string s0] w fun e w' => e = .returned (.bool true) ∧ Below w.heap.size w w' := by
  have HEv := jhid9 (show Ev9 w from ⟨t1, t2⟩)
  obtain ⟨L, E, a, hA⟩ := cuta_ex s0
  have H1 : Hid (∀ w' : World, Below w.heap.size w w' → Calls Tryd.prog 4 #[.string s0] w' fun e w'' => CutP w' w'' e s0 L E a) := fun w' hb => tcut w' s0 L E a hA (HEv.out.later hb)
  have H2 : Hid (∀ w' : World, Calls Tryd.prog 6 #[.string s0] w' fun e w'' => CutP w' w'' e s0 L E a) := fun w' => rcut_all w' s0 L E a hA
  obtain ⟨f0, f1, f2, HF⟩ := cut_form s0 E a
  have HLn : Hid (L.length ≤ 140737488351232) := cut_len hA
  obtain ⟨m, HM⟩ : ∃ m, Hid ((if E = 0 then L.length else 0) = m) := ⟨_, rfl⟩
  have HU : Hid (∀ (w' w'' : World) (e : Ending), CutP w' w'' e s0 L E a → ∃ (x : Option Addr) (d : Nat), e = .returned (.tuple #[.slice x m d, .agg #[.int .i64 f0, .int .i64 f1, .int .i64 f2]]) ∧ (∀ i, i < m → TvAt w'' x i (tvo s0 (L.getD i ⟨0, 0, 0, 0⟩))) ∧ Below w'.heap.size w' w'') := fun w' w'' e h => by
    obtain ⟨x, d, he, ht, hb⟩ := h.use HF.out HM.out
    exact ⟨x, d, he, ht, hb⟩
  have HR : Hid (∀ (w' w'' : World) (e : Ending), CutP w' w'' e s0 L E a → ∃ (x : Option Addr) (d g : Nat), e = .returned (.tuple #[.slice x m d, .agg #[.int .i64 f0, .int .i64 f1, .int .i64 f2]]) ∧ (0 < m → x = some ⟨g, 0, none⟩ ∧ w'.heap.size ≤ g ∧ Rm w'' g (m * 5)) ∧ Below w'.heap.size w' w'') := fun w' w'' e h => h.room HF.out HM.out
  have hm : m ≤ 140737488351232 := by rw [← HM.out]; split; exact HLn.out; omega
  clear hA
  go_enter Tryd.func3, Tryd.ntmps3
  go_wp2_with (first
    | (go_at_call 4; refine (H1.out _ (Below.refl _ _)).mono ?_; intro e w1 hc; obtain ⟨x, d, g, rfl, ht, hb⟩ := HR.out _ _ _ hc; have HT1 := jhid9 ht; have HB1 := jhid9 hb; clear hc ht hb)
    | (go_at_call 5; refine (twords _ (HEv.out.1.later (jtwo HB1.out (jlow _ _)))).mono ?_; rintro e w2 ⟨b, dw, T, rfl, hb0, h1, hb⟩; have hb' := jtwo (jlow w1 _) hb; have HR2 := jhid9 h1.rm; have hbw : w1.heap.size + 1 ≤ b := (by simpa using hb0); have HT2 : Hid (0 < m → x = some ⟨g, 0, none⟩ ∧ w.heap.size ≤ g ∧ g < b ∧ Rm w2 g (m * 5)) := (fun h => by obtain ⟨h1, h2, h3⟩ := HT1.out h; exact ⟨h1, h2, by have := h3.lt; omega, h3.later hb'⟩); have HB2 : Hid (Below w.heap.size w w2) := jtwo HB1.out hb'; clear h1 hb hb' hb0))
  have hwb : w.heap.size ≤ b := by have := HB1.out.size; omega
  go_loopw [6] (fun vi wr => ∃ i : Nat, i ≤ m ∧ vi = .int .i64 (i : Int) ∧ Rm wr b 17 ∧ (0 < m → Rm wr g (m * 5)) ∧ Below w.heap.size w wr) (fun vi _ => m - (intOf vi).toNat)
  case atStart => exact ⟨0, by omega, rfl, HR2.out, fun h => (HT2.out h).2.2.2, HB2.out⟩
  case round =>
    obtain ⟨i, hi, rfl, hr, hrg, hb⟩ := hrel
    have HRr := jhid9 hr
    have HRg := jhid9 hrg
    have HBr := jhid9 hb
    clear hr hrg hb
    by_cases hlt : i < m
    · obtain ⟨hx, hwg, hgb, _⟩ := HT2.out (by omega)
      subst hx
      have HRg2 := jhid9 (HRg.out (by omega))
      have p0 : (0 : Int) ≤ (i : Int) := by omega
      have p1 : (i : Int) < (m : Int) := by omega
      go_wp2_with (refine wpList_store_rm rfl 32 _ _ rfl g _ (m * 5) #[.int .u8 9, .string ⟨#[]⟩, .int .i64 0, .int .i64 0, .int .i64 0] rfl rfl HRg2.out (by simp; omega) sizeTok (all5 rfl rfl rfl rfl rfl) ?_; intro w4 HRg4 hg4; have HRr4 := jhid9 (HRr.out.kept hg4.out (by omega)); have HB4 : Hid (Below w.heap.size w w4) := HBr.out.trans (jbelow hg4.out HBr.out.size (fun q e => by cases e; exact hwg)); clear hg4)
      exact ⟨⟨i + 1, by omega, by go_num, HRr4.out, fun _ => HRg4.out, HB4.out⟩, by simp [intOf]; omega⟩
    · obtain rfl : i = m := by omega
      clear HRg HT1 HT2
      go_wp2
      go_loopw [7] (fun vi wr => ∃ i : Nat, i ≤ 17 ∧ vi = .int .i64 (i : Int) ∧ Rm wr b 17 ∧ Below w.heap.size w wr) (fun vi _ => 17 - (intOf vi).toNat)
      case atStart => exact ⟨0, by omega, rfl, HRr.out, HBr.out⟩
      case round =>
        clear HRr HBr
        obtain ⟨j, hj, rfl, hr, hb⟩ := hrel
        have HRr := jhid9 hr
        have HBr := jhid9 hb
        clear hr hb
        by_cases hlt2 : j < 17
        · have p0 : (0 : Int) ≤ (j : Int) := by omega
          have p1 : (j : Int) < 17 := by omega
          go_wp2_with (refine wpList_store_rm1 rfl 9 _ _ rfl b _ 17 (.string ⟨#[120]⟩) rfl rfl HRr.out (by omega) sizeStr rfl rfl ?_; intro w4 HRr4 hg4; have HB4 : Hid (Below w.heap.size w w4) := HBr.out.trans (jbelow hg4.out HBr.out.size (fun q e => by cases e; exact hwb)); clear hg4)
          exact ⟨⟨j + 1, by omega, by go_num, HRr4.out, HB4.out⟩, by simp [intOf]; omega⟩
        · obtain rfl : j = 17 := by omega
          clear HRr
          go_wp2_with (first
            | (go_at_call 4; refine (H1.out _ HBr.out).mono ?_; intro e w5 hc; obtain ⟨y, dy, rfl, ht, hb⟩ := HU.out _ _ _ hc; have HT5 := jhid9 ht; have HB5 : Hid (Below w.heap.size w w5) := jtwo HBr.out hb; clear hc ht hb)
            | (go_at_call 6; refine (H2.out _).mono ?_; intro e w6 hc; obtain ⟨z, dz, rfl, ht, hb⟩ := HU.out _ _ _ hc; have hb' := jtwo (jlow w5 _) hb; have HT6 := jhid9 ht; have HT5b : Hid (∀ i_1, i_1 < i → TvAt w6 y i_1 (tvo s0 (L.getD i_1 ⟨0, 0, 0, 0⟩))) := (fun i hi => (HT5.out i hi).later hb'); have HB6 : Hid (Below w.heap.size w w6) := jtwo HB5.out hb'; have hv := ((Vn.new w5 25 #[.int .i64 f0, .int .i64 f1, .int .i64 f2]).later hb).later (jlow w6 (.cells #[.int .i64 f0, .int .i64 f1, .int .i64 f2] 25)); have k0 := hv.cell 0 _ rfl; have k1 := hv.cell 1 _ rfl; have k2 := hv.cell 2 _ rfl; clear hc ht hb hb' hv)
            | (go_at_call 7; refine (rlike_true _ y z i dy dz true (fun i => tvo s0 (L.getD i ⟨0, 0, 0, 0⟩)) (fun i => tvo s0 (L.getD i ⟨0, 0, 0, 0⟩)) hm (fun i hi => (HT5b.out i hi).later (jlow _ _)) (fun i hi => (HT6.out i hi).later (jlow _ _)) (fun i _ => ⟨rfl, rfl, rfl, fun _ => ⟨rfl, rfl⟩⟩)).mono ?_; rintro e w7 ⟨rfl, hb⟩; have HB7 : Hid (Below w.heap.size w w7) := jtwo HB6.out (jtwo (jlow _ _) hb); clear hb)
            | (go_at_call 8; refine (names_any _ (HEv.out.1.later HB7.out)).mono ?_; rintro e w8 ⟨rfl, hb⟩; have HB8 : Hid (Below w.heap.size w w8) := jtwo HB7.out hb; clear hb)
            | (go_at_call 9; refine (anch9_any _ (HEv.out.later HB8.out)).mono ?_; rintro e w9 ⟨rfl, hb⟩; have HB9 : Hid (Below w.heap.size w w9) := jtwo HB8.out hb; clear hb))
          go_ret
          exact ⟨rfl, HB9.out⟩
set_option maxRecDepth 100000 in
set_option maxHeartbeats 2000000 in
theorem lifted (os : Os) (started : os.Started) (H : Type) (enc : TypeId × Value → H) :
    ReturnsInHanded {} Tryd.checked os 3 .any (fun w args => (Rows.tokenFreshSpec.pre enc Tryd.prog Tryd.f3 [] false w args ∧ laidMetH Tryd.prog laidL w) ∧ sizedMet enc Tryd.prog Tryd.f3 (OpenSpec.ofChange Rows.tokenFreshSpec) false w args)
      (Rows.tokenFreshSpec.post enc Tryd.prog Tryd.f3 false true false false) := by
  refine returnsInHanded_of_change_and (C := Tryd.checked) (X := fun w _ => laidMetH Tryd.prog laidL w) (fun _ _ _ hh h => h.of_heap hh) own started (by kernel_rfl) Tryd.func3
    (ChangeSpec.witness_shaped (enc := enc) (C := Tryd.checked) (os := os) (X := fun w _ => laidMetH Tryd.prog laidL w) false (World.doorLaid Tryd.prog 4000 os) #[.string ⟨#[]⟩] 8 rfl (World.shaped_of_RefB (by kernel_rfl) (by kernel_rfl)) (by kernel_rfl) (by kernel_rfl) (by kernel_rfl) (door_met os _)) ?_
  intro W base args ds gs before hval0 hW hcnd hsz0 hL _
  have hsz : (DataW.weightsEach Tryd.prog (Tryd.f3.params.toList ++ Rows.tokenFreshSpec.plain.varTypes Tryd.prog) (ds ++ gs)).all (· ≤ reachBytes) = true := hsz0
  clear hsz0
  have hval : ∀ (j : Nat) t v, Tryd.f3.params[j]? = some t → args[j]? = some v → Value.okWide Tryd.prog W .any base t v := hval0
  have hW' := hW
  obtain ⟨p, q, hA0, hV, rfl, hfz, hnd⟩ := hW
  have hA : DataW.TrodAll enc Tryd.prog W 0 (fun _ => true) true Tryd.f3.params.toList args.toList ds p := hA0
  rw [Tryd.params3] at hA hval hsz
  obtain ⟨va0, vs0, d0, ds0, p0, q0, hargs, rfl, rfl, h0, tr0⟩ := trodAll_cons hA
  obtain ⟨rfl, rfl, rfl⟩ := trodAll_nil tr0
  obtain rfl : args = #[va0] := by cases args; simp_all
  obtain ⟨rfl, rfl⟩ := trodVars_none hV
  have k0 := h0
  have lt0 : ∀ x ∈ p0, x.block < W.heap.size := by obtain ⟨m, hm⟩ := k0; exact DataW.trod_lt m _ _ _ hm
  have hL0 := hL
  rw [MakeChecks.laidMetH_plain _ _ _ (by kernel_rfl)] at hL0
  obtain ⟨s0, rfl, w0⟩ : ∃ s : ByteArray, va0 = .string s ∧ s.size ≤ 140737488351232 := by
    obtain ⟨s, rfl, hd, _, _⟩ := Go.ChangeMaps.open_string Tryd.underlying9 (hval 0 9 va0 rfl rfl) h0
    refine ⟨s, rfl, ?_⟩
    have hs := sized_string hsz (j := 0) (t := 9) rfl (congrArg some hd)
    simp only [Array.length_toList, reachBytes] at hs
    have : s.size = s.data.size := rfl
    omega
  clear hA0 hval0
  refine (walk s0 W w0 (of_pow hL0) (of_words hL0) (of_range hL0)).mono fun e W' ⟨he, bel⟩ => ?_
  subst he
  exact ⟨_, rfl, _, _, _, [], _, [], hW', trodAll_mk1 (shut_bool Tryd.underlying4 _), (trodAll_cons_mk (Below.trod laidOut (by kernel_rfl) (of_decide_eq_true (by kernel_rfl)) k0 bel lt0) trodAll_mk0), rfl, bel.frame _, fun h => by cases h⟩
theorem over : Rows.TokenFreshSaid :=
  OpenClaim.holds_of_wide 3 Tryd.f3 rfl rfl rfl rfl rfl rfl rfl ⟨rfl, rfl, rfl, rfl, rfl⟩ rfl rfl rfl rfl rfl (by kernel_rfl) Tryd.func3 (by kernel_rfl)
    (of_decide_eq_true (by kernel_rfl)) (by unfold Func.isWrapper; first | (rw [if_pos (by decide +kernel)]; kernel_rfl) | (rw [if_neg (by decide +kernel)]; exact ⟨rfl, rfl⟩))
    (fun os started H enc _ => lifted os started H enc)
theorem proved : Rows.TokenFreshCardSaid :=
  Claim7.holds_tied_plain_at .later [] [.data, .data, .data, .sentinel, .sentinel, .data] true (true, "ba57c75caf5e75d0820d2944f22bd4c1c3994eff4e92fb862c088bae7b2e379f") true
    over (fun _ h => by cases h) (by kernel_rfl) (fun _ h => by cases h) tokenFresh_row_tie rfl ⟨rfl, rfl⟩ (by kernel_rfl) rfl
    (fun f fn hf hfn => by
      obtain rfl : f = 3 := Option.some.inj ((show Tryd.prog.funcNamed "recoup/recouplaw09.TokenFresh" = some 3 by kernel_rfl).symm.trans hf) |>.symm
      obtain rfl : fn = Tryd.f3 := (Option.some.inj (Tryd.func3.symm.trans hfn)).symm
      exact ⟨by kernel_rfl, fun j t ht => by
        rw [Tryd.params3] at ht
        have hm : t ∈ [9] := by simpa using Array.mem_of_getElem? ht
        have hall : ([9].all fun u => !Tryd.prog.wantsStandIn u) = true := by kernel_rfl
        exact (show Tryd.prog.wantsStandIn t = false by simpa using List.all_eq_true.1 hall t hm)⟩)
    (by kernel_rfl)
#print axioms proved
end Go.Proofs.YtipjejkjoiifdabDoor.tokenFresh
