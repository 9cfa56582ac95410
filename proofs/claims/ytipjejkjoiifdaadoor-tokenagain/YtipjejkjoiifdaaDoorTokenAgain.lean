/-
  Proved: for all texts: what Cut tells, joined, is cut into the same, and each token stands behind the one ahead of it; or there is a fault with a place (P9.4); the listed tables hold what the program's text lays in them (the card's tie).
-/
import Derived.Test.YtipjejkjoiifdaaDoorAv
import Derived.Test.YtipjejkjoiifdaaDoorTie
import Derived.Test.YtipjejkjoiifdaaDoorCards
import Derived.WalkKit
import Derived.SizedLaws
import Derived.ProofKit
import Derived.LaidMore
import Derived.OpenShut
import Derived.ShutString
import Derived.ChangeOld
import Derived.Below
import Derived.Stop.Joined
import Derived.SevenTiedAt
import Derived.Lib.SmallJoins
import Derived.Lib.LaidTab
import Derived.MakeChecks
import Derived.Handed
import Derived.Stop.LaidErr
import Derived.ChangeMaps5
namespace Go.Proofs.YtipjejkjoiifdaaDoor.tokenAgain
open Go.ChangeShapes Go.WideShapes Go.ChangeAt Go.RowKit Go.Joins
set_option linter.unusedVariables false
theorem own : ownKnob Tryd.prog.godebug = none := by kernel_rfl
theorem laidOut : laidOutB Tryd.prog = true := by kernel_rfl
/-- What the listed variables hold. -/
def laidL : List (String × DataW Unit) := [("math/bits.deBruijn32tab", Rows.laid_math_bits_deBruijn32tab), ("math/bits.deBruijn64tab", Rows.laid_math_bits_deBruijn64tab), ("internal/strconv.uint64pow10", Rows.laid_internal_strconv_uint64pow10), ("strconv.ErrRange", Rows.laid_strconv_ErrRange), ("strconv.ErrSyntax", Rows.laid_strconv_ErrSyntax), ("recoup/token.words", Rows.laid_recoup_token_words)]
theorem door_met (os : Os) (args : Array Value) : laidMetH Tryd.prog laidL ((World.doorLaid Tryd.prog 4000 os).forCall (fun _ _ => 0) ⟨#[], args, []⟩).memory :=
  laidMetH_of_parts3 (fuel := 8) (laidMet_of_run' 8 (by kernel_rfl) (by kernel_rfl)) (by kernel_rfl) (by kernel_rfl)
theorem gTab : Tryd.prog.globalNamed "internal/strconv.uint64pow10" = some 4 := by kernel_rfl
theorem tTab : (Tryd.prog.globals[4]?).map (·.type) = some 95 := by kernel_rfl
theorem dTab : (Rows.laid_internal_strconv_uint64pow10 : DataW Unit) = Lib.tabData .u64 Lib.pow10Tab := by kernel_rfl
theorem of_pow {W : World} (h : laidMet Tryd.prog laidL W) : Tab9 W := by
  have hk := h.tail.tail
  rw [dTab] at hk
  exact Lib.tabIs_of_head gTab tTab Tryd.underlying95 Tryd.underlying75 (by kernel_rfl) (by kernel_rfl) hk
theorem gErr : Tryd.prog.globalNamed "strconv.ErrRange" = some 3 := by kernel_rfl
theorem tErr : (Tryd.prog.globals[3]?).map (·.type) = some 61 := by kernel_rfl
theorem star : "*" ++ "errors.errorString" = "*errors.errorString" := by decide
theorem rowErr (u : TypeId) (h : Tryd.prog.typeName? 3 u = some "*errors.errorString") : u = 90 :=
  typeName_ptr_named (nm := "errors.errorString") (by rw [star]; kernel_rfl) (by kernel_rfl) (by decide) u (by rw [star]; exact h)
theorem of_range {W : World} (h : laidMet Tryd.prog laidL W) : Er9 W := by
  obtain ⟨a, s, hv, _, _, _⟩ := laid_sentinel h.tail.tail.tail gErr tErr Tryd.underlying61 rowErr Tryd.underlying90 Tryd.underlying92 rfl rfl Tryd.underlying9 (by kernel_rfl) (by kernel_rfl)
  exact ⟨_, _, hv⟩
theorem gWds : Tryd.prog.globalNamed "recoup/token.words" = some 0 := by kernel_rfl
theorem tWds : (Tryd.prog.globals[0]?).map (·.type) = some 43 := by kernel_rfl
theorem dWds : (Rows.laid_recoup_token_words : DataW Unit) = .agg ((wds.map fun x => x.data.toList).map fun z => .lit (.string z)) := by kernel_rfl
theorem of_words {W : World} (h : laidMet Tryd.prog laidL W) : Wt9 W := by
  have hk := h.tail.tail.tail.tail.tail
  obtain ⟨ps, ⟨g0, t0, cs0, f0, p0, q0, hg0, ht0, hv0, hd0, _, _⟩, _, _⟩ := hk
  obtain rfl := Option.some.inj (gWds.symm.trans hg0)
  obtain rfl := Option.some.inj (tWds.symm.trans ht0)
  rw [dWds] at hd0
  have hc := cells_of_texts Tryd.underlying43 Tryd.underlying9 (by kernel_rfl) (by kernel_rfl) hd0
  unfold Wt9
  rw [hv0]
  obtain ⟨l⟩ := cs0
  have hl : l = wds.map Value.string := hc.trans (by kernel_rfl)
  rw [hl]

set_option maxRecDepth 20000 in
set_option maxHeartbeats 8000000 in
theorem walk (s0 : ByteArray) (w : World) (w0 : s0.size ≤ 140737488351232) (t0 : Tab9 w) (t1 : Wt9 w) (t2 : Er9 w) :
    Calls Tryd.prog 7 #[.string s0] w fun e w' => e = .returned (.bool true) ∧ Below w.heap.size w w' := by
  have HEv := jhid9 (show Ev9 w from ⟨t1, t2⟩)
  have HT := jhid9 t0
  obtain ⟨L, E, a, hA⟩ := cuta_ex s0
  have H1 : Hid (∀ w' : World, Below w.heap.size w w' → Calls Tryd.prog 11 #[.string s0] w' fun e w'' => CutP w' w'' e s0 L E a) := fun w' hb => tcut w' s0 L E a hA (HEv.out.later hb)
  have hE90 := cut_err hA
  by_cases hE : E = 0
  · subst hE
    obtain ⟨hs, hc⟩ : s0.size ≤ 65536 ∧ Cuts s0 0 L 0 a := by
      rcases hA with ⟨_, _, h, _⟩ | h
      · cases h
      · exact h
    obtain ⟨hk, hord⟩ := kof_facts hs hc
    have hn : L.length ≤ 65536 := by have := hc.len (Nat.zero_le _); omega
    obtain ⟨n, HN⟩ : ∃ n, Hid (L.length = n) := ⟨_, rfl⟩
    have HU : Hid (∀ w' : World, Below w.heap.size w w' → Calls Tryd.prog 11 #[.string s0] w' fun e w'' => ∃ (x : Option Addr) (d : Nat), e = .returned (.tuple #[.slice x n d, .agg #[.int .i64 0, .int .i64 0, .int .i64 0]]) ∧ Toks w'' x n (kof s0 L) ∧ Below w'.heap.size w' w'') := fun w' hb => (H1.out w' hb).mono (fun e w'' h => by
      obtain ⟨x, d, he, ht, hb⟩ := h.use (f0 := 0) (f1 := 0) (f2 := 0) (m := n) rfl (by rw [if_pos rfl]; exact HN.out)
      exact ⟨x, d, he, ⟨ht, fun i hi => (hk i (by rw [HN.out]; exact hi)).1⟩, hb⟩)
    rw [HN.out] at hk hord hn
    have hall : ∀ i, i < n → mayB (kof s0 L i) = true := fun i hi => (hk i hi).2.1
    generalize hK : kof s0 L = K at *
    have HK := jhid9 hk
    have HO := jhid9 hord
    obtain ⟨S, E2, hJ⟩ := join_ex K n
    have HJn : Hid (∀ (w' : World) (x : Option Addr) (d : Nat), Toks w' x n K → Below w.heap.size w w' → Calls Tryd.prog 16 #[.slice x n d] w' fun e w'' => e = .returned (.tuple #[.string S, .int .i64 (E2 : Int)]) ∧ Below w'.heap.size w' w'') := fun w' x d hx hb => tjoin w' x n d E2 K S hx (by omega) (HT.out.later hb) (HEv.out.1.later hb) hJ
    clear hA H1 hc hk hord hs
    rcases hJ with ⟨rfl, _, i, hi, hf⟩ | ⟨rfl, rfl, _, _⟩ | ⟨rfl, _, hsm, rfl⟩
    · rw [hall i hi] at hf
      cases hf
    · have HU2 : Hid (∀ w' : World, Below w.heap.size w w' → Calls Tryd.prog 11 #[.string ⟨#[]⟩] w' fun e w'' => ∃ (x : Option Addr) (d : Nat), e = .returned (.tuple #[.slice x 0 d, .agg #[.int .i64 0, .int .i64 0, .int .i64 0]]) ∧ Below w'.heap.size w' w'') := fun w' hb => (tcut w' _ [] 0 0 cut_nil (HEv.out.later hb)).mono (fun e w'' h => by
        obtain ⟨x, d, he, _, hb⟩ := h.use (f0 := 0) (f1 := 0) (f2 := 0) (m := 0) rfl rfl
        exact ⟨x, d, he, hb⟩)
      go_enter Tryd.func7, Tryd.ntmps7
      go_wp2_with (first
        | (go_at_call 11; have _x := HB3; refine (HU2.out _ HB3.out).mono ?_; rintro r w4 ⟨y, d4, rfl, hb4⟩; have HB4 := jhid9 (jtwo HB3.out hb4); clear hb4)
        | (go_at_call 11; refine (HU.out _ (Below.refl _ _)).mono ?_; rintro r w2 ⟨x, d, rfl, hx, hb2⟩; have HX2 := jhid9 hx; have HB2 := jhid9 hb2; clear hx hb2)
        | (go_at_call 16; refine (HJn.out _ x d (HX2.out.later (jlow _ _)) (jtwo HB2.out (jlow _ _))).mono ?_; rintro r w3 ⟨rfl, hb3⟩; have HB3 := jhid9 (jtwo HB2.out (jtwo (jlow _ _) hb3)); clear hb3)
        | (go_at_call 18; refine (anch9_any _ (HEv.out.later (jtwo HB4.out (jlow _ _)))).mono ?_; rintro r w5 ⟨rfl, hb5⟩; have HB5 := jhid9 (jtwo HB4.out (jtwo (jlow _ _) hb5)); clear hb5))
      go_ret
      exact ⟨rfl, HB5.out⟩
    · have hcut : CutA (jn K n) (tkl K 0 n) 0 0 := .inr ⟨by
        by_cases h0 : n = 0
        · subst h0; exact Nat.zero_le _
        · have := (jn_spec K n (by omega)).1
          omega, join_cut hall⟩
      have hjs : (jn K n).size ≤ 140737488351232 := by have := jn_size K n; omega
      have HU2 : Hid (∀ w' : World, Below w.heap.size w w' → Calls Tryd.prog 11 #[.string (jn K n)] w' fun e w'' => ∃ (x : Option Addr) (d : Nat), e = .returned (.tuple #[.slice x n d, .agg #[.int .i64 0, .int .i64 0, .int .i64 0]]) ∧ (∀ i, i < n → TvAt w'' x i (tvo (jn K n) ((tkl K 0 n).getD i ⟨0, 0, 0, 0⟩))) ∧ Below w'.heap.size w' w'') := fun w' hb => (tcut w' _ _ 0 0 hcut (HEv.out.later hb)).mono (fun e w'' h => by
        exact h.use (f0 := 0) (f1 := 0) (f2 := 0) (m := n) rfl (by rw [if_pos rfl, tkl_len]))
      have HE : Hid (∀ i, i < n → (K i).k = (tvo (jn K n) ((tkl K 0 n).getD i ⟨0, 0, 0, 0⟩)).k ∧ (K i).tx = (tvo (jn K n) ((tkl K 0 n).getD i ⟨0, 0, 0, 0⟩)).tx ∧ (K i).n = (tvo (jn K n) ((tkl K 0 n).getD i ⟨0, 0, 0, 0⟩)).n ∧ (false = true → (K i).ln = (tvo (jn K n) ((tkl K 0 n).getD i ⟨0, 0, 0, 0⟩)).ln ∧ (K i).cl = (tvo (jn K n) ((tkl K 0 n).getD i ⟨0, 0, 0, 0⟩)).cl)) := fun i hi => by
        obtain ⟨e1, e2⟩ := tkl_tx hall hi
        rw [tkl_get K n 0 i hi, Nat.zero_add]
        exact ⟨rfl, e1.symm, e2.symm, fun h => by cases h⟩
      generalize hS : jn K n = S at *
      clear hall hsm hcut hjs
      go_enter Tryd.func7, Tryd.ntmps7
      go_wp2_with (first
        | (go_at_call 11; have _x := HB3; refine (HU2.out _ HB3.out).mono ?_; rintro r w4 ⟨y, d4, rfl, ht, hb4⟩; have HT4 := jhid9 ht; have HX4 := jhid9 (HX3.out.later hb4); have HB4 := jhid9 (jtwo HB3.out hb4); clear ht hb4)
        | (go_at_call 11; refine (HU.out _ (Below.refl _ _)).mono ?_; rintro r w2 ⟨x, d, rfl, hx, hb2⟩; have HX2 := jhid9 hx; have HB2 := jhid9 hb2; clear hx hb2)
        | (go_at_call 16; refine (HJn.out _ x d (HX2.out.later (jlow _ _)) (jtwo HB2.out (jlow _ _))).mono ?_; rintro r w3 ⟨rfl, hb3⟩; have hb' := jtwo (jlow w2 _) hb3; have HX3 := jhid9 (HX2.out.later hb'); have HB3 := jhid9 (jtwo HB2.out hb'); clear hb3 hb')
        | (go_at_call 13; refine (rlike_true _ x y n d d4 false K (fun i => tvo S ((tkl K 0 n).getD i ⟨0, 0, 0, 0⟩)) (by omega) (fun i hi => (HX4.out.later (jlow _ _)).at_ i hi) (fun i hi => (HT4.out i hi).later (jlow _ _)) HE.out).mono ?_; rintro r w5 ⟨rfl, hb5⟩; have hb' := jtwo (jlow w4 _) hb5; have HX5 := jhid9 (HX4.out.later hb'); have HB5 := jhid9 (jtwo HB4.out hb'); clear hb5 hb'))
      go_loopw [9, 10, 11] (fun vl vc vi wr => ∃ (i : Nat) (la ca : Int), i ≤ n ∧ 0 ≤ la ∧ la ≤ 70000 ∧ 0 ≤ ca ∧ ca ≤ 70000 ∧ vi = .int .i64 (i : Int) ∧ vl = .int .i64 la ∧ vc = .int .i64 ca ∧ Hid (∀ j, i ≤ j → j < n → la < (K j).ln ∨ (la = (K j).ln ∧ ca < (K j).cl)) ∧ Below w5.heap.size w5 wr) (fun _ _ vi _ => n - (intOf vi).toNat)
      case atStart => exact ⟨0, 0, 0, by omega, by omega, by omega, by omega, by omega, rfl, rfl, rfl, fun j _ hj => .inl (by have := (HK.out j hj).2.2.1; omega), Below.refl _ _⟩
      case round =>
        obtain ⟨i, la, ca, hi, l1, l2, m1, m2, rfl, rfl, rfl, HL, hb⟩ := hrel
        have HB := jhid9 hb
        by_cases hlt : i < n
        · obtain ⟨b, o, k, tx, nn, ll, cc, rfl, hKi, hok, hcl⟩ := HX5.out.cells hlt
          obtain ⟨c0, c1, c2, c3, c4⟩ := hcl _ hb
          obtain ⟨_, _, g1, g2, g3, g4⟩ := HK.out i hlt
          have hLi := HL.out i (Nat.le_refl _) hlt
          have HL2 : Hid (∀ j, i + 1 ≤ j → j < n → ll < (K j).ln ∨ (ll = (K j).ln ∧ cc < (K j).cl)) := fun j h1 h2 => by
            have := HO.out i j (by omega) h2
            rw [hKi] at this
            exact this
          rw [hKi] at g1 g2 g3 g4 hLi
          have g1 : 1 ≤ ll := g1
          have g2 : 1 ≤ cc := g2
          have g3 : ll ≤ 70000 := g3
          have g4 : cc ≤ 70000 := g4
          have hLi : la < ll ∨ (la = ll ∧ ca < cc) := hLi
          have q1 : decide (ll < la) = false := decide_eq_false (by omega)
          have p0 : (0 : Int) ≤ (i : Int) := by omega
          have p1 : (i : Int) < (n : Int) := by omega
          clear hKi hok hcl hb
          by_cases e : ll = la
          · subst e
            have q3 : decide (cc ≤ ca) = false := decide_eq_false (by omega)
            clear hLi
            go_wp2
            go_quiet (fail)
            go_wp2
            exact ⟨⟨i + 1, ll, cc, by omega, by omega, by omega, by omega, by omega, by go_num, rfl, rfl, HL2, below_drewN HB.out _⟩, by simp [intOf]; omega⟩
          · have q2 : (ll == la) = false := by simpa using e
            clear hLi
            go_wp2
            go_quiet (fail)
            go_wp2
            exact ⟨⟨i + 1, ll, cc, by omega, by omega, by omega, by omega, by omega, by go_num, rfl, rfl, HL2, below_drewN HB.out _⟩, by simp [intOf]; omega⟩
        · obtain rfl : i = n := by omega
          clear hb
          go_wp2_with (go_at_call 18; refine (anch9_any _ (HEv.out.later (jtwo HB5.out HB.out))).mono ?_; rintro r w6 ⟨rfl, hb6⟩; have HB6 := jhid9 (jtwo HB5.out (jtwo HB.out hb6)); clear hb6)
          go_ret
          exact ⟨rfl, HB6.out⟩
  · obtain ⟨la, HLa⟩ : ∃ la, Hid (lnn s0 a = la) := ⟨_, rfl⟩
    obtain ⟨ca, HCa⟩ : ∃ ca, Hid (cln s0 a = ca) := ⟨_, rfl⟩
    have hla : 1 ≤ la := by rw [← HLa.out]; exact (lnn_le s0 a).1
    have hca : 1 ≤ ca := by rw [← HCa.out]; exact (cln_le s0 a).1
    have HU : Hid (∀ w' : World, Below w.heap.size w w' → Calls Tryd.prog 11 #[.string s0] w' fun e w'' => ∃ (x : Option Addr) (d : Nat), e = .returned (.tuple #[.slice x 0 d, .agg #[.int .i64 (E : Int), .int .i64 (la : Int), .int .i64 (ca : Int)]]) ∧ Below w'.heap.size w' w'') := fun w' hb => (H1.out w' hb).mono (fun e w'' h => by
      obtain ⟨x, d, he, _, hb⟩ := h.use (f0 := (E : Int)) (f1 := (la : Int)) (f2 := (ca : Int)) (m := 0) (by rw [if_neg hE, HLa.out, HCa.out]) (if_neg hE)
      exact ⟨x, d, he, hb⟩)
    have q1 : ((E : Int) == 0) = false := by simpa using hE
    have q2 : ((E : Int) != 0) = true := by simpa using hE
    have q3 : decide ((1 : Int) ≤ (la : Int)) = true := decide_eq_true (by omega)
    have q4 : decide ((1 : Int) ≤ (ca : Int)) = true := decide_eq_true (by omega)
    have q5 : decide (1 ≤ la) = true := decide_eq_true hla
    have q6 : decide (1 ≤ ca) = true := decide_eq_true hca
    clear hA H1
    go_enter Tryd.func7, Tryd.ntmps7
    go_wp2_with (first
      | (go_at_call 11; refine (HU.out _ (Below.refl _ _)).mono ?_; rintro r w2 ⟨x, d, rfl, hb2⟩; have HB2 := jhid9 hb2; clear hb2)
      | (go_at_call 18; refine (anch9_any _ (HEv.out.later (jtwo HB2.out (jlow _ _)))).mono ?_; rintro r w5 ⟨rfl, hb5⟩; have hv := (Vn.new w2 29 #[.int .i64 (E : Int), .int .i64 (la : Int), .int .i64 (ca : Int)]).later hb5; have k1 := hv.cell 1 _ rfl; have k2 := hv.cell 2 _ rfl; have HB5 := jhid9 (jtwo HB2.out (jtwo (jlow _ _) hb5)); clear hb5 hv))
    go_ret
    exact ⟨rfl, HB5.out⟩
set_option maxRecDepth 100000 in
set_option maxHeartbeats 2000000 in
theorem lifted (os : Os) (started : os.Started) (H : Type) (enc : TypeId × Value → H) :
    ReturnsInHanded {} Tryd.checked os 7 .any (fun w args => (Rows.tokenAgainSpec.pre enc Tryd.prog Tryd.f7 [] false w args ∧ laidMetH Tryd.prog laidL w) ∧ sizedMet enc Tryd.prog Tryd.f7 (OpenSpec.ofChange Rows.tokenAgainSpec) false w args)
      (Rows.tokenAgainSpec.post enc Tryd.prog Tryd.f7 false true false false) := by
  refine returnsInHanded_of_change_and (C := Tryd.checked) (X := fun w _ => laidMetH Tryd.prog laidL w) (fun _ _ _ hh h => h.of_heap hh) own started (by kernel_rfl) Tryd.func7
    (ChangeSpec.witness_shaped (enc := enc) (C := Tryd.checked) (os := os) (X := fun w _ => laidMetH Tryd.prog laidL w) false (World.doorLaid Tryd.prog 4000 os) #[.string ⟨#[]⟩] 8 rfl (World.shaped_of_RefB (by kernel_rfl) (by kernel_rfl)) (by kernel_rfl) (by kernel_rfl) (by kernel_rfl) (door_met os _)) ?_
  intro W base args ds gs before hval0 hW hcnd hsz0 hL _
  have hsz : (DataW.weightsEach Tryd.prog (Tryd.f7.params.toList ++ Rows.tokenAgainSpec.plain.varTypes Tryd.prog) (ds ++ gs)).all (· ≤ reachBytes) = true := hsz0
  clear hsz0
  have hval : ∀ (j : Nat) t v, Tryd.f7.params[j]? = some t → args[j]? = some v → Value.okWide Tryd.prog W .any base t v := hval0
  have hW' := hW
  obtain ⟨p, q, hA0, hV, rfl, hfz, hnd⟩ := hW
  have hA : DataW.TrodAll enc Tryd.prog W 0 (fun _ => true) true Tryd.f7.params.toList args.toList ds p := hA0
  rw [Tryd.params7] at hA hval hsz
  obtain ⟨va0, vs0, d0, ds0, p0, q0, hargs, rfl, rfl, h0, tr0⟩ := trodAll_cons hA
  obtain ⟨rfl, rfl, rfl⟩ := trodAll_nil tr0
  obtain rfl : args = #[va0] := by cases args; simp_all
  obtain ⟨rfl, rfl⟩ := trodVars_none hV
  have k0 := h0
  have lt0 : ∀ x ∈ p0, x.block < W.heap.size := by obtain ⟨m, hm⟩ := k0; exact DataW.trod_lt m _ _ _ hm
  have hL0 := hL
  rw [MakeChecks.laidMetH_plain _ _ _ (by kernel_rfl)] at hL0
  obtain ⟨s0, rfl, w0⟩ : ∃ s : ByteArray, va0 = .string s ∧ s.size ≤ 140737488351232 := by
    obtain ⟨s, rfl, hd, _, _⟩ := Go.ChangeMaps.open_string Tryd.underlying9 (hval 0 9 va0 rfl rfl) h0
    refine ⟨s, rfl, ?_⟩
    have hs := sized_string hsz (j := 0) (t := 9) rfl (congrArg some hd)
    simp only [Array.length_toList, reachBytes] at hs
    have : s.size = s.data.size := rfl
    omega
  clear hA0 hval0
  refine (walk s0 W w0 (of_pow hL0) (of_words hL0) (of_range hL0)).mono fun e W' ⟨he, bel⟩ => ?_
  subst he
  exact ⟨_, rfl, _, _, _, [], _, [], hW', trodAll_mk1 (shut_bool Tryd.underlying4 _), (trodAll_cons_mk (Below.trod laidOut (by kernel_rfl) (of_decide_eq_true (by kernel_rfl)) k0 bel lt0) trodAll_mk0), rfl, bel.frame _, fun h => by cases h⟩
theorem over : Rows.TokenAgainSaid :=
  OpenClaim.holds_of_wide 7 Tryd.f7 rfl rfl rfl rfl rfl rfl rfl ⟨rfl, rfl, rfl, rfl, rfl⟩ rfl rfl rfl rfl rfl (by kernel_rfl) Tryd.func7 (by kernel_rfl)
    (of_decide_eq_true (by kernel_rfl)) (by unfold Func.isWrapper; first | (rw [if_pos (by decide +kernel)]; kernel_rfl) | (rw [if_neg (by decide +kernel)]; exact ⟨rfl, rfl⟩))
    (fun os started H enc _ => lifted os started H enc)
theorem proved : Rows.TokenAgainCardSaid :=
  Claim7.holds_tied_plain_at .later [] [.data, .data, .data, .sentinel, .sentinel, .data] true (true, "5215d5b3646cb0ea1153a510b30e6e53c6bd7434a4e791b14c076d0587fd2be8") true
    over (fun _ h => by cases h) (by kernel_rfl) (fun _ h => by cases h) tokenAgain_row_tie rfl ⟨rfl, rfl⟩ (by kernel_rfl) rfl
    (fun f fn hf hfn => by
      obtain rfl : f = 7 := Option.some.inj ((show Tryd.prog.funcNamed "recoup/recouplaw09.TokenAgain" = some 7 by kernel_rfl).symm.trans hf) |>.symm
      obtain rfl : fn = Tryd.f7 := (Option.some.inj (Tryd.func7.symm.trans hfn)).symm
      exact ⟨by kernel_rfl, fun j t ht => by
        rw [Tryd.params7] at ht
        have hm : t ∈ [9] := by simpa using Array.mem_of_getElem? ht
        have hall : ([9].all fun u => !Tryd.prog.wantsStandIn u) = true := by kernel_rfl
        exact (show Tryd.prog.wantsStandIn t = false by simpa using List.all_eq_true.1 hall t hm)⟩)
    (by kernel_rfl)
#print axioms proved
end Go.Proofs.YtipjejkjoiifdaaDoor.tokenAgain
