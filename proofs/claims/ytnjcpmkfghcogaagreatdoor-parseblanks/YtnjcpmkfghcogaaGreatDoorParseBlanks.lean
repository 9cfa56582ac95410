/-
  Proved: for all texts and numbers of blanks: blanks and a remark ahead and behind change nothing of what Program tells but places (P11.5); no condition.
-/
import Derived.Test.YtnjcpmkfghcogaaGreatDoorQbbks00
import Derived.Test.YtnjcpmkfghcogaaGreatDoorQbbks45
import Derived.Test.YtnjcpmkfghcogaaGreatDoorTie
import Derived.Test.YtnjcpmkfghcogaaGreatDoorCards
import Derived.Test.YtnjcpmkfghcogaaGreatDoorQbbks47
import Derived.Test.YtnjcpmkfghcogaaGreatDoorQbbks50
import Derived.WalkKit
import Derived.SizedLaws
import Derived.ProofKit
import Derived.LaidMore
import Derived.OpenShut
import Derived.ShutString
import Derived.ChangeOld
import Derived.Below
import Derived.Stop.Joined
import Derived.SevenTiedAt
import Derived.Lib.SmallJoins
import Derived.Lib.LaidTab
import Derived.MakeChecks
import Derived.Handed
import Derived.Stop.LaidErr
set_option maxRecDepth 100000
set_option maxHeartbeats 16000000
namespace Go.Proofs.YtnjcpmkfghcogaaGreatDoor.parseBlanks
open Go.ChangeShapes Go.WideShapes Go.ChangeAt Go.RowKit Go.Joins
set_option linter.unusedVariables false
theorem own : ownKnob Tryz.prog.godebug = none := by kernel_rfl
theorem laidOut : laidOutB Tryz.prog = true := by kernel_rfl
def laidL : List (String × DataW Unit) := [("math/bits.deBruijn32tab", Rows.laid_math_bits_deBruijn32tab), ("math/bits.deBruijn64tab", Rows.laid_math_bits_deBruijn64tab), ("internal/strconv.uint64pow10", Rows.laid_internal_strconv_uint64pow10), ("strconv.ErrRange", Rows.laid_strconv_ErrRange), ("strconv.ErrSyntax", Rows.laid_strconv_ErrSyntax), ("recoup/token.words", Rows.laid_recoup_token_words)]
theorem door_met (os : Os) (args : Array Value) : laidMetH Tryz.prog laidL ((World.doorLaid Tryz.prog 4000 os).forCall (fun _ _ => 0) ⟨#[], args, []⟩).memory :=
 laidMetH_of_parts3 (fuel := 8) (laidMet_of_run' 8 (by kernel_rfl) (by kernel_rfl)) (by kernel_rfl) (by kernel_rfl)
theorem gTab : Tryz.prog.globalNamed "internal/strconv.uint64pow10" = some 5 := by kernel_rfl
theorem tTab : (Tryz.prog.globals[5]?).map (·.type) = some 189 := by kernel_rfl
theorem dTab : (Rows.laid_internal_strconv_uint64pow10 : DataW Unit) = Lib.tabData .u64 Lib.pow10Tab := by kernel_rfl
theorem of_pow {W : World} (h : laidMet Tryz.prog laidL W) : Tab9 W := by
 have hk := h.tail.tail
 rw [dTab] at hk
 exact Lib.tabIs_of_head gTab tTab Tryz.underlying189 Tryz.underlying179 (by kernel_rfl) (by kernel_rfl) hk
theorem gWds : Tryz.prog.globalNamed "recoup/token.words" = some 4 := by kernel_rfl
theorem tWds : (Tryz.prog.globals[4]?).map (·.type) = some 184 := by kernel_rfl
theorem dWds : (Rows.laid_recoup_token_words : DataW Unit) = .agg ((wds.map fun x => x.data.toList).map fun z => .lit (.string z)) := by kernel_rfl
theorem of_words {W : World} (h : laidMet Tryz.prog laidL W) : Wt9 W := by
 have hk := h.tail.tail.tail.tail.tail
 obtain ⟨ps, ⟨g0, t0, cs0, f0, p0, q0, hg0, ht0, hv0, hd0, _, _⟩, _, _⟩ := hk
 obtain rfl := Option.some.inj (gWds.symm.trans hg0)
 obtain rfl := Option.some.inj (tWds.symm.trans ht0)
 rw [dWds] at hd0
 have hc := qeo Tryz.underlying184 Tryz.underlying9 (by kernel_rfl) (by kernel_rfl) hd0
 unfold Wt9
 rw [hv0]
 obtain ⟨l⟩ := cs0
 have hl : l = wds.map Value.string := hc.trans (by kernel_rfl)
 rw [hl]
theorem gErr : Tryz.prog.globalNamed "strconv.ErrRange" = some 8 := by kernel_rfl
theorem tErr : (Tryz.prog.globals[8]?).map (·.type) = some 164 := by kernel_rfl
theorem star : "*" ++ "errors.errorString" = "*errors.errorString" := by decide
theorem rowErr (u : TypeId) (h : Tryz.prog.typeName? 3 u = some "*errors.errorString") : u = 210 :=
 typeName_ptr_named (nm := "errors.errorString") (by rw [star]; kernel_rfl) (by kernel_rfl) (by decide) u (by rw [star]; exact h)
theorem of_range {W : World} (h : laidMet Tryz.prog laidL W) : Er9 W := by
 obtain ⟨a, s, hv, _, _, _⟩ := laid_sentinel h.tail.tail.tail gErr tErr Tryz.underlying164 rowErr Tryz.underlying210 Tryz.underlying212 rfl rfl Tryz.underlying9 (by kernel_rfl) (by kernel_rfl)
 exact ⟨_, _, hv⟩

theorem walk (s0 : ByteArray) (n1 : Nat) (w : World) (w0 : s0.size ≤ 140737488351232) (w1 : n1 < 256) (t0 : Tab9 w) (t1 : Wt9 w) (t6 : Er9 w) :
  Calls Tryz.prog 8 #[.string s0, .int .u8 (n1 : Int)] w fun e w' => e = .returned (.bool true) ∧ Below w.heap.size w w' := by
 have H9 : Hid (Ev9 w) := ⟨t1, t6⟩
 have HA : Hid (∀ w' : World, Below w.heap.size w w' → Calls Tryz.prog 14 #[] w' fun e w'' => e = .returned (.bool true) ∧ Below w'.heap.size w' w'') := fun w' hb => qid w' (t0.later hb) (H9.out.later hb)
 clear t0 t1 t6
 try clear t2
 try clear t3
 try clear t4
 try clear t5
 have HAz : Hid (∀ i, (ahd i).size = 8 + i) := qbs
 have HAs : Hid (∀ i, ahd (i + 1) = ahd i ++ ⟨#[32]⟩) := fun _ => rfl
 have HA0 : Hid ((⟨#[35, 32, 97, 104, 101, 97, 100, 10]⟩ : ByteArray) = ahd 0) := rfl
 by_cases hbig : 65536 < s0.size + n1 + 20
 ·have q0 : decide ((65536 : Int) < (s0.size : Int) + (n1 : Int) + 20) = true := decide_eq_true (by omega)
  go_enter Tryz.func8, Tryz.ntmps8
  go_wp2_with (go_at_call 14; refine (HA.out _ (Below.refl _ _)).mono ?_; rintro e w1 ⟨rfl, hb1⟩; have HB1 := qa0 hb1; clear hb1)
  go_ret
  exact ⟨rfl, HB1.out⟩
 ·have q0 : decide ((65536 : Int) < (s0.size : Int) + (n1 : Int) + 20) = false := decide_eq_false (by omega)
  obtain ⟨bl1, bl2⟩ := blanks11 (s := s0) (k := n1) (by omega)
  rcases pg_ways s0 with ⟨l, hR, hm⟩ | hno
  ·obtain ⟨l', r1, r2, r3, r4⟩ := bl1 l hR
   rw [hm] at r4
   have HP1 : Hid (∀ w' : World, Below w.heap.size w w' → Calls Tryz.prog 9 #[.string s0] w' fun e w'' => (∃ a c, e = .returned (.tuple #[.slice a l.length c, .agg #[.int .i64 0, .int .i64 0, .int .i64 0]]) ∧ Its w'' a l.length (gi l)) ∧ Below w'.heap.size w' w'') := fun w' hb => (pg_ok hR hm w' (H9.out.later hb)).mono (fun e w'' h => by
    obtain ⟨⟨v, rfl, hf⟩, hb2⟩ := h
    obtain ⟨a, c, rfl, _, _, hi⟩ := hf.now
    exact ⟨⟨a, c, rfl, hi⟩, hb2⟩)
   have HP2 : Hid (∀ w' : World, Below w.heap.size w w' → Calls Tryz.prog 9 #[.string (ahd n1 ++ s0 ++ ⟨#[32, 35, 32, 98, 101, 104, 105, 110, 100]⟩)] w' fun e w'' => (∃ a c, e = .returned (.tuple #[.slice a l'.length c, .agg #[.int .i64 0, .int .i64 0, .int .i64 0]]) ∧ Its w'' a l'.length (gi l')) ∧ Below w'.heap.size w' w'') := fun w' hb => (pg_ok r1 r4 w' (H9.out.later hb)).mono (fun e w'' h => by
    obtain ⟨⟨v, rfl, hf⟩, hb2⟩ := h
    obtain ⟨a, c, rfl, _, _, hi⟩ := hf.now
    exact ⟨⟨a, c, rfl, hi⟩, hb2⟩)
   have h64 := (qgl hm).1
   have HL : Hid (∀ (w' : World) (a a' : Option Addr) (c c' : Nat), Its w' a l.length (gi l) → Its w' a' l'.length (gi l') → Calls Tryz.prog 11 #[.slice a l.length c, .slice a' l'.length c'] w' fun e w'' => e = .returned (.bool true) ∧ Below w'.heap.size w' w'') := fun w' a a' c c' h1 h2 => (rlike10 w' a a' l.length l'.length c c' (gi l) (gi l') h1 h2 (by omega) (by omega) (fun i hi => ((qgl hm).2 i hi).fin)).mono (fun e w'' h => by
    have e1 : (decide (l.length = l'.length) && alB (fun i => liB (gi l i) (gi l' i)) l.length) = true := by
     rw [decide_eq_true r2.symm, Bool.true_and, qfe]
     exact fun i hi => li_iff.2 (r3 i hi)
    rw [e1] at h
    exact h)
   have HI1 : Hid (∀ (w' w'' : World) (a : Option Addr), Its w' a l.length (gi l) → Below w'.heap.size w' w'' → Its w'' a l.length (gi l)) := fun w' w'' a h hb => h.later hb
   have HI2 : Hid (∀ (w' w'' : World) (a : Option Addr), Its w' a l'.length (gi l') → Below w'.heap.size w' w'' → Its w'' a l'.length (gi l')) := fun w' w'' a h hb => h.later hb
   clear hR hm r1 r2 r3 r4 h64 H9 bl1 bl2
   generalize gi l = F at *
   generalize gi l' = G at *
   generalize l.length = n at *
   generalize l'.length = m at *
   have M1 : True := trivial
   have M2 : True := trivial
   go_enter Tryz.func8, Tryz.ntmps8
   go_wp2_with (first
    | (go_at_call 9; clear M1; refine (HP1.out _ (Below.refl _ _)).mono ?_; rintro e w1 ⟨⟨a, c, rfl, hi⟩, hb1⟩; have HB1 := qa0 hb1; have HF1 := qa0 hi; clear hb1 hi)
    | (clear M2; refine qa1 rfl 25 _ _ rfl w1.heap.size _ #[.int .i64 0, .int .i64 0, .int .i64 0] rfl rfl (Vn.new w1 _ _) qa5 rfl (qab rfl rfl rfl) ?_; intro w2 HV2 hg2; have hb2 : Below w1.heap.size w1 w2 := (jlow _ _).trans (jbelow hg2.out (jlow _ _).size (fun g e => by cases e; exact Nat.le_refl _)); have HB2 := qa0 (jtwo HB1.out hb2); have HF2 := qa0 (HI1.out _ _ _ HF1.out hb2); clear hg2 hb2))
   go_loopw [7, 8] (fun vs vi wr => ∃ i : Nat, i ≤ n1 ∧ vs = .string (ahd i) ∧ vi = .int .i64 (i : Int) ∧ Below w2.heap.size w2 wr) (fun _ vi _ => n1 - (intOf vi).toNat)
   case atStart => exact ⟨0, by omega, by rw [← HA0.out], rfl, Below.refl _ _⟩
   case round =>
    obtain ⟨i, hi, rfl, rfl, hb⟩ := hrel
    have HB := qa0 hb
    have hz := HAz.out i
    by_cases hlt : i < n1
    ·have p0 : decide ((i : Int) < (n1 : Int)) = true := decide_eq_true (by omega)
     go_wp2
     exact ⟨⟨i + 1, by omega, by rw [HAs.out], by go_num, HB.out⟩, by simp [intOf]; omega⟩
    ·obtain rfl : i = n1 := by omega
     have p0 : decide ((i : Int) < (i : Int)) = false := decide_eq_false (by omega)
     have HB3 := qa0 (jtwo HB2.out hb)
     have HV3 := qa0 (HV2.out.later hb)
     have HF3 := qa0 (HI1.out _ _ _ HF2.out hb)
     clear hb
     go_wp2_with (first
      | (go_at_call 9; refine (HP2.out _ HB3.out).mono ?_; rintro e w4 ⟨⟨a', c', rfl, hi⟩, hb4⟩; have HB4 := qa0 (jtwo HB3.out hb4); have HF4 := qa0 (HI1.out _ _ _ HF3.out hb4); have HG4 := qa0 hi; have HV4 := qa0 (HV3.out.later hb4); clear hb4 hi)
      | (refine qa1 rfl 25 _ _ rfl w4.heap.size _ #[.int .i64 0, .int .i64 0, .int .i64 0] rfl rfl (Vn.new w4 _ _) qa5 rfl (qab rfl rfl rfl) ?_; intro w5 HW5 hg5; have hb5 : Below w4.heap.size w4 w5 := (jlow _ _).trans (jbelow hg5.out (jlow _ _).size (fun g e => by cases e; exact Nat.le_refl _)); have HB5 := qa0 (jtwo HB4.out hb5); have HV5 := qa0 (HV4.out.later hb5); have HF5 := qa0 (HI1.out _ _ _ HF4.out hb5); have HG5 := qa0 (HI2.out _ _ _ HG4.out hb5); have f0 := HV5.out.cell 0 _ rfl; clear hg5 hb5)
      | (go_at_call 14; refine (HA.out _ HB5.out).mono ?_; rintro e w6 ⟨rfl, hb6⟩; have HB6 := qa0 (jtwo HB5.out hb6); have HW6 := qa0 (HW5.out.later hb6); have HF6 := qa0 (HI1.out _ _ _ HF5.out hb6); have HG6 := qa0 (HI2.out _ _ _ HG5.out hb6); have g0 := HW6.out.cell 0 _ rfl; clear hb6)
      | (go_at_call 11; refine (HL.out _ _ _ _ _ HF6.out HG6.out).mono ?_; rintro e w7 ⟨rfl, hb7⟩; have HB7 := qa0 (jtwo HB6.out hb7); clear hb7))
     go_ret
     exact ⟨rfl, HB7.out⟩
  ·have hN : PgNo (fun _ => True) s0 ∧ PgNo (fun _ => True) (bS n1 s0) := by
    rcases hno with ⟨l, hR, hm⟩ | hno
    ·obtain ⟨l', r1, r2, r3, r4⟩ := bl1 l hR
     rw [hm] at r4
     exact ⟨(qkc hR hm).any, (qkc r1 r4).any⟩
    ·exact ⟨qkd hno, qkd (bl2 hno)⟩
   have HP1 : Hid (∀ w' : World, Below w.heap.size w w' → Calls Tryz.prog 9 #[.string s0] w' fun e w'' => (∃ c ln cl : Int, e = .returned (.tuple #[.slice none 0 0, .agg #[.int .i64 c, .int .i64 ln, .int .i64 cl]]) ∧ c ≠ 0) ∧ Below w'.heap.size w' w'') := fun w' hb => (hN.1 w' (H9.out.later hb)).mono (fun e w'' h => by
    obtain ⟨⟨c, ln, cl, rfl, hc, _⟩, hb2⟩ := h
    exact ⟨⟨c, ln, cl, rfl, hc⟩, hb2⟩)
   have HP2 : Hid (∀ w' : World, Below w.heap.size w w' → Calls Tryz.prog 9 #[.string (ahd n1 ++ s0 ++ ⟨#[32, 35, 32, 98, 101, 104, 105, 110, 100]⟩)] w' fun e w'' => (∃ c ln cl : Int, e = .returned (.tuple #[.slice none 0 0, .agg #[.int .i64 c, .int .i64 ln, .int .i64 cl]]) ∧ c ≠ 0) ∧ Below w'.heap.size w' w'') := fun w' hb => (hN.2 w' (H9.out.later hb)).mono (fun e w'' h => by
    obtain ⟨⟨c, ln, cl, rfl, hc, _⟩, hb2⟩ := h
    exact ⟨⟨c, ln, cl, rfl, hc⟩, hb2⟩)
   clear hN hno H9 bl1 bl2
   have M1 : True := trivial
   have M2 : True := trivial
   go_enter Tryz.func8, Tryz.ntmps8
   go_wp2_with (first
    | (go_at_call 9; clear M1; refine (HP1.out _ (Below.refl _ _)).mono ?_; rintro e w1 ⟨⟨c, ln, cl, rfl, hc⟩, hb1⟩; have HB1 := qa0 hb1; have q1 : (c == 0) = false := beq_eq_false_iff_ne.2 hc; have q2 : (c != 0) = true := (by simp; omega); clear hb1 hc)
    | (clear M2; refine qa1 rfl 25 _ _ rfl w1.heap.size _ #[.int .i64 c, .int .i64 ln, .int .i64 cl] rfl rfl (Vn.new w1 _ _) qa5 rfl (qab rfl rfl rfl) ?_; intro w2 HV2 hg2; have hb2 : Below w1.heap.size w1 w2 := (jlow _ _).trans (jbelow hg2.out (jlow _ _).size (fun g e => by cases e; exact Nat.le_refl _)); have HB2 := qa0 (jtwo HB1.out hb2); clear hg2 hb2))
   go_loopw [7, 8] (fun vs vi wr => ∃ i : Nat, i ≤ n1 ∧ vs = .string (ahd i) ∧ vi = .int .i64 (i : Int) ∧ Below w2.heap.size w2 wr) (fun _ vi _ => n1 - (intOf vi).toNat)
   case atStart => exact ⟨0, by omega, by rw [← HA0.out], rfl, Below.refl _ _⟩
   case round =>
    obtain ⟨i, hi, rfl, rfl, hb⟩ := hrel
    have HB := qa0 hb
    have hz := HAz.out i
    by_cases hlt : i < n1
    ·have p0 : decide ((i : Int) < (n1 : Int)) = true := decide_eq_true (by omega)
     go_wp2
     exact ⟨⟨i + 1, by omega, by rw [HAs.out], by go_num, HB.out⟩, by simp [intOf]; omega⟩
    ·obtain rfl : i = n1 := by omega
     have p0 : decide ((i : Int) < (i : Int)) = false := decide_eq_false (by omega)
     have HB3 := qa0 (jtwo HB2.out hb)
     have HV3 := qa0 (HV2.out.later hb)
     clear hb
     go_wp2_with (first
      | (go_at_call 9; refine (HP2.out _ HB3.out).mono ?_; rintro e w4 ⟨⟨c', ln', cl', rfl, hc'⟩, hb4⟩; have HB4 := qa0 (jtwo HB3.out hb4); have HV4 := qa0 (HV3.out.later hb4); have q3 : (c' == 0) = false := beq_eq_false_iff_ne.2 hc'; have q4 : (c' != 0) = true := (by simp; omega); clear hb4 hc')
      | (refine qa1 rfl 25 _ _ rfl w4.heap.size _ #[.int .i64 c', .int .i64 ln', .int .i64 cl'] rfl rfl (Vn.new w4 _ _) qa5 rfl (qab rfl rfl rfl) ?_; intro w5 HW5 hg5; have hb5 : Below w4.heap.size w4 w5 := (jlow _ _).trans (jbelow hg5.out (jlow _ _).size (fun g e => by cases e; exact Nat.le_refl _)); have HB5 := qa0 (jtwo HB4.out hb5); have HV5 := qa0 (HV4.out.later hb5); have f0 := HV5.out.cell 0 _ rfl; clear hg5 hb5)
      | (go_at_call 14; refine (HA.out _ HB5.out).mono ?_; rintro e w6 ⟨rfl, hb6⟩; have HB6 := qa0 (jtwo HB5.out hb6); have HW6 := qa0 (HW5.out.later hb6); have g0 := HW6.out.cell 0 _ rfl; clear hb6))
     go_ret
     exact ⟨rfl, HB6.out⟩
theorem lifted (os : Os) (started : os.Started) (H : Type) (enc : TypeId × Value → H) :
  ReturnsInHanded {} Tryz.checked os 8 .any (fun w args => (Rows.parseBlanksSpec.pre enc Tryz.prog Tryz.f8 [] false w args ∧ laidMetH Tryz.prog laidL w) ∧ sizedMet enc Tryz.prog Tryz.f8 (OpenSpec.ofChange Rows.parseBlanksSpec) false w args)
   (Rows.parseBlanksSpec.post enc Tryz.prog Tryz.f8 false true false false) := by
 refine returnsInHanded_of_change_and (C := Tryz.checked) (X := fun w _ => laidMetH Tryz.prog laidL w) (fun _ _ _ hh h => h.of_heap hh) own started (by kernel_rfl) Tryz.func8
  (ChangeSpec.witness_shaped (enc := enc) (C := Tryz.checked) (os := os) (X := fun w _ => laidMetH Tryz.prog laidL w) false (World.doorLaid Tryz.prog 4000 os) #[.string ⟨#[]⟩, .int .u8 0] 8 rfl (World.shaped_of_RefB (by kernel_rfl) (by kernel_rfl)) (by kernel_rfl) (by kernel_rfl) (by kernel_rfl) (door_met os _)) ?_
 intro W base args ds gs before hval0 hW hcnd hsz0 hL _
 have hsz : (DataW.weightsEach Tryz.prog (Tryz.f8.params.toList ++ Rows.parseBlanksSpec.plain.varTypes Tryz.prog) (ds ++ gs)).all (· ≤ reachBytes) = true := hsz0
 clear hsz0
 have hval : ∀ (j : Nat) t v, Tryz.f8.params[j]? = some t → args[j]? = some v → Value.okWide Tryz.prog W .any base t v := hval0
 have hW' := hW
 obtain ⟨p, q, hA0, hV, rfl, hfz, hnd⟩ := hW
 have hA : DataW.TrodAll enc Tryz.prog W 0 (fun _ => true) true Tryz.f8.params.toList args.toList ds p := hA0
 rw [Tryz.params8] at hA hval hsz
 obtain ⟨va0, vs0, d0, ds0, p0, q0, hargs0, rfl, rfl, h0, tr0⟩ := trodAll_cons hA
 obtain ⟨va1, vs1, d1, ds1, p1, q1, hargs1, rfl, rfl, h1, tr1⟩ := trodAll_cons tr0
 obtain ⟨rfl, rfl, rfl⟩ := trodAll_nil tr1
 obtain rfl : args = #[va0, va1] := by cases args; simp_all
 obtain ⟨rfl, rfl⟩ := trodVars_none hV
 have k0 := h0
 have lt0 : ∀ x ∈ p0, x.block < W.heap.size := by obtain ⟨m, hm⟩ := k0; exact DataW.trod_lt m _ _ _ hm
 have k1 := h1
 have lt1 : ∀ x ∈ p1, x.block < W.heap.size := by obtain ⟨m, hm⟩ := k1; exact DataW.trod_lt m _ _ _ hm
 have hL0 := hL
 rw [MakeChecks.laidMetH_plain _ _ _ (by kernel_rfl)] at hL0
 obtain ⟨s0, rfl, w0⟩ : ∃ s : ByteArray, va0 = .string s ∧ s.size ≤ 140737488351232 := by
  obtain ⟨s, rfl, hd, _, _⟩ := Go.ChangeMaps.open_string Tryz.underlying9 (hval 0 9 va0 rfl rfl) h0
  refine ⟨s, rfl, ?_⟩
  have hs := sized_string hsz (j := 0) (t := 9) rfl (congrArg some hd)
  simp only [Array.length_toList, reachBytes] at hs
  have : s.size = s.data.size := rfl
  omega
 obtain ⟨n1, rfl, w1⟩ : ∃ n : Nat, va1 = .int .u8 (n : Int) ∧ n < 256 := by
  obtain ⟨n, rfl, _, _, hw⟩ := open_int Tryz.underlying5 (hval 1 5 va1 rfl rfl) h1
  obtain ⟨x, rfl, hx⟩ := u8_wfc hw
  exact ⟨x, rfl, hx⟩
 clear hA0 hval0
 refine (walk s0 n1 W w0 w1 (of_pow hL0) (of_words hL0) (of_range hL0)).mono fun e W' ⟨he, bel⟩ => ?_
 subst he
 exact ⟨_, rfl, _, _, _, [], _, [], hW', trodAll_mk1 (shut_bool Tryz.underlying4 _), (trodAll_cons_mk (Below.trod laidOut (by kernel_rfl) (of_decide_eq_true (by kernel_rfl)) k0 bel lt0) (trodAll_cons_mk (Below.trod laidOut (by kernel_rfl) (of_decide_eq_true (by kernel_rfl)) k1 bel lt1) trodAll_mk0)), rfl, bel.frame _, fun h => by cases h⟩
theorem over : Rows.ParseBlanksSaid :=
 OpenClaim.holds_of_wide 8 Tryz.f8 rfl rfl rfl rfl rfl rfl rfl ⟨rfl, rfl, rfl, rfl, rfl⟩ rfl rfl rfl rfl rfl (by kernel_rfl) Tryz.func8 (by kernel_rfl)
  (of_decide_eq_true (by kernel_rfl)) (by unfold Func.isWrapper; first | (rw [if_pos (by decide +kernel)]; kernel_rfl) | (rw [if_neg (by decide +kernel)]; exact ⟨rfl, rfl⟩))
  (fun os started H enc _ => lifted os started H enc)
theorem proved : Rows.ParseBlanksCardSaid :=
 Claim7.holds_tied_plain_at .later [] [.data, .data, .data, .sentinel, .sentinel, .data] true (true, "6408f6cb1b126f3b06b3132bcb00bdd718cf71837c6d0787aa7cd3d95e388580") true
  over (fun _ h => by cases h) (by kernel_rfl) (fun _ h => by cases h) parseBlanks_row_tie rfl ⟨rfl, rfl⟩ (by kernel_rfl) rfl
  (fun f fn hf hfn => by
   obtain rfl : f = 8 := Option.some.inj ((show Tryz.prog.funcNamed "recoup/recouplaw11.ParseBlanks" = some 8 by kernel_rfl).symm.trans hf) |>.symm
   obtain rfl : fn = Tryz.f8 := (Option.some.inj (Tryz.func8.symm.trans hfn)).symm
   exact ⟨by kernel_rfl, fun j t ht => by
    rw [Tryz.params8] at ht
    have hm : t ∈ [9, 5] := by simpa using Array.mem_of_getElem? ht
    have hall : ([9, 5].all fun u => !Tryz.prog.wantsStandIn u) = true := by kernel_rfl
    exact (show Tryz.prog.wantsStandIn t = false by simpa using List.all_eq_true.1 hall t hm)⟩)
  (by kernel_rfl)
#print axioms proved
end Go.Proofs.YtnjcpmkfghcogaaGreatDoor.parseBlanks
