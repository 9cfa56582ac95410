/-
  Proved: for all descriptions: Same and Strip answer as the document says: what is stripped is the same, has no places, and all else is an error (P10.2); no condition.
-/
import Derived.Test.YtdimkfcanegahaaDoorFr
import Derived.Test.YtdimkfcanegahaaDoorTie
import Derived.Test.YtdimkfcanegahaaDoorCards
import Derived.Test.YtdimkfcanegahaaDoorFs
import Derived.Test.YtdimkfcanegahaaDoorFq
import Derived.Test.YtdimkfcanegahaaDoorFf
import Derived.Test.YtdimkfcanegahaaDoorDh
import Derived.WalkKit
import Derived.SizedLaws
import Derived.ProofKit
import Derived.LaidMore
import Derived.OpenShut
import Derived.ShutString
import Derived.ChangeOld
import Derived.Below
import Derived.Stop.Joined
import Derived.SevenTiedAt
import Derived.Lib.SmallJoins
import Derived.Lib.LaidTab
import Derived.MakeChecks
import Derived.Handed
import Derived.Stop.LaidErr
namespace Go.Proofs.YtdimkfcanegahaaDoor.treeSames
open Go.ChangeShapes Go.WideShapes Go.ChangeAt Go.RowKit Go.Joins
set_option linter.unusedVariables false
theorem own : ownKnob Tryd.prog.godebug = none := by kernel_rfl
theorem laidOut : laidOutB Tryd.prog = true := by kernel_rfl
/-- What the listed variables hold. -/
def laidL : List (String × DataW Unit) := [("math/bits.deBruijn32tab", Rows.laid_math_bits_deBruijn32tab), ("math/bits.deBruijn64tab", Rows.laid_math_bits_deBruijn64tab), ("internal/strconv.uint64pow10", Rows.laid_internal_strconv_uint64pow10), ("recoup/token.words", Rows.laid_recoup_token_words), ("recoup/tree.exprSigns", Rows.laid_recoup_tree_exprSigns)]
theorem door_met (os : Os) (args : Array Value) : laidMetH Tryd.prog laidL ((World.doorLaid Tryd.prog 4000 os).forCall (fun _ _ => 0) ⟨#[], args, []⟩).memory :=
  laidMetH_of_parts3 (fuel := 8) (laidMet_of_run' 8 (by kernel_rfl) (by kernel_rfl)) (by kernel_rfl) (by kernel_rfl)
theorem gTab : Tryd.prog.globalNamed "internal/strconv.uint64pow10" = some 5 := by kernel_rfl
theorem tTab : (Tryd.prog.globals[5]?).map (·.type) = some 127 := by kernel_rfl
theorem dTab : (Rows.laid_internal_strconv_uint64pow10 : DataW Unit) = Lib.tabData .u64 Lib.pow10Tab := by kernel_rfl
theorem of_pow {W : World} (h : laidMet Tryd.prog laidL W) : Tab9 W := by
  have hk := h.tail.tail
  rw [dTab] at hk
  exact Lib.tabIs_of_head gTab tTab Tryd.underlying127 Tryd.underlying120 (by kernel_rfl) (by kernel_rfl) hk
theorem gWds : Tryd.prog.globalNamed "recoup/token.words" = some 4 := by kernel_rfl
theorem tWds : (Tryd.prog.globals[4]?).map (·.type) = some 117 := by kernel_rfl
theorem dWds : (Rows.laid_recoup_token_words : DataW Unit) = .agg ((wds.map fun x => x.data.toList).map fun z => .lit (.string z)) := by kernel_rfl
theorem of_words {W : World} (h : laidMet Tryd.prog laidL W) : Wt9 W := by
  have hk := h.tail.tail.tail
  obtain ⟨ps, ⟨g0, t0, cs0, f0, p0, q0, hg0, ht0, hv0, hd0, _, _⟩, _, _⟩ := hk
  obtain rfl := Option.some.inj (gWds.symm.trans hg0)
  obtain rfl := Option.some.inj (tWds.symm.trans ht0)
  rw [dWds] at hd0
  have hc := cells_of_texts Tryd.underlying117 Tryd.underlying9 (by kernel_rfl) (by kernel_rfl) hd0
  unfold Wt9
  rw [hv0]
  obtain ⟨l⟩ := cs0
  have hl : l = wds.map Value.string := hc.trans (by kernel_rfl)
  rw [hl]
theorem gXs10 : Tryd.prog.globalNamed "recoup/tree.exprSigns" = some 1 := by kernel_rfl
theorem tXs10 : (Tryd.prog.globals[1]?).map (·.type) = some 90 := by kernel_rfl
theorem dXs10 : (Rows.laid_recoup_tree_exprSigns : DataW Unit) = .agg ((xsg.map fun x => x.data.toList).map fun z => .lit (.string z)) := by kernel_rfl
theorem of_Xs10 {W : World} (h : laidMet Tryd.prog laidL W) : Xs10 W := by
  have hk := h.tail.tail.tail.tail
  obtain ⟨ps, ⟨g0, t0, cs0, f0, p0, q0, hg0, ht0, hv0, hd0, _, _⟩, _, _⟩ := hk
  obtain rfl := Option.some.inj (gXs10.symm.trans hg0)
  obtain rfl := Option.some.inj (tXs10.symm.trans ht0)
  rw [dXs10] at hd0
  have hc := cells_of_texts Tryd.underlying90 Tryd.underlying9 (by kernel_rfl) (by kernel_rfl) hd0
  unfold Xs10
  rw [hv0]
  obtain ⟨l⟩ := cs0
  have hl : l = xsg.map Value.string := hc.trans (by kernel_rfl)
  rw [hl]

set_option maxRecDepth 20000 in
set_option maxHeartbeats 16000000 in
theorem walk (a0 : Option Addr) (len0 cap0 : Nat) (F0 : Nat → It) (a1 : Option Addr) (len1 cap1 : Nat) (F1 : Nat → It) (w : World) (w0 : Its w a0 len0 F0) (l0 : len0 ≤ 549755813888) (w1 : Its w a1 len1 F1) (l1 : len1 ≤ 549755813888) (t0 : Tab9 w) (t1 : Wt9 w) (t2 : Xs10 w) :
    Calls Tryd.prog 6 #[.slice a0 len0 cap0, .slice a1 len1 cap1] w fun e w' => e = .returned (.bool true) ∧ Below w.heap.size w w' := by
  have HI0 := jhid9 w0
  have HI1 := jhid9 w1
  have HW := jhid9 t1
  have HSt : Hid (∀ w' : World, Below w.heap.size w w' → Calls Tryd.prog 22 #[.slice a0 len0 cap0] w' fun e w'' => ∃ a' m E, e = .returned (.tuple #[.slice a' m m, .int .i64 (E : Nat)]) ∧ ((mayD F0 len0 = false ∧ E = 2 ∧ m = 0 ∧ a' = none) ∨ (mayD F0 len0 = true ∧ E = 0 ∧ m = len0)) ∧ Fr w'.heap.size w'' (fun u => IN w'.heap.size u a' m (fun i => ist (F0 i))) ∧ Below w'.heap.size w' w'') := fun w' hb => tstrip10 w' a0 len0 cap0 F0 (HI0.out.later hb) l0 (HW.out.later hb)
  have HM0 : Hid (∀ w' : World, Below w.heap.size w w' → Calls Tryd.prog 17 #[.slice a0 len0 cap0] w' fun e w'' => e = .returned (.bool (mayD F0 len0)) ∧ Below w'.heap.size w' w'') := fun w' hb => rmay10 w' a0 len0 cap0 F0 (HI0.out.later hb) l0
  have HM1 : Hid (∀ w' : World, Below w.heap.size w w' → Calls Tryd.prog 17 #[.slice a1 len1 cap1] w' fun e w'' => e = .returned (.bool (mayD F1 len1)) ∧ Below w'.heap.size w' w'') := fun w' hb => rmay10 w' a1 len1 cap1 F1 (HI1.out.later hb) l1
  have HSab : Hid (∀ w' : World, Below w.heap.size w w' → Calls Tryd.prog 23 #[.slice a0 len0 cap0, .slice a1 len1 cap1] w' fun e w'' => e = .returned (.bool (sdB F0 F1 len0 len1)) ∧ Below w'.heap.size w' w'') := fun w' hb => tsame10 w' a0 a1 len0 len1 cap0 cap1 F0 F1 (HI0.out.later hb) (HI1.out.later hb) l0 l1 (HW.out.later hb)
  have HSaa : Hid (∀ w' : World, Below w.heap.size w w' → Calls Tryd.prog 23 #[.slice a0 len0 cap0, .slice a0 len0 cap0] w' fun e w'' => e = .returned (.bool (sdB F0 F0 len0 len0)) ∧ Below w'.heap.size w' w'') := fun w' hb => tsame10 w' a0 a0 len0 len0 cap0 cap0 F0 F0 (HI0.out.later hb) (HI0.out.later hb) l0 l0 (HW.out.later hb)
  have HSla : Hid (∀ (w' : World) (a' : Option Addr), Below w.heap.size w w' → Its w' a' len0 (fun i => ist (F0 i)) → Calls Tryd.prog 23 #[.slice a' len0 len0, .slice a0 len0 cap0] w' fun e w'' => e = .returned (.bool (sdB (fun i => ist (F0 i)) F0 len0 len0)) ∧ Below w'.heap.size w' w'') := fun w' a' hb hi => tsame10 w' a' a0 len0 len0 len0 cap0 _ F0 hi (HI0.out.later hb) l0 l0 (HW.out.later hb)
  have HLab : Hid (mayD F0 len0 = true → ∀ w' : World, Below w.heap.size w w' → Calls Tryd.prog 24 #[.slice a0 len0 cap0, .slice a1 len1 cap1] w' fun e w'' => e = .returned (.bool (decide (len0 = len1) && alB (fun i => liB (F0 i) (F1 i)) len0)) ∧ Below w'.heap.size w' w'') := fun hm w' hb => rlike10 w' a0 a1 len0 len1 cap0 cap1 F0 F1 (HI0.out.later hb) (HI1.out.later hb) l0 l1 (fun i hi => ((mayD_mi hm).2 i hi).fin)
  have HLla : Hid (mayD F0 len0 = true → ∀ (w' : World) (a' : Option Addr), Below w.heap.size w w' → Its w' a' len0 (fun i => ist (F0 i)) → Calls Tryd.prog 24 #[.slice a' len0 len0, .slice a0 len0 cap0] w' fun e w'' => e = .returned (.bool (decide (len0 = len0) && alB (fun i => liB (ist (F0 i)) (F0 i)) len0)) ∧ Below w'.heap.size w' w'') := fun hm w' a' hb hi => rlike10 w' a' a0 len0 len0 len0 cap0 _ F0 hi (HI0.out.later hb) l0 l0 (fun i hi => by
    have h := ((mayD_mi hm).2 i hi).fin
    exact ⟨h.1.st, h.2.1.st, fun q hq => (h.2.2 q hq).st⟩)
  have HBr : Hid (mayD F0 len0 = true → ∀ (w' : World) (a' : Option Addr), Below w.heap.size w w' → Its w' a' len0 (fun i => ist (F0 i)) → Calls Tryd.prog 25 #[.slice a' len0 len0] w' fun e w'' => e = .returned (.bool true) ∧ Below w'.heap.size w' w'') := fun hm w' a' hb hi => lbare w' a' len0 len0 F0 hi (mayD_mi hm).1 (fun i hi => ⟨((mayD_mi hm).2 i hi).sm.1, ((mayD_mi hm).2 i hi).sm.2.1, iwant_few (mayD_nl hm i hi), ((mayD_mi hm).2 i hi).sm.2.2⟩)
  have HA : Hid (∀ w' : World, Below w.heap.size w w' → Calls Tryd.prog 9 #[] w' fun e w'' => e = .returned (.bool true) ∧ Below w'.heap.size w' w'') := fun w' hb => anch10_any w' (t0.later hb) (t1.later hb) (t2.later hb)
  have HE1 : Hid (mayD F0 len0 = true → sdB F0 F0 len0 len0 = true) := fun hm => by unfold sdB; rw [hm, al_all (fun i => liB_self _)]; simp
  have HE2 : Hid (mayD F0 len0 = true → sdB (fun i => ist (F0 i)) F0 len0 len0 = true) := fun hm => by unfold sdB; rw [hm, mayD_st hm, al_all (fun i => liB_st _)]; simp
  have HE3 : Hid ((decide (len0 = len0) && alB (fun i => liB (ist (F0 i)) (F0 i)) len0) = true) := by show _ = _; rw [al_all (fun i => liB_st _)]; simp
  have HE4 : Hid (mayD F0 len0 = true → sdB F0 F1 len0 len1 = (mayD F1 len1 && (decide (len0 = len1) && alB (fun i => liB (F0 i) (F1 i)) len0))) := fun hm => by unfold sdB; rw [hm]; rfl
  have HE5 : Hid (mayD F0 len0 = false → sdB F0 F1 len0 len1 = false) := fun hm => by unfold sdB; rw [hm]; rfl
  rw [HE3.out] at HLla
  clear t0 t1 t2 w0 w1 HI0 HI1 HW HE3
  obtain ⟨r, Hr⟩ : ∃ r, Hid ((decide (len0 = len1) && alB (fun i => liB (F0 i) (F1 i)) len0) = r) := ⟨_, rfl⟩
  rw [Hr.out] at HLab HE4
  clear Hr
  have HP : Hid (∀ (B : Nat) (v : World) (a' : Option Addr) (m : Nat), IN B v a' m (fun i => ist (F0 i)) → Its v a' m (fun i => ist (F0 i))) := fun B v a' m h => h.its
  generalize sdB F0 F1 len0 len1 = s1 at *
  generalize sdB F0 F0 len0 len0 = s2 at *
  generalize sdB (fun i => ist (F0 i)) F0 len0 len0 = s3 at *
  generalize mayD F1 len1 = m1 at *
  generalize (fun i => ist (F0 i)) = FI at *
  cases hm : mayD F0 len0 with
  | false =>
    obtain rfl : s1 = false := HE5.out hm
    rw [hm] at HM0 HSt
    clear HE1 HE2 HE4 HE5 HLab HLla HBr hm
    go_enter Tryd.func6, Tryd.ntmps6
    go_wp2_with (first
      | (go_at_call 22; refine (HSt.out _ (Below.refl _ _)).mono ?_; rintro e w1 ⟨a', m, E, rfl, hw, hfr, hb1⟩; rcases hw with ⟨_, rfl, rfl, rfl⟩ | ⟨hw, _⟩; rotate_left; cases hw; have HB1 := jhid9 hb1; clear hb1 hfr)
      | (go_at_call 17; refine (HM0.out _ HB1.out).mono ?_; rintro e w2 ⟨rfl, hb2⟩; have HB2 := jhid9 (jtwo HB1.out hb2); clear hb2)
      | (go_at_call 23; refine (HSab.out _ HB2.out).mono ?_; rintro e w3 ⟨rfl, hb3⟩; have HB3 := jhid9 (jtwo HB2.out hb3); clear hb3)
      | (go_at_call 9; refine (HA.out _ HB3.out).mono ?_; rintro e w4 ⟨rfl, hb4⟩; have HB4 := jhid9 (jtwo HB3.out hb4); clear hb4))
    go_ret
    exact ⟨rfl, HB4.out⟩
  | true =>
    obtain rfl : s2 = true := HE1.out hm
    obtain rfl : s3 = true := HE2.out hm
    have HE6 := jhid9 (HE4.out hm)
    replace HLab := jhid9 (HLab.out hm)
    replace HLla := jhid9 (HLla.out hm)
    replace HBr := jhid9 (HBr.out hm)
    rw [hm] at HM0 HSt
    clear HE1 HE2 HE4 HE5 hm
    have M1 : True := trivial
    have M2 : True := trivial
    have M3 : True := trivial
    have M4 : True := trivial
    cases m1 with
    | false =>
      obtain rfl : s1 = false := HE6.out
      clear HE6
      go_enter Tryd.func6, Tryd.ntmps6
      go_wp2_with (first
        | (go_at_call 22; refine (HSt.out _ (Below.refl _ _)).mono ?_; rintro e w1 ⟨a', m, E, rfl, hw, hfr, hb1⟩; rcases hw with ⟨hw, _⟩ | ⟨_, rfl, hm2⟩; cases hw; have hm3 := hm2.symm; clear hm2; subst hm3; have HB1 := jhid9 hb1; have HN1 : Hid (Its w1 a' len0 FI) := HP.out _ _ _ _ hfr.now; clear hb1 hfr)
        | (clear M1; go_at_call 17; refine (HM0.out _ HB1.out).mono ?_; rintro e w2 ⟨rfl, hb2⟩; have HB2 := jhid9 (jtwo HB1.out hb2); have HN2 := jhid9 (HN1.out.later hb2); clear hb2)
        | (clear M2; go_at_call 24; refine (HLla.out _ _ HB2.out HN2.out).mono ?_; rintro e w3 ⟨rfl, hb3⟩; have HB3 := jhid9 (jtwo HB2.out hb3); have HN3 := jhid9 (HN2.out.later hb3); clear hb3)
        | (go_at_call 25; refine (HBr.out _ _ HB3.out HN3.out).mono ?_; rintro e w4 ⟨rfl, hb4⟩; have HB4 := jhid9 (jtwo HB3.out hb4); have HN4 := jhid9 (HN3.out.later hb4); clear hb4)
        | (clear M3; go_at_call 23; refine (HSaa.out _ HB4.out).mono ?_; rintro e w5 ⟨rfl, hb5⟩; have HB5 := jhid9 (jtwo HB4.out hb5); have HN5 := jhid9 (HN4.out.later hb5); clear hb5)
        | (clear M4; go_at_call 23; refine (HSab.out _ HB5.out).mono ?_; rintro e w6 ⟨rfl, hb6⟩; have HB6 := jhid9 (jtwo HB5.out hb6); have HN6 := jhid9 (HN5.out.later hb6); clear hb6)
        | (go_at_call 17; refine (HM1.out _ HB6.out).mono ?_; rintro e w7 ⟨rfl, hb7⟩; have HB7 := jhid9 (jtwo HB6.out hb7); have HN7 := jhid9 (HN6.out.later hb7); clear hb7)
        | (go_at_call 23; refine (HSla.out _ _ HB7.out HN7.out).mono ?_; rintro e w9 ⟨rfl, hb9⟩; have HB9 := jhid9 (jtwo HB7.out hb9); clear hb9)
        | (go_at_call 9; refine (HA.out _ HB9.out).mono ?_; rintro e w10 ⟨rfl, hb10⟩; have HB10 := jhid9 (jtwo HB9.out hb10); clear hb10))
      go_ret
      exact ⟨rfl, HB10.out⟩
    | true =>
      obtain rfl : s1 = r := HE6.out
      clear HE6
      cases s1 with
      | false =>
        go_enter Tryd.func6, Tryd.ntmps6
        go_wp2_with (first
          | (go_at_call 22; refine (HSt.out _ (Below.refl _ _)).mono ?_; rintro e w1 ⟨a', m, E, rfl, hw, hfr, hb1⟩; rcases hw with ⟨hw, _⟩ | ⟨_, rfl, hm2⟩; cases hw; have hm3 := hm2.symm; clear hm2; subst hm3; have HB1 := jhid9 hb1; have HN1 : Hid (Its w1 a' len0 FI) := HP.out _ _ _ _ hfr.now; clear hb1 hfr)
          | (clear M1; go_at_call 17; refine (HM0.out _ HB1.out).mono ?_; rintro e w2 ⟨rfl, hb2⟩; have HB2 := jhid9 (jtwo HB1.out hb2); have HN2 := jhid9 (HN1.out.later hb2); clear hb2)
          | (clear M2; go_at_call 24; refine (HLla.out _ _ HB2.out HN2.out).mono ?_; rintro e w3 ⟨rfl, hb3⟩; have HB3 := jhid9 (jtwo HB2.out hb3); have HN3 := jhid9 (HN2.out.later hb3); clear hb3)
          | (go_at_call 25; refine (HBr.out _ _ HB3.out HN3.out).mono ?_; rintro e w4 ⟨rfl, hb4⟩; have HB4 := jhid9 (jtwo HB3.out hb4); have HN4 := jhid9 (HN3.out.later hb4); clear hb4)
          | (clear M3; go_at_call 23; refine (HSaa.out _ HB4.out).mono ?_; rintro e w5 ⟨rfl, hb5⟩; have HB5 := jhid9 (jtwo HB4.out hb5); have HN5 := jhid9 (HN4.out.later hb5); clear hb5)
          | (clear M4; go_at_call 23; refine (HSab.out _ HB5.out).mono ?_; rintro e w6 ⟨rfl, hb6⟩; have HB6 := jhid9 (jtwo HB5.out hb6); have HN6 := jhid9 (HN5.out.later hb6); clear hb6)
          | (go_at_call 17; refine (HM1.out _ HB6.out).mono ?_; rintro e w7 ⟨rfl, hb7⟩; have HB7 := jhid9 (jtwo HB6.out hb7); have HN7 := jhid9 (HN6.out.later hb7); clear hb7)
          | (go_at_call 24; refine (HLab.out _ HB7.out).mono ?_; rintro e w8 ⟨rfl, hb8⟩; have HB8 := jhid9 (jtwo HB7.out hb8); have HN8 := jhid9 (HN7.out.later hb8); clear hb8)
          | (go_at_call 23; refine (HSla.out _ _ HB8.out HN8.out).mono ?_; rintro e w9 ⟨rfl, hb9⟩; have HB9 := jhid9 (jtwo HB8.out hb9); clear hb9)
          | (go_at_call 9; refine (HA.out _ HB9.out).mono ?_; rintro e w10 ⟨rfl, hb10⟩; have HB10 := jhid9 (jtwo HB9.out hb10); clear hb10))
        go_ret
        exact ⟨rfl, HB10.out⟩
      | true =>
        go_enter Tryd.func6, Tryd.ntmps6
        go_wp2_with (first
          | (go_at_call 22; refine (HSt.out _ (Below.refl _ _)).mono ?_; rintro e w1 ⟨a', m, E, rfl, hw, hfr, hb1⟩; rcases hw with ⟨hw, _⟩ | ⟨_, rfl, hm2⟩; cases hw; have hm3 := hm2.symm; clear hm2; subst hm3; have HB1 := jhid9 hb1; have HN1 : Hid (Its w1 a' len0 FI) := HP.out _ _ _ _ hfr.now; clear hb1 hfr)
          | (clear M1; go_at_call 17; refine (HM0.out _ HB1.out).mono ?_; rintro e w2 ⟨rfl, hb2⟩; have HB2 := jhid9 (jtwo HB1.out hb2); have HN2 := jhid9 (HN1.out.later hb2); clear hb2)
          | (clear M2; go_at_call 24; refine (HLla.out _ _ HB2.out HN2.out).mono ?_; rintro e w3 ⟨rfl, hb3⟩; have HB3 := jhid9 (jtwo HB2.out hb3); have HN3 := jhid9 (HN2.out.later hb3); clear hb3)
          | (go_at_call 25; refine (HBr.out _ _ HB3.out HN3.out).mono ?_; rintro e w4 ⟨rfl, hb4⟩; have HB4 := jhid9 (jtwo HB3.out hb4); have HN4 := jhid9 (HN3.out.later hb4); clear hb4)
          | (clear M3; go_at_call 23; refine (HSaa.out _ HB4.out).mono ?_; rintro e w5 ⟨rfl, hb5⟩; have HB5 := jhid9 (jtwo HB4.out hb5); have HN5 := jhid9 (HN4.out.later hb5); clear hb5)
          | (clear M4; go_at_call 23; refine (HSab.out _ HB5.out).mono ?_; rintro e w6 ⟨rfl, hb6⟩; have HB6 := jhid9 (jtwo HB5.out hb6); have HN6 := jhid9 (HN5.out.later hb6); clear hb6)
          | (go_at_call 17; refine (HM1.out _ HB6.out).mono ?_; rintro e w7 ⟨rfl, hb7⟩; have HB7 := jhid9 (jtwo HB6.out hb7); have HN7 := jhid9 (HN6.out.later hb7); clear hb7)
          | (go_at_call 24; refine (HLab.out _ HB7.out).mono ?_; rintro e w8 ⟨rfl, hb8⟩; have HB8 := jhid9 (jtwo HB7.out hb8); have HN8 := jhid9 (HN7.out.later hb8); clear hb8)
          | (go_at_call 23; refine (HSla.out _ _ HB8.out HN8.out).mono ?_; rintro e w9 ⟨rfl, hb9⟩; have HB9 := jhid9 (jtwo HB8.out hb9); clear hb9)
          | (go_at_call 9; refine (HA.out _ HB9.out).mono ?_; rintro e w10 ⟨rfl, hb10⟩; have HB10 := jhid9 (jtwo HB9.out hb10); clear hb10))
        go_ret
        exact ⟨rfl, HB10.out⟩
set_option maxRecDepth 100000 in
set_option maxHeartbeats 2000000 in
theorem lifted (os : Os) (started : os.Started) (H : Type) (enc : TypeId × Value → H) :
    ReturnsInHanded {} Tryd.checked os 6 .any (fun w args => (Rows.treeSamesSpec.pre enc Tryd.prog Tryd.f6 [] false w args ∧ laidMetH Tryd.prog laidL w) ∧ sizedMet enc Tryd.prog Tryd.f6 (OpenSpec.ofChange Rows.treeSamesSpec) false w args)
      (Rows.treeSamesSpec.post enc Tryd.prog Tryd.f6 false true false false) := by
  refine returnsInHanded_of_change_and (C := Tryd.checked) (X := fun w _ => laidMetH Tryd.prog laidL w) (fun _ _ _ hh h => h.of_heap hh) own started (by kernel_rfl) Tryd.func6
    (ChangeSpec.witness_shaped (enc := enc) (C := Tryd.checked) (os := os) (X := fun w _ => laidMetH Tryd.prog laidL w) false (World.doorLaid Tryd.prog 4000 os) #[.slice none 0 0, .slice none 0 0] 8 rfl (World.shaped_of_RefB (by kernel_rfl) (by kernel_rfl)) (by kernel_rfl) (by kernel_rfl) (by kernel_rfl) (door_met os _)) ?_
  intro W base args ds gs before hval0 hW hcnd hsz0 hL _
  have hsz : (DataW.weightsEach Tryd.prog (Tryd.f6.params.toList ++ Rows.treeSamesSpec.plain.varTypes Tryd.prog) (ds ++ gs)).all (· ≤ reachBytes) = true := hsz0
  clear hsz0
  have hval : ∀ (j : Nat) t v, Tryd.f6.params[j]? = some t → args[j]? = some v → Value.okWide Tryd.prog W .any base t v := hval0
  have hW' := hW
  obtain ⟨p, q, hA0, hV, rfl, hfz, hnd⟩ := hW
  have hA : DataW.TrodAll enc Tryd.prog W 0 (fun _ => true) true Tryd.f6.params.toList args.toList ds p := hA0
  rw [Tryd.params6] at hA hval hsz
  obtain ⟨va0, vs0, d0, ds0, p0, q0, hargs0, rfl, rfl, h0, tr0⟩ := trodAll_cons hA
  obtain ⟨va1, vs1, d1, ds1, p1, q1, hargs1, rfl, rfl, h1, tr1⟩ := trodAll_cons tr0
  obtain ⟨rfl, rfl, rfl⟩ := trodAll_nil tr1
  obtain rfl : args = #[va0, va1] := by cases args; simp_all
  obtain ⟨rfl, rfl⟩ := trodVars_none hV
  have k0 := h0
  have lt0 : ∀ x ∈ p0, x.block < W.heap.size := by obtain ⟨m, hm⟩ := k0; exact DataW.trod_lt m _ _ _ hm
  have k1 := h1
  have lt1 : ∀ x ∈ p1, x.block < W.heap.size := by obtain ⟨m, hm⟩ := k1; exact DataW.trod_lt m _ _ _ hm
  have hL0 := hL
  rw [MakeChecks.laidMetH_plain _ _ _ (by kernel_rfl)] at hL0
  obtain ⟨a0, len0, cap0, F0, rfl, l0, w0⟩ : ∃ (a : Option Addr) (len cap : Nat) (F : Nat → It), va0 = .slice a len cap ∧ len ≤ 549755813888 ∧ Its W a len F := by
    obtain ⟨fuel, hf⟩ := h0
    obtain ⟨a, len, cap, rfl⟩ := okWide_slice Tryd.underlying23 (hval 0 23 va0 rfl rfl)
    exact its_in (by simpa [Value.cells] using hf) (List.all_eq_true.2 fun n hn => List.all_eq_true.1 hsz n (DataW.weights_mem_each (j := 0) rfl rfl n hn))
  obtain ⟨a1, len1, cap1, F1, rfl, l1, w1⟩ : ∃ (a : Option Addr) (len cap : Nat) (F : Nat → It), va1 = .slice a len cap ∧ len ≤ 549755813888 ∧ Its W a len F := by
    obtain ⟨fuel, hf⟩ := h1
    obtain ⟨a, len, cap, rfl⟩ := okWide_slice Tryd.underlying23 (hval 1 23 va1 rfl rfl)
    exact its_in (by simpa [Value.cells] using hf) (List.all_eq_true.2 fun n hn => List.all_eq_true.1 hsz n (DataW.weights_mem_each (j := 1) rfl rfl n hn))
  clear hA0 hval0
  refine (walk a0 len0 cap0 F0 a1 len1 cap1 F1 W w0 l0 w1 l1 (of_pow hL0) (of_words hL0) (of_Xs10 hL0)).mono fun e W' ⟨he, bel⟩ => ?_
  subst he
  exact ⟨_, rfl, _, _, _, [], _, [], hW', trodAll_mk1 (shut_bool Tryd.underlying4 _), (trodAll_cons_mk (Below.trod laidOut (by kernel_rfl) (of_decide_eq_true (by kernel_rfl)) k0 bel lt0) (trodAll_cons_mk (Below.trod laidOut (by kernel_rfl) (of_decide_eq_true (by kernel_rfl)) k1 bel lt1) trodAll_mk0)), rfl, bel.frame _, fun h => by cases h⟩
theorem over : Rows.TreeSamesSaid :=
  OpenClaim.holds_of_wide 6 Tryd.f6 rfl rfl rfl rfl rfl rfl rfl ⟨rfl, rfl, rfl, rfl, rfl⟩ rfl rfl rfl rfl rfl (by kernel_rfl) Tryd.func6 (by kernel_rfl)
    (of_decide_eq_true (by kernel_rfl)) (by unfold Func.isWrapper; first | (rw [if_pos (by decide +kernel)]; kernel_rfl) | (rw [if_neg (by decide +kernel)]; exact ⟨rfl, rfl⟩))
    (fun os started H enc _ => lifted os started H enc)
theorem proved : Rows.TreeSamesCardSaid :=
  Claim7.holds_tied_plain_at .later [] [.data, .data, .data, .data, .data] true (true, "f75ffb74e37c39cd96e6aded352265c1cb9c7583dc056a7ebaffed3d53f4923d") false
    over (fun _ h => by cases h) (by kernel_rfl) (fun _ h => by cases h) treeSames_row_tie rfl ⟨rfl, rfl⟩ (by kernel_rfl) rfl
    (fun f fn hf hfn => by
      obtain rfl : f = 6 := Option.some.inj ((show Tryd.prog.funcNamed "recoup/recouplaw10.TreeSames" = some 6 by kernel_rfl).symm.trans hf) |>.symm
      obtain rfl : fn = Tryd.f6 := (Option.some.inj (Tryd.func6.symm.trans hfn)).symm
      exact ⟨by kernel_rfl, fun j t ht => by
        rw [Tryd.params6] at ht
        have hm : t ∈ [23, 23] := by simpa using Array.mem_of_getElem? ht
        have hall : ([23, 23].all fun u => !Tryd.prog.wantsStandIn u) = true := by kernel_rfl
        exact (show Tryd.prog.wantsStandIn t = false by simpa using List.all_eq_true.1 hall t hm)⟩)
    (by kernel_rfl)
#print axioms proved
end Go.Proofs.YtdimkfcanegahaaDoor.treeSames
