/-
  Proved: for all expressions x, y and every name: where the program's Put answers an expression and y comes to a number, that expression comes to what x comes to where the name is that number, or has the same error (P12.4); no condition.
-/
import Derived.Test.YtgmndjbicandfaaDoorN1t
import Derived.Test.YtgmndjbicandfaaDoorTie
import Derived.Test.YtgmndjbicandfaaDoorCards
import Derived.Test.YtgmndjbicandfaaDoorN1j
import Derived.Test.YtgmndjbicandfaaDoorN1k
import Derived.WalkKit
import Derived.SizedLaws
import Derived.ProofKit
import Derived.LaidMore
import Derived.OpenShut
import Derived.ShutString
import Derived.ChangeOld
import Derived.Below
import Derived.Stop.Joined
import Derived.SevenTiedAt
import Derived.Lib.SmallJoins
import Derived.Lib.LaidTab
import Derived.MakeChecks
import Derived.Handed
import Derived.Stop.LaidErr
namespace Go.Proofs.YtgmndjbicandfaaDoor.numberPuts
open Go.ChangeShapes Go.WideShapes Go.ChangeAt Go.RowKit Go.Joins
set_option linter.unusedVariables false
theorem own : ownKnob Tryd.prog.godebug = none := by kernel_rfl
theorem laidOut : laidOutB Tryd.prog = true := by kernel_rfl
/-- What the listed variables hold. -/
def laidL : List (String × DataW Unit) := [("recoup/token.words", Rows.laid_recoup_token_words)]
theorem door_met (os : Os) (args : Array Value) : laidMetH Tryd.prog laidL ((World.doorLaid Tryd.prog 4000 os).forCall (fun _ _ => 0) ⟨#[], args, []⟩).memory :=
  laidMetH_of_parts3 (fuel := 8) (laidMet_of_run' 8 (by kernel_rfl) (by kernel_rfl)) (by kernel_rfl) (by kernel_rfl)
theorem gWds : Tryd.prog.globalNamed "recoup/token.words" = some 0 := by kernel_rfl
theorem tWds : (Tryd.prog.globals[0]?).map (·.type) = some 117 := by kernel_rfl
theorem dWds : (Rows.laid_recoup_token_words : DataW Unit) = .agg ((wds.map fun x => x.data.toList).map fun z => .lit (.string z)) := by kernel_rfl
theorem of_words {W : World} (h : laidMet Tryd.prog laidL W) : Wt9 W := by
  have hk := h
  obtain ⟨ps, ⟨g0, t0, cs0, f0, p0, q0, hg0, ht0, hv0, hd0, _, _⟩, _, _⟩ := hk
  obtain rfl := Option.some.inj (gWds.symm.trans hg0)
  obtain rfl := Option.some.inj (tWds.symm.trans ht0)
  rw [dWds] at hd0
  have hc := cells_of_texts Tryd.underlying117 Tryd.underlying9 (by kernel_rfl) (by kernel_rfl) hd0
  unfold Wt9
  rw [hv0]
  obtain ⟨l⟩ := cs0
  have hl : l = wds.map Value.string := hc.trans (by kernel_rfl)
  rw [hl]
set_option maxRecDepth 20000 in
set_option maxHeartbeats 8000000 in
theorem walk (v0 : Value) (T0 : Xt) (v1 : Value) (T1 : Xt) (s2 : ByteArray) (w : World) (w0 : XV w v0 T0) (w1 : XV w v1 T1) (w2 : s2.size ≤ 140737488351232) (t1 : Wt9 w) :
    Calls Tryd.prog 5 #[v0, v1, .string s2] w fun e w' => e = .returned (.bool true) ∧ Below w.heap.size w w' := by
  have HAn : Hid (∀ w' : World, Below w.heap.size w w' → Calls Tryd.prog 17 #[] w' fun e w'' => e = .returned (.bool true) ∧ Below w'.heap.size w' w'') := fun w' hb => anch12_any w' (t1.later hb)
  have HP0 : Hid (∀ w' : World, Below w.heap.size w w' → Calls Tryd.prog 12 #[v0, .string s2, v1] w' fun e w'' => (∃ v' E, e = .returned (.tuple #[v', .int .i64 ((E : Nat) : Int)]) ∧ PutA w'' T0 T1 s2 v' E) ∧ Below w'.heap.size w' w'') := fun w' hb => put_any w' T0 T1 v0 v1 s2 (w0.later hb) (w1.later hb) w2 (t1.later hb)
  have HE0 : Hid (∀ (w' : World) (v' : Value) (T' : Xt) (ea : Option Addr) (en ec : Nat) (F : Nat → Cn), Below w.heap.size w w' → XV w' v' T' → EL w' ea en F → en ≤ 140737488351232 → Calls Tryd.prog 8 #[v', .slice ea en ec] w' fun e w'' => e = .returned (vtV (evl F en T')) ∧ Below w'.heap.size w' w'') := fun w' v' T' ea en ec F hb hv he hn => eval_any w' T' v' ea en ec F hv he hn (t1.later hb)
  obtain ⟨F0, _⟩ : ∃ F : Nat → Cn, True := ⟨fun _ => ⟨s2, 0⟩, trivial⟩
  have HEy : Hid (∀ w' : World, Below w.heap.size w w' → Calls Tryd.prog 8 #[v1, .slice none 0 0] w' fun e w'' => e = .returned (vtV (evl F0 0 T1)) ∧ Below w'.heap.size w' w'') := fun w' hb => HE0.out w' v1 T1 none 0 0 F0 hb (w1.later hb) (el_nil _ _) (by omega)
  have HEx : Hid (∀ (w' : World) (b : Nat) (q : Int), -9223372036854775808 ≤ q → q ≤ 9223372036854775807 → Below w.heap.size w w' → Vn w' b 50 #[.string s2, .int .i64 q] → Calls Tryd.prog 8 #[v0, .slice (some ⟨b, 0, none⟩) 1 1] w' fun e w'' => e = .returned (vtV (evl (fun _ => ⟨s2, q⟩) 1 T0)) ∧ Below w'.heap.size w' w'') := fun w' b q q1 q2 hb hv => HE0.out w' v0 T0 _ 1 1 _ hb (w0.later hb) (el_one hv w2 q1 q2) (by omega)
  have HVals : Hid (mayX T0 = true → mayX T1 = true → isN s2 = true → mayX (xput s2 T1 T0) = true → (evl F0 0 T1).c = 0 → nmB (evl F0 0 T1).v = true ∧ (evl F0 0 (xput s2 T1 T0)).v = (evl (fun _ => ⟨s2, (evl F0 0 T1).v⟩) 1 T0).v ∧ (evl F0 0 (xput s2 T1 T0)).c = (evl (fun _ => ⟨s2, (evl F0 0 T1).v⟩) 1 T0).c) := fun h1 h2 h3 h4 h5 => puts_vals h1 h2 h3 h4 F0 h5
  obtain ⟨⟨a, cap, rfl, _⟩, _⟩ := w0
  obtain ⟨⟨ya, ycap, rfl, _⟩, _⟩ := w1
  clear w2 t1
  have hcases : (∃ E : Nat, E ≠ 0 ∧ ∀ w'' v' E', PutA w'' T0 T1 s2 v' E' → E' = E ∧ v' = .agg #[.int .u8 0, .int .i64 0, .string ⟨#[]⟩, .slice none 0 0, .int .i64 0, .int .i64 0]) ∨ (mayX T0 = true ∧ mayX T1 = true ∧ isN s2 = true ∧ mayX (xput s2 T1 T0) = true ∧ ∀ w'' v' E', PutA w'' T0 T1 s2 v' E' → E' = 0 ∧ XV w'' v' (xput s2 T1 T0)) := by
    cases hc : (mayX T0 && (mayX T1 && isN s2)) with
    | false =>
      refine .inl ⟨2, by omega, fun w'' v' E' h => ?_⟩
      rcases h with ⟨e, _, h⟩ | ⟨_, h, _⟩ | ⟨_, h, _⟩
      · exact ⟨e, h⟩
      · rw [hc] at h; cases h
      · rw [hc] at h; cases h
    | true =>
      cases hz : mayX (xput s2 T1 T0) with
      | false =>
        refine .inl ⟨4, by omega, fun w'' v' E' h => ?_⟩
        rcases h with ⟨_, h, _⟩ | ⟨e, _, _, h⟩ | ⟨_, _, h, _⟩
        · rw [hc] at h; cases h
        · exact ⟨e, h⟩
        · rw [hz] at h; cases h
      | true =>
        rw [Bool.and_eq_true, Bool.and_eq_true] at hc
        refine .inr ⟨hc.1, hc.2.1, hc.2.2, rfl, fun w'' v' E' h => ?_⟩
        rcases h with ⟨_, h, _⟩ | ⟨_, _, h, _⟩ | ⟨e, _, _, h⟩
        · rw [hc.1, hc.2.1, hc.2.2] at h; cases h
        · rw [hz] at h; cases h
        · exact ⟨e, h⟩
  generalize xput s2 T1 T0 = Z at *
  generalize hev : evl F0 0 T1 = V at *
  clear hev
  obtain ⟨vv, vc, vl, vk⟩ := V
  unfold vtV at HEy HEx HE0
  dsimp only at HEy HVals
  generalize T0 [] = l at *
  obtain ⟨k, n, nm, len, ln, cl⟩ := l
  generalize T1 [] = l2 at *
  obtain ⟨yk, yn, ynm, ylen, yln, ycl⟩ := l2
  dsimp only at HP0 HEy HEx hcases ⊢
  have H1 := jhid9 (Vn.new w 25 #[.int .u8 (k : Int), .int .i64 n, .string nm, .slice a len cap, .int .i64 ln, .int .i64 cl])
  have HY := jhid9 (Vn.new (w.alloc (.cells #[.int .u8 (k : Int), .int .i64 n, .string nm, .slice a len cap, .int .i64 ln, .int .i64 cl] 25)) 25 #[.int .u8 (yk : Int), .int .i64 yn, .string ynm, .slice ya ylen ycap, .int .i64 yln, .int .i64 ycl])
  have HB := jhid9 (jtwo (jlow w (.cells #[.int .u8 (k : Int), .int .i64 n, .string nm, .slice a len cap, .int .i64 ln, .int .i64 cl] 25)) (jlow _ (.cells #[.int .u8 (yk : Int), .int .i64 yn, .string ynm, .slice ya ylen ycap, .int .i64 yln, .int .i64 ycl] 25)))
  have HX := jhid9 (H1.out.later (jlow _ (.cells #[.int .u8 (yk : Int), .int .i64 yn, .string ynm, .slice ya ylen ycap, .int .i64 yln, .int .i64 ycl] 25)))
  rw [alloc_size] at HY
  clear H1
  have c0 := HX.out.cell 0 _ rfl
  have c1 := HX.out.cell 1 _ rfl
  have c2 := HX.out.cell 2 _ rfl
  have c3 := HX.out.cell 3 _ rfl
  have c4 := HX.out.cell 4 _ rfl
  have c5 := HX.out.cell 5 _ rfl
  have g0 := HY.out.cell 0 _ rfl
  have g1 := HY.out.cell 1 _ rfl
  have g2 := HY.out.cell 2 _ rfl
  have g3 := HY.out.cell 3 _ rfl
  have g4 := HY.out.cell 4 _ rfl
  have g5 := HY.out.cell 5 _ rfl
  have MZ : True := trivial
  have ME1 : True := trivial
  have ME2 : True := trivial
  have ME3 : True := trivial
  have MF1 : True := trivial
  have MF2 : True := trivial
  have MF3 : True := trivial
  rcases hcases with ⟨E, hE, hall⟩ | ⟨m1, m2, m3, m4, hall⟩
  · have HPut : Hid (∀ w' : World, Below w.heap.size w w' → Calls Tryd.prog 12 #[.agg #[.int .u8 (k : Int), .int .i64 n, .string nm, .slice a len cap, .int .i64 ln, .int .i64 cl], .string s2, .agg #[.int .u8 (yk : Int), .int .i64 yn, .string ynm, .slice ya ylen ycap, .int .i64 yln, .int .i64 ycl]] w' fun e w'' => e = .returned (.tuple #[.agg #[.int .u8 0, .int .i64 0, .string ⟨#[]⟩, .slice none 0 0, .int .i64 0, .int .i64 0], .int .i64 (E : Int)]) ∧ Below w'.heap.size w' w'') := fun w' hb => (HP0.out w' hb).mono (fun e w'' h => by
      obtain ⟨⟨v', E', he, hP⟩, hb'⟩ := h
      obtain ⟨rfl, rfl⟩ := hall _ _ _ hP
      exact ⟨he, hb'⟩)
    have qE : ((E : Int) == 0) = false := by simp; omega
    have qE2 : ((E : Int) != 0) = true := by simp; omega
    clear HP0 HE0 HEx HVals hall hE
    go_enter Tryd.func5, Tryd.ntmps5
    go_wp2_with (first
      | (go_at_call 12; refine (HPut.out _ HB.out).mono ?_; rintro e w1 ⟨rfl, hb1⟩; have HB1 := jhid9 (jtwo HB.out hb1); have HX1 := jhid9 (HX.out.later hb1); have HY1 := jhid9 (HY.out.later hb1); clear hb1)
      | (clear MZ; refine wpList_store_vn rfl 25 _ _ rfl w1.heap.size _ #[.int .u8 0, .int .i64 0, .string ⟨#[]⟩, .slice none 0 0, .int .i64 0, .int .i64 0] rfl rfl (Vn.new w1 _ _) sizeX rfl (all6 rfl rfl rfl rfl rfl rfl) ?_; intro w2 HG2 hg2; have hb2 : Below w1.heap.size w1 w2 := (jlow _ _).trans (jbelow hg2.out (jlow _ _).size (fun g e => by cases e; exact Nat.le_refl _)); have HB2 := jhid9 (jtwo HB1.out hb2); have HX2 := jhid9 (HX1.out.later hb2); have HY2 := jhid9 (HY1.out.later hb2); have f0 := HY2.out.cell 0 _ rfl; have f1 := HY2.out.cell 1 _ rfl; have f2 := HY2.out.cell 2 _ rfl; have f3 := HY2.out.cell 3 _ rfl; have f4 := HY2.out.cell 4 _ rfl; have f5 := HY2.out.cell 5 _ rfl; clear hg2 hb2)
      | (go_at_call 8; clear ME1; refine (HEy.out _ HB2.out).mono ?_; rintro e w3 ⟨rfl, hb3⟩; have HB3 := jhid9 (jtwo HB2.out hb3); clear hb3)
      | (clear MF1; refine wpList_store_vn rfl 29 _ _ rfl w3.heap.size _ #[.int .i64 (vc : Int), .int .i64 vl, .int .i64 vk] rfl rfl (Vn.new w3 _ _) sizeFau rfl (all3 rfl rfl rfl) ?_; intro w4 HG4 hg4; have hb4 : Below w3.heap.size w3 w4 := (jlow _ _).trans (jbelow hg4.out (jlow _ _).size (fun g e => by cases e; exact Nat.le_refl _)); have HB4 := jhid9 (jtwo HB3.out hb4); have m0 := HG4.out.cell 0 _ rfl; have m1 := HG4.out.cell 1 _ rfl; have m2 := HG4.out.cell 2 _ rfl; clear hg4 hb4)
      | (go_at_call 17; refine (HAn.out _ HB4.out).mono ?_; rintro e w5 ⟨rfl, hb5⟩; have HB5 := jhid9 (jtwo HB4.out hb5); clear hb5))
    go_ret
    exact ⟨rfl, HB5.out⟩
  · have HPut : Hid (∀ w' : World, Below w.heap.size w w' → Calls Tryd.prog 12 #[.agg #[.int .u8 (k : Int), .int .i64 n, .string nm, .slice a len cap, .int .i64 ln, .int .i64 cl], .string s2, .agg #[.int .u8 (yk : Int), .int .i64 yn, .string ynm, .slice ya ylen ycap, .int .i64 yln, .int .i64 ycl]] w' fun e w'' => (∃ v', e = .returned (.tuple #[v', .int .i64 0]) ∧ XV w'' v' Z) ∧ Below w'.heap.size w' w'') := fun w' hb => (HP0.out w' hb).mono (fun e w'' h => by
      obtain ⟨⟨v', E', he, hP⟩, hb'⟩ := h
      obtain ⟨rfl, hz⟩ := hall _ _ _ hP
      exact ⟨⟨v', he, hz⟩, hb'⟩)
    by_cases hvc : vc = 0
    · obtain ⟨hn, hq1, hq2⟩ := HVals.out m1 m2 m3 m4 hvc
      obtain ⟨nb1, nb2⟩ := nm_iff.1 hn
      subst hvc
      have HEz : Hid (∀ (w' : World) (v' : Value), Below w.heap.size w w' → XV w' v' Z → Calls Tryd.prog 8 #[v', .slice none 0 0] w' fun e w'' => e = .returned (.tuple #[.int .i64 (evl F0 0 Z).v, .agg #[.int .i64 ((evl F0 0 Z).c : Int), .int .i64 (evl F0 0 Z).ln, .int .i64 (evl F0 0 Z).cl]]) ∧ Below w'.heap.size w' w'') := fun w' v' hb hv => HE0.out w' v' Z none 0 0 F0 hb hv (el_nil _ _) (by omega)
      have HEw : Hid (∀ (w' : World) (b : Nat), Below w.heap.size w w' → Vn w' b 50 #[.string s2, .int .i64 vv] → Calls Tryd.prog 8 #[.agg #[.int .u8 (k : Int), .int .i64 n, .string nm, .slice a len cap, .int .i64 ln, .int .i64 cl], .slice (some ⟨b, 0, none⟩) 1 1] w' fun e w'' => e = .returned (.tuple #[.int .i64 (evl (fun _ => ⟨s2, vv⟩) 1 T0).v, .agg #[.int .i64 ((evl (fun _ => ⟨s2, vv⟩) 1 T0).c : Int), .int .i64 (evl (fun _ => ⟨s2, vv⟩) 1 T0).ln, .int .i64 (evl (fun _ => ⟨s2, vv⟩) 1 T0).cl]]) ∧ Below w'.heap.size w' w'') := fun w' b hb hv => HEx.out w' b vv (by omega) (by omega) hb hv
      clear HP0 HE0 HEx HVals hall m1 m2 m3 m4 hn
      generalize evl F0 0 Z = A at *
      generalize evl (fun _ => ⟨s2, vv⟩) 1 T0 = B at *
      obtain ⟨av, ac, al, ak⟩ := A
      obtain ⟨bv, bc, bl, bk⟩ := B
      dsimp only at hq1 hq2 HEz HEw
      subst hq1 hq2
      go_enter Tryd.func5, Tryd.ntmps5
      go_wp2_with (first
        | (go_at_call 12; refine (HPut.out _ HB.out).mono ?_; rintro e w1 ⟨⟨z, rfl, hz⟩, hb1⟩; have HZ1 := jhid9 hz; obtain ⟨⟨za, zc, rfl, _⟩, _⟩ := hz; have HB1 := jhid9 (jtwo HB.out hb1); have HX1 := jhid9 (HX.out.later hb1); have HY1 := jhid9 (HY.out.later hb1); clear hb1)
        | (clear MZ; refine wpList_store_vn rfl 25 _ _ rfl w1.heap.size _ #[.int .u8 ((Z []).k : Int), .int .i64 (Z []).n, .string (Z []).nm, .slice za (Z []).len zc, .int .i64 (Z []).ln, .int .i64 (Z []).cl] rfl rfl (Vn.new w1 _ _) sizeX rfl (all6 rfl rfl rfl rfl rfl rfl) ?_; intro w2 HG2 hg2; have hb2 : Below w1.heap.size w1 w2 := (jlow _ _).trans (jbelow hg2.out (jlow _ _).size (fun g e => by cases e; exact Nat.le_refl _)); have HB2 := jhid9 (jtwo HB1.out hb2); have HX2 := jhid9 (HX1.out.later hb2); have HY2 := jhid9 (HY1.out.later hb2); have HZ2 := jhid9 (HZ1.out.later hb2); have f0 := HY2.out.cell 0 _ rfl; have f1 := HY2.out.cell 1 _ rfl; have f2 := HY2.out.cell 2 _ rfl; have f3 := HY2.out.cell 3 _ rfl; have f4 := HY2.out.cell 4 _ rfl; have f5 := HY2.out.cell 5 _ rfl; clear hg2 hb2)
        | (go_at_call 8; clear ME1; refine (HEy.out _ HB2.out).mono ?_; rintro e w3 ⟨rfl, hb3⟩; have HB3 := jhid9 (jtwo HB2.out hb3); have HZ3 := jhid9 (HZ2.out.later hb3); have HX3 := jhid9 (HX2.out.later hb3); have HG3 := jhid9 (HG2.out.later hb3); clear hb3)
        | (clear MF1; refine wpList_store_vn rfl 29 _ _ rfl w3.heap.size _ #[.int .i64 0, .int .i64 vl, .int .i64 vk] rfl rfl (Vn.new w3 _ _) sizeFau rfl (all3 rfl rfl rfl) ?_; intro w4 HG4 hg4; have hb4 : Below w3.heap.size w3 w4 := (jlow _ _).trans (jbelow hg4.out (jlow _ _).size (fun g e => by cases e; exact Nat.le_refl _)); have HB4 := jhid9 (jtwo HB3.out hb4); have m0 := HG4.out.cell 0 _ rfl; have m1 := HG4.out.cell 1 _ rfl; have m2 := HG4.out.cell 2 _ rfl; have HZ4 := jhid9 (HZ3.out.later hb4); have HX4 := jhid9 (HX3.out.later hb4); have HK4 := jhid9 (HG3.out.later hb4); have p0 := HK4.out.cell 0 _ rfl; have p1 := HK4.out.cell 1 _ rfl; have p2 := HK4.out.cell 2 _ rfl; have p3 := HK4.out.cell 3 _ rfl; have p4 := HK4.out.cell 4 _ rfl; have p5 := HK4.out.cell 5 _ rfl; clear hg4 hb4)
        | (go_at_call 8; clear ME2; refine (HEz.out _ _ HB4.out HZ4.out).mono ?_; rintro e w5 ⟨rfl, hb5⟩; have HB5 := jhid9 (jtwo HB4.out hb5); have HX5 := jhid9 (HX4.out.later hb5); clear hb5)
        | (clear MF2; refine wpList_store_vn rfl 29 _ _ rfl w5.heap.size _ #[.int .i64 (ac : Int), .int .i64 al, .int .i64 ak] rfl rfl (Vn.new w5 _ _) sizeFau rfl (all3 rfl rfl rfl) ?_; intro w6 HG6 hg6; have hb6 : Below w5.heap.size w5 w6 := (jlow _ _).trans (jbelow hg6.out (jlow _ _).size (fun g e => by cases e; exact Nat.le_refl _)); have HB6 := jhid9 (jtwo HB5.out hb6); have HX6 := jhid9 (HX5.out.later hb6); have q0 := HX6.out.cell 0 _ rfl; have q1 := HX6.out.cell 1 _ rfl; have q2 := HX6.out.cell 2 _ rfl; have q3 := HX6.out.cell 3 _ rfl; have q4 := HX6.out.cell 4 _ rfl; have q5 := HX6.out.cell 5 _ rfl; clear hg6 hb6)
        | (go_at_call 8; clear ME3; refine (HEw.out _ _ (jtwo HB6.out (jlow _ _)) (Vn.new w6 _ _)).mono ?_; rintro e w7 ⟨rfl, hb7⟩; have hb7b := jtwo (jlow w6 (.cells #[.string s2, .int .i64 vv] 50)) hb7; have HB7 := jhid9 (jtwo HB6.out hb7b); have HG7 := jhid9 (HG6.out.later hb7b); clear hb7 hb7b)
        | (clear MF3; refine wpList_store_vn rfl 29 _ _ rfl w7.heap.size _ #[.int .i64 (ac : Int), .int .i64 bl, .int .i64 bk] rfl rfl (Vn.new w7 _ _) sizeFau rfl (all3 rfl rfl rfl) ?_; intro w8 HG8 hg8; have hb8 : Below w7.heap.size w7 w8 := (jlow _ _).trans (jbelow hg8.out (jlow _ _).size (fun g e => by cases e; exact Nat.le_refl _)); have HB8 := jhid9 (jtwo HB7.out hb8); have HK8 := jhid9 (HG7.out.later hb8); clear hg8 hb8)
        | (go_at_call 17; refine (HAn.out _ HB8.out).mono ?_; rintro e w9 ⟨rfl, hb9⟩; have HB9 := jhid9 (jtwo HB8.out hb9); have HP9 := jhid9 (HG8.out.later hb9); have HQ9 := jhid9 (HK8.out.later hb9); have u0 := HP9.out.cell 0 _ rfl; have u1 := HQ9.out.cell 0 _ rfl; clear hb9))
      go_ret
      exact ⟨by simp, HB9.out⟩
    · have qv : ((vc : Int) == 0) = false := by simp; omega
      have qv2 : ((vc : Int) != 0) = true := by simp; omega
      clear HP0 HE0 HEx HVals hall m1 m2 m3 m4 hvc
      go_enter Tryd.func5, Tryd.ntmps5
      go_wp2_with (first
        | (go_at_call 12; refine (HPut.out _ HB.out).mono ?_; rintro e w1 ⟨⟨z, rfl, hz⟩, hb1⟩; have HZ1 := jhid9 hz; obtain ⟨⟨za, zc, rfl, _⟩, _⟩ := hz; have HB1 := jhid9 (jtwo HB.out hb1); have HX1 := jhid9 (HX.out.later hb1); have HY1 := jhid9 (HY.out.later hb1); clear hb1)
        | (clear MZ; refine wpList_store_vn rfl 25 _ _ rfl w1.heap.size _ #[.int .u8 ((Z []).k : Int), .int .i64 (Z []).n, .string (Z []).nm, .slice za (Z []).len zc, .int .i64 (Z []).ln, .int .i64 (Z []).cl] rfl rfl (Vn.new w1 _ _) sizeX rfl (all6 rfl rfl rfl rfl rfl rfl) ?_; intro w2 HG2 hg2; have hb2 : Below w1.heap.size w1 w2 := (jlow _ _).trans (jbelow hg2.out (jlow _ _).size (fun g e => by cases e; exact Nat.le_refl _)); have HB2 := jhid9 (jtwo HB1.out hb2); have HX2 := jhid9 (HX1.out.later hb2); have HY2 := jhid9 (HY1.out.later hb2); have HZ2 := jhid9 (HZ1.out.later hb2); have f0 := HY2.out.cell 0 _ rfl; have f1 := HY2.out.cell 1 _ rfl; have f2 := HY2.out.cell 2 _ rfl; have f3 := HY2.out.cell 3 _ rfl; have f4 := HY2.out.cell 4 _ rfl; have f5 := HY2.out.cell 5 _ rfl; clear hg2 hb2)
        | (go_at_call 8; clear ME1; refine (HEy.out _ HB2.out).mono ?_; rintro e w3 ⟨rfl, hb3⟩; have HB3 := jhid9 (jtwo HB2.out hb3); clear hb3)
        | (clear MF1; refine wpList_store_vn rfl 29 _ _ rfl w3.heap.size _ #[.int .i64 (vc : Int), .int .i64 vl, .int .i64 vk] rfl rfl (Vn.new w3 _ _) sizeFau rfl (all3 rfl rfl rfl) ?_; intro w4 HG4 hg4; have hb4 : Below w3.heap.size w3 w4 := (jlow _ _).trans (jbelow hg4.out (jlow _ _).size (fun g e => by cases e; exact Nat.le_refl _)); have HB4 := jhid9 (jtwo HB3.out hb4); have m0 := HG4.out.cell 0 _ rfl; have m1 := HG4.out.cell 1 _ rfl; have m2 := HG4.out.cell 2 _ rfl; clear hg4 hb4)
        | (go_at_call 17; refine (HAn.out _ HB4.out).mono ?_; rintro e w5 ⟨rfl, hb5⟩; have HB5 := jhid9 (jtwo HB4.out hb5); clear hb5))
      go_ret
      exact ⟨rfl, HB5.out⟩
set_option maxRecDepth 100000 in
set_option maxHeartbeats 2000000 in
theorem lifted (os : Os) (started : os.Started) (H : Type) (enc : TypeId × Value → H) :
    ReturnsInHanded {} Tryd.checked os 5 .any (fun w args => (Rows.numberPutsSpec.pre enc Tryd.prog Tryd.f5 [] false w args ∧ laidMetH Tryd.prog laidL w) ∧ sizedMet enc Tryd.prog Tryd.f5 (OpenSpec.ofChange Rows.numberPutsSpec) false w args)
      (Rows.numberPutsSpec.post enc Tryd.prog Tryd.f5 false true false false) := by
  refine returnsInHanded_of_change_and (C := Tryd.checked) (X := fun w _ => laidMetH Tryd.prog laidL w) (fun _ _ _ hh h => h.of_heap hh) own started (by kernel_rfl) Tryd.func5
    (ChangeSpec.witness_shaped (enc := enc) (C := Tryd.checked) (os := os) (X := fun w _ => laidMetH Tryd.prog laidL w) false (World.doorLaid Tryd.prog 4000 os) #[.agg #[.int .u8 0, .int .i64 0, .string ⟨#[]⟩, .slice none 0 0, .int .i64 0, .int .i64 0], .agg #[.int .u8 0, .int .i64 0, .string ⟨#[]⟩, .slice none 0 0, .int .i64 0, .int .i64 0], .string ⟨#[]⟩] 8 rfl (World.shaped_of_RefB (by kernel_rfl) (by kernel_rfl)) (by kernel_rfl) (by kernel_rfl) (by kernel_rfl) (door_met os _)) ?_
  intro W base args ds gs before hval0 hW hcnd hsz0 hL _
  have hsz : (DataW.weightsEach Tryd.prog (Tryd.f5.params.toList ++ Rows.numberPutsSpec.plain.varTypes Tryd.prog) (ds ++ gs)).all (· ≤ reachBytes) = true := hsz0
  clear hsz0
  have hval : ∀ (j : Nat) t v, Tryd.f5.params[j]? = some t → args[j]? = some v → Value.okWide Tryd.prog W .any base t v := hval0
  have hW' := hW
  obtain ⟨p, q, hA0, hV, rfl, hfz, hnd⟩ := hW
  have hA : DataW.TrodAll enc Tryd.prog W 0 (fun _ => true) true Tryd.f5.params.toList args.toList ds p := hA0
  rw [Tryd.params5] at hA hval hsz
  obtain ⟨va0, vs0, d0, ds0, p0, q0, hargs0, rfl, rfl, h0, tr0⟩ := trodAll_cons hA
  obtain ⟨va1, vs1, d1, ds1, p1, q1, hargs1, rfl, rfl, h1, tr1⟩ := trodAll_cons tr0
  obtain ⟨va2, vs2, d2, ds2, p2, q2, hargs2, rfl, rfl, h2, tr2⟩ := trodAll_cons tr1
  obtain ⟨rfl, rfl, rfl⟩ := trodAll_nil tr2
  obtain rfl : args = #[va0, va1, va2] := by cases args; simp_all
  obtain ⟨rfl, rfl⟩ := trodVars_none hV
  have k0 := h0
  have lt0 : ∀ x ∈ p0, x.block < W.heap.size := by obtain ⟨m, hm⟩ := k0; exact DataW.trod_lt m _ _ _ hm
  have k1 := h1
  have lt1 : ∀ x ∈ p1, x.block < W.heap.size := by obtain ⟨m, hm⟩ := k1; exact DataW.trod_lt m _ _ _ hm
  have k2 := h2
  have lt2 : ∀ x ∈ p2, x.block < W.heap.size := by obtain ⟨m, hm⟩ := k2; exact DataW.trod_lt m _ _ _ hm
  have hL0 := hL
  rw [MakeChecks.laidMetH_plain _ _ _ (by kernel_rfl)] at hL0
  obtain ⟨T0, w0⟩ : ∃ T : Xt, XV W va0 T := by
    obtain ⟨fuel, hf⟩ := h0
    obtain ⟨cs, rfl, _⟩ := okWide_struct Tryd.underlying25 (hval 0 25 va0 rfl rfl)
    obtain ⟨T, hT⟩ := x_in fuel cs.toList _ (by simpa [Value.cells] using hf) (List.all_eq_true.2 fun n hn => List.all_eq_true.1 hsz n (DataW.weights_mem_each (j := 0) rfl rfl n hn))
    exact ⟨T, by simpa using hT.value⟩
  obtain ⟨T1, w1⟩ : ∃ T : Xt, XV W va1 T := by
    obtain ⟨fuel, hf⟩ := h1
    obtain ⟨cs, rfl, _⟩ := okWide_struct Tryd.underlying25 (hval 1 25 va1 rfl rfl)
    obtain ⟨T, hT⟩ := x_in fuel cs.toList _ (by simpa [Value.cells] using hf) (List.all_eq_true.2 fun n hn => List.all_eq_true.1 hsz n (DataW.weights_mem_each (j := 1) rfl rfl n hn))
    exact ⟨T, by simpa using hT.value⟩
  obtain ⟨s2, rfl, w2⟩ : ∃ s : ByteArray, va2 = .string s ∧ s.size ≤ 140737488351232 := by
    obtain ⟨s, rfl, hd, _, _⟩ := Go.ChangeMaps.open_string Tryd.underlying9 (hval 2 9 va2 rfl rfl) h2
    refine ⟨s, rfl, ?_⟩
    have hs := sized_string hsz (j := 2) (t := 9) rfl (congrArg some hd)
    simp only [Array.length_toList, reachBytes] at hs
    have : s.size = s.data.size := rfl
    omega
  clear hA0 hval0
  refine (walk va0 T0 va1 T1 s2 W w0 w1 w2 (of_words hL0)).mono fun e W' ⟨he, bel⟩ => ?_
  subst he
  exact ⟨_, rfl, _, _, _, [], _, [], hW', trodAll_mk1 (shut_bool Tryd.underlying4 _), (trodAll_cons_mk (Below.trod laidOut (by kernel_rfl) (of_decide_eq_true (by kernel_rfl)) k0 bel lt0) (trodAll_cons_mk (Below.trod laidOut (by kernel_rfl) (of_decide_eq_true (by kernel_rfl)) k1 bel lt1) (trodAll_cons_mk (Below.trod laidOut (by kernel_rfl) (of_decide_eq_true (by kernel_rfl)) k2 bel lt2) trodAll_mk0))), rfl, bel.frame _, fun h => by cases h⟩
theorem over : Rows.NumberPutsSaid :=
  OpenClaim.holds_of_wide 5 Tryd.f5 rfl rfl rfl rfl rfl rfl rfl ⟨rfl, rfl, rfl, rfl, rfl⟩ rfl rfl rfl rfl rfl (by kernel_rfl) Tryd.func5 (by kernel_rfl)
    (of_decide_eq_true (by kernel_rfl)) (by unfold Func.isWrapper; first | (rw [if_pos (by decide +kernel)]; kernel_rfl) | (rw [if_neg (by decide +kernel)]; exact ⟨rfl, rfl⟩))
    (fun os started H enc _ => lifted os started H enc)
theorem proved : Rows.NumberPutsCardSaid :=
  Claim7.holds_tied_plain_at .later [] [.data] true (true, "1329221dac406c43c15575f849f7c51730e5667f4e56abb764632b948d968ae6") false
    over (fun _ h => by cases h) (by kernel_rfl) (fun _ h => by cases h) numberPuts_row_tie rfl ⟨rfl, rfl⟩ (by kernel_rfl) rfl
    (fun f fn hf hfn => by
      obtain rfl : f = 5 := Option.some.inj ((show Tryd.prog.funcNamed "recoup/recouplaw12.NumberPuts" = some 5 by kernel_rfl).symm.trans hf) |>.symm
      obtain rfl : fn = Tryd.f5 := (Option.some.inj (Tryd.func5.symm.trans hfn)).symm
      exact ⟨by kernel_rfl, fun j t ht => by
        rw [Tryd.params5] at ht
        have hm : t ∈ [25, 25, 9] := by simpa using Array.mem_of_getElem? ht
        have hall : ([25, 25, 9].all fun u => !Tryd.prog.wantsStandIn u) = true := by kernel_rfl
        exact (show Tryd.prog.wantsStandIn t = false by simpa using List.all_eq_true.1 hall t hm)⟩)
    (by kernel_rfl)
#print axioms proved
end Go.Proofs.YtgmndjbicandfaaDoor.numberPuts
