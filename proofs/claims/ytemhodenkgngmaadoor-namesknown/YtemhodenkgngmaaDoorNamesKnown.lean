/-
  Proved: for every list of items: all names that are used stand in the table, none twice, and items rise (P13.4); no condition.
-/
import Derived.Test.YtemhodenkgngmaaDoorQkkwn00
import Derived.Test.YtemhodenkgngmaaDoorQkkwn49
import Derived.Test.YtemhodenkgngmaaDoorTie
import Derived.Test.YtemhodenkgngmaaDoorCards
import Derived.Test.YtemhodenkgngmaaDoorQkkwn50
import Derived.WalkKit
import Derived.SizedLaws
import Derived.ProofKit
import Derived.LaidMore
import Derived.OpenShut
import Derived.ShutString
import Derived.ChangeOld
import Derived.Below
import Derived.Stop.Joined
import Derived.SevenTiedAt
import Derived.Lib.SmallJoins
import Derived.Lib.LaidTab
import Derived.MakeChecks
import Derived.Handed
import Derived.Stop.LaidErr
set_option maxRecDepth 100000
set_option maxHeartbeats 16000000
namespace Go.Proofs.YtemhodenkgngmaaDoor.namesKnown
open Go.ChangeShapes Go.WideShapes Go.ChangeAt Go.RowKit Go.Joins
set_option linter.unusedVariables false
theorem own : ownKnob Tryd.prog.godebug = none := by kernel_rfl
theorem laidOut : laidOutB Tryd.prog = true := by kernel_rfl
/-- What the listed variables hold. -/
def laidL : List (String × DataW Unit) := [("recoup/token.words", Rows.laid_recoup_token_words)]
theorem door_met (os : Os) (args : Array Value) : laidMetH Tryd.prog laidL ((World.doorLaid Tryd.prog 4000 os).forCall (fun _ _ => 0) ⟨#[], args, []⟩).memory :=
 laidMetH_of_parts3 (fuel := 8) (laidMet_of_run' 8 (by kernel_rfl) (by kernel_rfl)) (by kernel_rfl) (by kernel_rfl)
theorem gWds : Tryd.prog.globalNamed "recoup/token.words" = some 0 := by kernel_rfl
theorem tWds : (Tryd.prog.globals[0]?).map (·.type) = some 165 := by kernel_rfl
theorem dWds : (Rows.laid_recoup_token_words : DataW Unit) = .agg ((wds.map fun x => x.data.toList).map fun z => .lit (.string z)) := by kernel_rfl
theorem of_words {W : World} (h : laidMet Tryd.prog laidL W) : Wt9 W := by
 have hk := h
 obtain ⟨ps, ⟨g0, t0, cs0, f0, p0, q0, hg0, ht0, hv0, hd0, _, _⟩, _, _⟩ := hk
 obtain rfl := Option.some.inj (gWds.symm.trans hg0)
 obtain rfl := Option.some.inj (tWds.symm.trans ht0)
 rw [dWds] at hd0
 have hc := qbs Tryd.underlying165 Tryd.underlying9 (by kernel_rfl) (by kernel_rfl) hd0
 unfold Wt9
 rw [hv0]
 obtain ⟨l⟩ := cs0
 have hl : l = wds.map Value.string := hc.trans (by kernel_rfl)
 rw [hl]
theorem tbd_code {F : Nat → It} {n : Nat} {c l1 l2 : Int} (h : tbD F n = .error (c, l1, l2)) : c ≠ 0 := by
 unfold tbD at h
 split at h
 ·exact tbl_code h
 ·cases h; decide

theorem walk (a0 : Option Addr) (len0 cap0 : Nat) (F0 : Nat → It) (w : World) (w0 : Its w a0 len0 F0) (l0 : len0 ≤ 549755813888) (c0 : len0 ≤ cap0) (t1 : Wt9 w) :
  Calls Tryd.prog 6 #[.slice a0 len0 cap0] w fun e w' => e = .returned (.bool true) ∧ Below w.heap.size w w' := by
 have HI := qa0 w0
 have HW := qa0 t1
 have HAn : Hid (∀ w' : World, Below w.heap.size w w' → Calls Tryd.prog 12 #[] w' fun e w'' => e = .returned (.bool true) ∧ Below w'.heap.size w' w'') := fun w' hb => qe7 w' (HW.out.later hb)
 have HTn : Hid (∀ w' : World, Below w.heap.size w w' → Calls Tryd.prog 9 #[.slice a0 len0 cap0] w' fun e w'' => TbA w'' w'.heap.size e (tbD F0 len0) ∧ Below w'.heap.size w' w'') := fun w' hb => ptable w' a0 len0 cap0 F0 (HI.out.later hb) l0 (HW.out.later hb)
 have hef := qd2
 have hnf := qao
 cases hx : tbD F0 len0 with
 | error qq =>
  obtain ⟨c, l1, l2⟩ := qq
  have hc := tbd_code hx
  rw [hx] at HTn
  have HUa : Hid (∀ w' : World, Below w.heap.size w w' → Calls Tryd.prog 17 #[.slice a0 len0 cap0] w' fun e w'' => (∃ v x, e = .returned (.tuple #[v, .int .i64 x])) ∧ Below w'.heap.size w' w'') := fun w' hb => qfb w' a0 len0 cap0 F0 (HI.out.later hb) l0 (HW.out.later hb)
  clear hx w0 t1
  have q0 : (c != 0) = true := by simpa using hc
  go_enter Tryd.func6, Tryd.ntmps6
  go_wp2_with (first
   | (go_at_call 9; go_loud (refine (HTn.out _ (Below.refl _ _)).mono ?_; rintro e w1 ⟨rfl, hb1⟩; have HVa := qa0 (Vn.new w1 26 #[.int .i64 c, .int .i64 l1, .int .i64 l2]); have HBa := qa0 (jtwo hb1 (jlow w1 (.cells #[.int .i64 c, .int .i64 l1, .int .i64 l2] 26))); clear hb1))
   | (go_at_call 17; go_loud (refine (HUa.out _ HBa.out).mono ?_; rintro e w2 ⟨⟨v, x, rfl⟩, hb2⟩; have HBb := qa0 (jtwo HBa.out hb2); have m0 := (HVa.out.later hb2).cell 0 _ rfl; clear hb2))
   | (go_at_call 12; go_loud (refine (HAn.out _ HBb.out).mono ?_; rintro e w3 ⟨rfl, hb3⟩; have HBc := qa0 (jtwo HBb.out hb3); clear hb3)))
  go_ret
  exact ⟨rfl, HBc.out⟩
 | ok T =>
  rw [hx] at HTn
  have hm : mayD F0 len0 = true := by
   cases hm : mayD F0 len0 with
   | true => rfl
   | false =>
    have e1 : tbD F0 len0 = .error (2, 0, 0) := by show (if _ then _ else _) = _; rw [if_neg (by rw [hm]; decide)]
    rw [e1] at hx; cases hx
  have hx2 : tbl F0 len0 = .ok T := by rw [← hx]; show _ = (if _ then _ else _); rw [if_pos hm]
  have hTl := tbl_len hx2
  have hTR := tbl_tr (qbo hm).2 hx2
  have h64 := (qbo hm).1
  obtain ⟨L, HL⟩ : ∃ L, Hid ((nam (usl F0 len0)).mergeSort leB = L) := ⟨_, rfl⟩
  have hll : L.length = (nam (usl F0 len0)).length := by rw [← HL.out, List.length_mergeSort]
  have HUo : Hid (∀ w' : World, Below w.heap.size w w' → Calls Tryd.prog 17 #[.slice a0 len0 cap0] w' fun e w'' => (∃ v, e = .returned (.tuple #[v, .int .i64 0]) ∧ w''.ownsRow w'.heap.size 9 1 v L.length (L.map encStr)) ∧ Below w'.heap.size w' w'') := fun w' hb => by
   have h := qdw w' a0 len0 cap0 F0 (HI.out.later hb) l0 (HW.out.later hb) hm
   unfold UsA at h
   rw [HL.out, ← hll] at h
   exact h
  have hLw : L.length ≤ 8192 := by rw [hll]; exact Nat.le_trans (qf9 _) (qf6 hm)
  have HKn : Hid (∀ (i : Nat) (x : List UInt8), L[i]? = some x → ∃ y, lok (fun j => T.getD j sy0) ⟨x.toArray⟩ T.length 0 = (y, true)) := fun i x hx => by
   have h1 : x ∈ nam (usl F0 len0) := by
    have h2 := List.mem_of_getElem? hx
    rw [← HL.out] at h2
    exact (List.mergeSort_perm _ _).mem_iff.1 h2
   obtain ⟨u, hu, rfl⟩ := qf8.1 h1
   obtain ⟨q, hq, hu⟩ := usl_mem.1 hu
   exact hTR.find (by simpa using tbl_used hx2 q hq u hu)
  have HLk : Hid (∀ (w' : World) (x : Option Addr) (d : Nat) (s : ByteArray), SyL w' x T.length (fun j => T.getD j sy0) → Calls Tryd.prog 13 #[.slice x T.length d, .string s] w' fun e w'' => e = .returned (.tuple #[.agg (syC (lok (fun j => T.getD j sy0) s T.length 0).1), .bool (lok (fun j => T.getD j sy0) s T.length 0).2]) ∧ Below w'.heap.size w' w'') := fun w' x d s h => plook w' x T.length d _ s h (by omega)
  have HTR := qa0 hTR
  clear hx hx2 hTR w0 t1 hll hm HL
  have hns := neq_sy13
  have hng := qbp
  go_enter Tryd.func6, Tryd.ntmps6
  go_wp2_with (first
   | (go_at_call 9; go_loud (refine (HTn.out _ (Below.refl _ _)).mono ?_; rintro e w1 ⟨⟨v, rfl, hs1, hok1⟩, hb1⟩; obtain ⟨x3, d3, rfl, -⟩ := hs1.form; have HX1 := qa0 ((hs1.el hok1).2.later (jlow w1 (.cells #[.int .i64 0, .int .i64 0, .int .i64 0] 26))); clear hs1 hok1; have HVa := qa0 (Vn.new w1 26 #[.int .i64 0, .int .i64 0, .int .i64 0]); have HBa := qa0 (jtwo hb1 (jlow w1 (.cells #[.int .i64 0, .int .i64 0, .int .i64 0] 26))); clear hb1))
   | (go_at_call 17; go_loud (refine (HUo.out _ HBa.out).mono ?_; rintro e w2 ⟨⟨v, rfl, hr⟩, hb2⟩; obtain ⟨xs, ds, rfl, hst⟩ := own_str hr rfl; have HSt := qa0 hst; have HBb := qa0 (jtwo HBa.out hb2); have HX2 := qa0 (HX1.out.later hb2); have m0 := (HVa.out.later hb2).cell 0 _ rfl; clear hb2 hr hst)))
  go_loopw [7] (fun vi wr => ∃ i : Nat, i ≤ L.length ∧ vi = .int .i64 (i : Int) ∧ Hid (SyL wr x3 T.length (fun j => T.getD j sy0)) ∧ Hid (StL wr xs L) ∧ Hid (Below w.heap.size w wr)) (fun vi _ => L.length - (intOf vi).toNat)
  case atStart => exact ⟨0, by omega, rfl, HX2, HSt, HBb⟩
  case round =>
   obtain ⟨i, hi, rfl, HX, HS, HB⟩ := hrel
   clear HX1 HX2 HSt HVa HBa HBb m0
   by_cases hlt : i < L.length
   ·have p0 : (0 : Int) ≤ (i : Int) := by omega
    have p1 : (i : Int) < (L.length : Int) := by omega
    obtain ⟨x, hx⟩ : ∃ x, L[i]? = some x := ⟨_, List.getElem?_eq_getElem hlt⟩
    obtain ⟨b, o, rfl, z0⟩ := HS.out i x hx
    obtain ⟨y, hy⟩ := HKn.out i x hx
    obtain ⟨s, Hs⟩ : ∃ s : ByteArray, Hid (⟨x.toArray⟩ = s) := ⟨_, rfl⟩
    rw [Hs.out] at z0 hy
    have HLs : Hid (∀ (w' : World) (d : Nat), SyL w' x3 T.length (fun j => T.getD j sy0) → Calls Tryd.prog 13 #[.slice x3 T.length d, .string s] w' fun e w'' => e = .returned (.tuple #[.agg #[.string y.nm, .int .u8 (y.k : Int), .int .i64 y.it, .int .i64 y.n], .bool true]) ∧ Below w'.heap.size w' w'') := fun w' d h => by
     have h2 := HLk.out w' x3 d s h
     rw [hy] at h2
     exact h2
    obtain ⟨yn, yk, yi, yv⟩ := y
    dsimp only at HLs
    clear hx hy Hs
    go_wp2_with (first
     | (go_at_call 13; go_loud (refine (HLs.out _ _ HX.out).mono ?_; rintro e w4 ⟨rfl, hb⟩; have HB4 := qa0 (jtwo HB.out hb); have HX4 := qa0 (HX.out.later hb); have HS4 := qa0 (HS.out.later hb); clear hb))
     | (refine qa1 rfl 35 _ _ rfl w4.heap.size _ #[.string yn, .int .u8 (yk : Int), .int .i64 yi, .int .i64 yv] rfl rfl (Vn.new w4 _ _) qdy rfl (all4 rfl rfl rfl rfl) ?_; go_loud (intro w5 HV5 hg; have hb : Below w4.heap.size w4 w5 := (jlow _ _).trans (jbelow hg.out (jlow _ _).size (fun g e => by cases e; exact Nat.le_refl _)); clear hg; have HB5 := qa0 (jtwo HB4.out hb); have HX5 := qa0 (HX4.out.later hb); have HS5 := qa0 (HS4.out.later hb); clear hb)))
    exact ⟨⟨i + 1, by omega, by go_num, HX5, HS5, HB5⟩, by simp [intOf]; omega⟩
   ·obtain rfl : i = L.length := by omega
    clear HS HKn HUo
    go_wp2
    go_loopw [10] (fun vi wr' => ∃ i : Nat, i ≤ T.length ∧ vi = .int .i64 (i : Int) ∧ Hid (SyL wr' x3 T.length (fun j => T.getD j sy0)) ∧ Hid (Below w.heap.size w wr')) (fun vi _ => T.length - (intOf vi).toNat)
    case atStart => exact ⟨0, by omega, rfl, HX, HB⟩
    case round =>
     obtain ⟨i, hi, rfl, HX', HB'⟩ := hrel
     clear HX HB
     by_cases hlt : i < T.length
     ·have p0 : (0 : Int) ≤ (i : Int) := by omega
      have p1 : (i : Int) < (T.length : Int) := by omega
      have hsr := HTR.out.at_i hlt
      have hlk := HTR.out.look hlt
      have HPr : Hid (∀ p, i = p + 1 → (T.getD p sy0).it < (T.getD i sy0).it) := fun p e => by
       obtain ⟨_, _, _, _, h4⟩ := hsr.at_
       exact h4 _ (qdx (by omega) hlt)
      obtain ⟨q, hq, eq, hnq, -⟩ := hsr.at_
      obtain ⟨b, o, ex⟩ : ∃ b o, x3 = some ⟨b, o, none⟩ := by
       obtain ⟨_, b, o, e, _⟩ := HX'.out i hlt
       exact ⟨b, o, e⟩
      subst ex
      obtain ⟨y, Hy⟩ : ∃ y, Hid (T.getD i sy0 = y) := ⟨_, rfl⟩
      rw [Hy.out] at hlk eq hnq HPr
      obtain ⟨bi, oi, rfl, hnc⟩ := its_name (HI.out.later HB'.out) hq
      rw [hnq] at hnc
      obtain ⟨yn, yk, yi, yv⟩ := y
      dsimp only at hlk eq hnc HPr
      subst eq
      have HLs : Hid (∀ (w' : World) (d : Nat), SyL w' (some ⟨b, o, none⟩) T.length (fun j => T.getD j sy0) → Calls Tryd.prog 13 #[.slice (some ⟨b, o, none⟩) T.length d, .string yn] w' fun e w'' => e = .returned (.tuple #[.agg #[.string yn, .int .u8 (yk : Int), .int .i64 (q : Int), .int .i64 yv], .bool true]) ∧ Below w'.heap.size w' w'') := fun w' d h => by
       have h2 := HLk.out w' (some ⟨b, o, none⟩) d yn h
       rw [hlk] at h2
       exact h2
      have HCy : Hid (∀ W : World, SyL W (some ⟨b, o, none⟩) T.length (fun j => T.getD j sy0) → W.cell? ⟨b, o + i * 4, none⟩ = some (.string yn) ∧ W.cell? ⟨b, o + i * 4 + 1, none⟩ = some (.int .u8 (yk : Int)) ∧ W.cell? ⟨b, o + i * 4 + 2, none⟩ = some (.int .i64 (q : Int)) ∧ W.cell? ⟨b, o + i * 4 + 3, none⟩ = some (.int .i64 yv)) := fun W h => by
       obtain ⟨_, b', o', e, h0, h1, h2, h3⟩ := h i hlt
       cases e
       dsimp only at h0 h1 h2 h3
       rw [Hy.out] at h0 h1 h2 h3
       exact ⟨h0, h1, h2, h3⟩
      have HNc := qa0 hnc
      clear hlk hnq hsr hnc
      have z0 := (HCy.out _ HX'.out).1
      go_wp2_with (first
       | (go_at_call 13; go_loud (refine (HLs.out _ _ HX'.out).mono ?_; rintro e w4 ⟨rfl, hb⟩; have HB4 := qa0 (jtwo HB'.out hb); have HX4 := qa0 (HX'.out.later hb); have HN4 := qa0 (cell_kept HNc.out hb); clear hb))
       | (refine qa1 rfl 35 _ _ rfl w4.heap.size _ #[.string yn, .int .u8 (yk : Int), .int .i64 (q : Int), .int .i64 yv] rfl rfl (Vn.new w4 _ _) qdy rfl (all4 rfl rfl rfl rfl) ?_; go_loud (intro w5 HV5 hg; have hb : Below w4.heap.size w4 w5 := (jlow _ _).trans (jbelow hg.out (jlow _ _).size (fun g e => by cases e; exact Nat.le_refl _)); clear hg; have HB5 := qa0 (jtwo HB4.out hb); have HX5 := qa0 (HX4.out.later hb); have HN5 := qa0 (cell_kept HN4.out hb); clear hb)))
      obtain ⟨k0, k1, k2, k3⟩ := HCy.out _ HX5.out
      have v0 := HV5.out.cell 0 _ rfl
      have v1 := HV5.out.cell 1 _ rfl
      have v2 := HV5.out.cell 2 _ rfl
      have v3 := HV5.out.cell 3 _ rfl
      have nc := HN5.out
      have g1 : decide ((len0 : Int) ≤ (q : Int)) = false := decide_eq_false (by omega)
      have g2 : decide (len0 ≤ q) = false := decide_eq_false (by omega)
      have r0 : (0 : Int) ≤ (q : Int) := by omega
      have r1 : (q : Int) < (len0 : Int) := by omega
      cases i with
      | zero =>
       have g0 : decide ((0 : Int) < ((0 : Nat) : Int)) = false := rfl
       have g00 : decide ((0 : Int) < 0) = false := rfl
       rw [Nat.zero_mul, Nat.add_zero] at k0 k1 k2 k3
       have p2 : (0 : Int) < (T.length : Int) := by omega
       have p3 : 0 < T.length := by omega
       clear z0 HCy HNc HN4 HN5 HX' HB' HPr
       go_quiet (fail)
       go_wp2
       exact ⟨⟨1, by omega, by go_num, HX5.out.later (below_drewN (Below.refl _ _) _), below_drewN HB5.out _⟩, by simp [intOf]; omega⟩
      | succ p =>
       have g0 : decide ((0 : Int) < ((p + 1 : Nat) : Int)) = true := decide_eq_true (by omega)
       have hpr := HPr.out p rfl
       obtain ⟨-, b', o', e, -, -, pc, -⟩ := HX5.out p (by omega)
       cases e
       dsimp only at pc
       generalize (T.getD p sy0).it = pi at hpr pc
       have g3 : decide ((q : Int) ≤ pi) = false := decide_eq_false (by omega)
       have s0 : (0 : Int) ≤ (p : Int) := by omega
       have s1 : (p : Int) < (T.length : Int) := by omega
       have s2 : ((p : Int) + 1 - 1) = (p : Int) := by omega
       have s3 : IntKind.i64.wrap (p : Int) = (p : Int) := by rw [IntKind.wrap_i64]; omega
       have s4 : IntKind.i64.wrap ((p : Int) + 1 - 1) = (p : Int) := by rw [s2]; exact s3
       have g00 : decide ((0 : Int) < (p : Int) + 1) = true := decide_eq_true (by omega)
       have s5 : (p : Int) + 1 < (T.length : Int) := by omega
       have s6 : (0 : Int) ≤ (p : Int) + 1 := by omega
       clear z0 HCy HNc HN4 HN5 HX' HB' HPr hpr
       go_quiet (fail)
       go_wp2
       exact ⟨⟨p + 1 + 1, by omega, by go_num, HX5.out.later (below_drewN (Below.refl _ _) _), below_drewN HB5.out _⟩, by simp [intOf]; omega⟩
     ·obtain rfl : i = T.length := by omega
      go_wp2_with (go_at_call 12; go_loud (refine (HAn.out _ HB'.out).mono ?_; rintro e w9 ⟨rfl, hb9⟩; have HB9 := qa0 (jtwo HB'.out hb9); clear hb9))
      go_ret
      exact ⟨rfl, HB9.out⟩
theorem lifted (os : Os) (started : os.Started) (H : Type) (enc : TypeId × Value → H) :
  ReturnsInHanded {} Tryd.checked os 6 .any (fun w args => (Rows.namesKnownSpec.pre enc Tryd.prog Tryd.f6 [] false w args ∧ laidMetH Tryd.prog laidL w) ∧ sizedMet enc Tryd.prog Tryd.f6 (OpenSpec.ofChange Rows.namesKnownSpec) false w args)
   (Rows.namesKnownSpec.post enc Tryd.prog Tryd.f6 false true false false) := by
 refine returnsInHanded_of_change_and (C := Tryd.checked) (X := fun w _ => laidMetH Tryd.prog laidL w) (fun _ _ _ hh h => h.of_heap hh) own started (by kernel_rfl) Tryd.func6
  (ChangeSpec.witness_shaped (enc := enc) (C := Tryd.checked) (os := os) (X := fun w _ => laidMetH Tryd.prog laidL w) false (World.doorLaid Tryd.prog 4000 os) #[.slice none 0 0] 8 rfl (World.shaped_of_RefB (by kernel_rfl) (by kernel_rfl)) (by kernel_rfl) (by kernel_rfl) (by kernel_rfl) (door_met os _)) ?_
 intro W base args ds gs before hval0 hW hcnd hsz0 hL _
 have hsz : (DataW.weightsEach Tryd.prog (Tryd.f6.params.toList ++ Rows.namesKnownSpec.plain.varTypes Tryd.prog) (ds ++ gs)).all (· ≤ reachBytes) = true := hsz0
 clear hsz0
 have hval : ∀ (j : Nat) t v, Tryd.f6.params[j]? = some t → args[j]? = some v → Value.okWide Tryd.prog W .any base t v := hval0
 have hW' := hW
 obtain ⟨p, q, hA0, hV, rfl, hfz, hnd⟩ := hW
 have hA : DataW.TrodAll enc Tryd.prog W 0 (fun _ => true) true Tryd.f6.params.toList args.toList ds p := hA0
 rw [Tryd.params6] at hA hval hsz
 obtain ⟨va0, vs0, d0, ds0, p0, q0, hargs0, rfl, rfl, h0, tr0⟩ := trodAll_cons hA
 obtain ⟨rfl, rfl, rfl⟩ := trodAll_nil tr0
 obtain rfl : args = #[va0] := by cases args; simp_all
 obtain ⟨rfl, rfl⟩ := trodVars_none hV
 have k0 := h0
 have lt0 : ∀ x ∈ p0, x.block < W.heap.size := by obtain ⟨m, hm⟩ := k0; exact DataW.trod_lt m _ _ _ hm
 have hL0 := hL
 rw [MakeChecks.laidMetH_plain _ _ _ (by kernel_rfl)] at hL0
 obtain ⟨a0, len0, cap0, F0, rfl, l0, w0⟩ : ∃ (a : Option Addr) (len cap : Nat) (F : Nat → It), va0 = .slice a len cap ∧ len ≤ 549755813888 ∧ Its W a len F := by
  obtain ⟨fuel, hf⟩ := h0
  obtain ⟨a, len, cap, rfl⟩ := okWide_slice Tryd.underlying22 (hval 0 22 va0 rfl rfl)
  exact its_in (by simpa [Value.cells] using hf) (List.all_eq_true.2 fun n hn => List.all_eq_true.1 hsz n (DataW.weights_mem_each (j := 0) rfl rfl n hn))
 have c0 : len0 ≤ cap0 := by
  obtain ⟨fuel, hf⟩ := h0
  exact cap_in (fuel := fuel) (by simpa [Value.cells] using hf)
 clear hA0 hval0
 refine (walk a0 len0 cap0 F0 W w0 l0 c0 (of_words hL0)).mono fun e W' ⟨he, bel⟩ => ?_
 subst he
 exact ⟨_, rfl, _, _, _, [], _, [], hW', trodAll_mk1 (shut_bool Tryd.underlying4 _), (trodAll_cons_mk (Below.trod laidOut (by kernel_rfl) (of_decide_eq_true (by kernel_rfl)) k0 bel lt0) trodAll_mk0), rfl, bel.frame _, fun h => by cases h⟩
theorem over : Rows.NamesKnownSaid :=
 OpenClaim.holds_of_wide 6 Tryd.f6 rfl rfl rfl rfl rfl rfl rfl ⟨rfl, rfl, rfl, rfl, rfl⟩ rfl rfl rfl rfl rfl (by kernel_rfl) Tryd.func6 (by kernel_rfl)
  (of_decide_eq_true (by kernel_rfl)) (by unfold Func.isWrapper; first | (rw [if_pos (by decide +kernel)]; kernel_rfl) | (rw [if_neg (by decide +kernel)]; exact ⟨rfl, rfl⟩))
  (fun os started H enc _ => lifted os started H enc)
theorem proved : Rows.NamesKnownCardSaid :=
 Claim7.holds_tied_plain_at .later [] [.data] true (true, "cb96c78dc449a60ff3d87b454051880e732b7ed7f30712d5013391cc80f9a798") false
  over (fun _ h => by cases h) (by kernel_rfl) (fun _ h => by cases h) namesKnown_row_tie rfl ⟨rfl, rfl⟩ (by kernel_rfl) rfl
  (fun f fn hf hfn => by
   obtain rfl : f = 6 := Option.some.inj ((show Tryd.prog.funcNamed "recoup/recouplaw13.NamesKnown" = some 6 by kernel_rfl).symm.trans hf) |>.symm
   obtain rfl : fn = Tryd.f6 := (Option.some.inj (Tryd.func6.symm.trans hfn)).symm
   exact ⟨by kernel_rfl, fun j t ht => by
    rw [Tryd.params6] at ht
    have hm : t ∈ [22] := by simpa using Array.mem_of_getElem? ht
    have hall : ([22].all fun u => !Tryd.prog.wantsStandIn u) = true := by kernel_rfl
    exact (show Tryd.prog.wantsStandIn t = false by simpa using List.all_eq_true.1 hall t hm)⟩)
  (by kernel_rfl)
#print axioms proved
end Go.Proofs.YtemhodenkgngmaaDoor.namesKnown
