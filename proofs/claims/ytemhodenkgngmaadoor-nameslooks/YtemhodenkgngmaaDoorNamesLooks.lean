/-
  Proved: for every list of symbols and every name: the program's Look and Env answer what the document's do (P13.2); no condition.
-/
import Derived.Test.YtemhodenkgngmaaDoorQllks00
import Derived.Test.YtemhodenkgngmaaDoorQllks41
import Derived.Test.YtemhodenkgngmaaDoorTie
import Derived.Test.YtemhodenkgngmaaDoorCards
import Derived.Deep.RegionHeld
import Derived.WalkKit
import Derived.SizedLaws
import Derived.ProofKit
import Derived.LaidMore
import Derived.OpenShut
import Derived.ShutString
import Derived.ChangeOld
import Derived.Below
import Derived.Stop.Joined
import Derived.SevenTiedAt
import Derived.Lib.SmallJoins
import Derived.Lib.LaidTab
import Derived.MakeChecks
import Derived.Handed
import Derived.Stop.LaidErr
set_option maxRecDepth 100000
set_option maxHeartbeats 16000000
namespace Go.Proofs.YtemhodenkgngmaaDoor.namesLooks
open Go.ChangeShapes Go.WideShapes Go.ChangeAt Go.RowKit Go.Joins
set_option linter.unusedVariables false
theorem own : ownKnob Tryd.prog.godebug = none := by kernel_rfl
theorem laidOut : laidOutB Tryd.prog = true := by kernel_rfl
/-- What the listed variables hold. -/
def laidL : List (String × DataW Unit) := [("recoup/token.words", Rows.laid_recoup_token_words)]
theorem door_met (os : Os) (args : Array Value) : laidMetH Tryd.prog laidL ((World.doorLaid Tryd.prog 4000 os).forCall (fun _ _ => 0) ⟨#[], args, []⟩).memory :=
 laidMetH_of_parts3 (fuel := 8) (laidMet_of_run' 8 (by kernel_rfl) (by kernel_rfl)) (by kernel_rfl) (by kernel_rfl)
theorem gWds : Tryd.prog.globalNamed "recoup/token.words" = some 0 := by kernel_rfl
theorem tWds : (Tryd.prog.globals[0]?).map (·.type) = some 165 := by kernel_rfl
theorem dWds : (Rows.laid_recoup_token_words : DataW Unit) = .agg ((wds.map fun x => x.data.toList).map fun z => .lit (.string z)) := by kernel_rfl
theorem of_words {W : World} (h : laidMet Tryd.prog laidL W) : Wt9 W := by
 have hk := h
 obtain ⟨ps, ⟨g0, t0, cs0, f0, p0, q0, hg0, ht0, hv0, hd0, _, _⟩, _, _⟩ := hk
 obtain rfl := Option.some.inj (gWds.symm.trans hg0)
 obtain rfl := Option.some.inj (tWds.symm.trans ht0)
 rw [dWds] at hd0
 have hc := qb9 Tryd.underlying165 Tryd.underlying9 (by kernel_rfl) (by kernel_rfl) hd0
 unfold Wt9
 rw [hv0]
 obtain ⟨l⟩ := cs0
 have hl : l = wds.map Value.string := hc.trans (by kernel_rfl)
 rw [hl]
theorem walk (a0 : Option Addr) (len0 cap0 : Nat) (F0 : Nat → Sy) (s1 : ByteArray) (w : World) (w0 : SyL w a0 len0 F0) (l0 : len0 ≤ 3600000000000) (w1 : s1.size ≤ 140737488351232) (t1 : Wt9 w) :
  Calls Tryd.prog 4 #[.slice a0 len0 cap0, .string s1] w fun e w' => e = .returned (.bool true) ∧ Below w.heap.size w w' := by
 have HF := qa0 w0
 have HAn : Hid (∀ w' : World, Below w.heap.size w w' → Calls Tryd.prog 12 #[] w' fun e w'' => e = .returned (.bool true) ∧ Below w'.heap.size w' w'') := fun w' hb => qcz w' (t1.later hb)
 have HL1 : Hid (∀ w' : World, Below w.heap.size w w' → Calls Tryd.prog 13 #[.slice a0 len0 cap0, .string s1] w' fun e w'' => e = .returned (.tuple #[.agg (syC (lok F0 s1 len0 0).1), .bool (lok F0 s1 len0 0).2]) ∧ Below w'.heap.size w' w'') := fun w' hb => plook w' a0 len0 cap0 F0 s1 (HF.out.later hb) (by omega)
 have HL2 : Hid (∀ w' : World, Below w.heap.size w w' → Calls Tryd.prog 14 #[.slice a0 len0 cap0, .string s1] w' fun e w'' => e = .returned (.tuple #[.agg (syC (lok F0 s1 len0 0).1), .bool (lok F0 s1 len0 0).2]) ∧ Below w'.heap.size w' w'') := fun w' hb => rlook w' a0 len0 cap0 F0 s1 (HF.out.later hb) (by omega)
 have HE1 : Hid (∀ w' : World, Below w.heap.size w w' → Calls Tryd.prog 15 #[.slice a0 len0 cap0] w' fun e w'' => (∃ v, e = .returned v ∧ Cw w'' w'.heap.size v (cst F0 len0)) ∧ Below w'.heap.size w' w'') := fun w' hb => penv w' a0 len0 cap0 F0 (HF.out.later hb) (by omega)
 have HE2 : Hid (∀ w' : World, Below w.heap.size w w' → Calls Tryd.prog 16 #[.slice a0 len0 cap0] w' fun e w'' => (∃ v, e = .returned v ∧ Cw w'' w'.heap.size v (cst F0 len0)) ∧ Below w'.heap.size w' w'') := fun w' hb => renv w' a0 len0 cap0 F0 (HF.out.later hb) (by omega)
 have Hc : Hid (∀ c ∈ cst F0 len0, CnOk c) := cst_ok len0 (fun i hi => (w0 i hi).1)
 obtain ⟨Q, HQ⟩ : ∃ Q, Hid (lok F0 s1 len0 0 = Q) := ⟨_, rfl⟩
 obtain ⟨⟨qn, qk, qi, qv⟩, qb⟩ := Q
 rw [HQ.out] at HL1 HL2
 unfold syC at HL1 HL2
 dsimp only at HL1 HL2
 have hlen := qdo F0 len0
 obtain ⟨L, HL⟩ : ∃ L, Hid (cst F0 len0 = L) := ⟨_, rfl⟩
 rw [HL.out] at HE1 HE2 Hc hlen
 have hns := neq_sy13
 have hng := qb8
 have hnc := neq_cn13
 have hngc := qc9
 clear w0 w1 t1 HL HQ
 go_enter Tryd.func4, Tryd.ntmps4
 go_wp2_with (first
  | (go_at_call 13; refine (HL1.out _ (Below.refl _ _)).mono ?_; rintro e w1 ⟨rfl, hb1⟩; have HVa := qa0 (Vn.new w1 35 #[.string qn, .int .u8 (qk : Int), .int .i64 qi, .int .i64 qv]); have HBa := qa0 (jtwo hb1 (jlow w1 (.cells #[.string qn, .int .u8 (qk : Int), .int .i64 qi, .int .i64 qv] 35))); clear hb1)
  | (go_at_call 14; go_loud (refine (HL2.out _ HBa.out).mono ?_; rintro e w2 ⟨rfl, hb2⟩; have HVa2 := qa0 (HVa.out.later hb2); have HVb := qa0 (Vn.new w2 35 #[.string qn, .int .u8 (qk : Int), .int .i64 qi, .int .i64 qv]); have HBb := qa0 (jtwo (jtwo HBa.out hb2) (jlow w2 (.cells #[.string qn, .int .u8 (qk : Int), .int .i64 qi, .int .i64 qv] 35))); have HVa3 := qa0 (HVa2.out.later (jlow w2 (.cells #[.string qn, .int .u8 (qk : Int), .int .i64 qi, .int .i64 qv] 35))); clear hb2 HVa HVa2))
  | (go_at_call 15; go_loud (refine (HE1.out _ HBb.out).mono ?_; rintro e w3 ⟨⟨v3, rfl, hc3⟩, hb3⟩; obtain ⟨x3, d3, rfl, _⟩ := hc3.form; have HC3 := qa0 (hc3.el Hc.out).2; have HB3 := qa0 (jtwo HBb.out hb3); have HVa4 := qa0 (HVa3.out.later hb3); have HVb4 := qa0 (HVb.out.later hb3); clear hc3 hb3))
  | (go_at_call 16; go_loud (refine (HE2.out _ HB3.out).mono ?_; rintro e w4 ⟨⟨v4, rfl, hc4⟩, hb4⟩; obtain ⟨x4, d4, rfl, _⟩ := hc4.form; have HC4 := qa0 (hc4.el Hc.out).2; have HC3b := qa0 (HC3.out.later hb4); have HB4 := qa0 (jtwo HB3.out hb4); have HVa5 := qa0 (HVa4.out.later hb4); have HVb5 := qa0 (HVb4.out.later hb4); have m0 := HVa5.out.cell 0 _ rfl; have m1 := HVa5.out.cell 1 _ rfl; have m2 := HVa5.out.cell 2 _ rfl; have m3 := HVa5.out.cell 3 _ rfl; have n0 := HVb5.out.cell 0 _ rfl; have n1 := HVb5.out.cell 1 _ rfl; have n2 := HVb5.out.cell 2 _ rfl; have n3 := HVb5.out.cell 3 _ rfl; clear hc4 hb4)))
 go_loopw [11] (fun vi wr => ∃ i : Nat, i ≤ L.length ∧ vi = .int .i64 (i : Int) ∧ EL wr x3 L.length (fun i => L.getD i cn0) ∧ EL wr x4 L.length (fun i => L.getD i cn0) ∧ Below w.heap.size w wr) (fun vi _ => L.length - (intOf vi).toNat)
 case atStart => exact ⟨0, by omega, rfl, HC3b.out, HC4.out, HB4.out⟩
 case round =>
  obtain ⟨i, hi, rfl, hx, hy, hb⟩ := hrel
  have HX := qa0 hx
  have HY := qa0 hy
  have HB := qa0 hb
  clear hb HC3 HC3b HC4 HB4 HB3 m0 m1 m2 m3 n0 n1 n2 n3
  by_cases hlt : i < L.length
  ·have p0 : (0 : Int) ≤ (i : Int) := by omega
   have p1 : (i : Int) < (L.length : Int) := by omega
   obtain ⟨ok3, b3, o3, ex3, k0, k1⟩ := hx i hlt
   obtain ⟨ok4, b4, o4, ex4, r0, r1⟩ := hy i hlt
   subst ex3
   subst ex4
   dsimp only at k0 k1 r0 r1
   generalize hyy : L.getD i cn0 = y at k0 k1 r0 r1
   obtain ⟨yn, yv⟩ := y
   dsimp only at k0 k1 r0 r1
   clear ok3 ok4 hx hy hyy
   go_wp2
   refine wp_region_held (S := fun w' => w'.cell? ⟨b3, o3 + i * 2, none⟩ = some (.string yn) ∧ w'.cell? ⟨b3, o3 + i * 2 + 1, none⟩ = some (.int .i64 yv) ∧ w'.cell? ⟨b4, o4 + i * 2, none⟩ = some (.string yn) ∧ w'.cell? ⟨b4, o4 + i * 2 + 1, none⟩ = some (.int .i64 yv)) (by kernel_rfl) ?_
   change wpAnyH _ _ _ _ _ _ _ _ (World.drew _)
   obtain ⟨W0, HW0⟩ : ∃ W0, Hid (wr.drew = W0) := ⟨_, rfl⟩
   rw [HW0.out]
   have hbW : Below wr.heap.size wr W0 := by rw [← HW0.out]; exact (Below.refl _ _).drew
   have HB0 := qa0 (jtwo HB.out hbW)
   have HX0 := qa0 (HX.out.later hbW)
   have HY0 := qa0 (HY.out.later hbW)
   have c0 := cell_kept k0 hbW
   have c1 := cell_kept k1 hbW
   have e0 := cell_kept r0 hbW
   have e1 := cell_kept r1 hbW
   clear hbW k0 k1 r0 r1 HB HX HY HW0
   refine wtkq 0 ?v0 rfl (by kernel_rfl) (fun _ _ _ h => h) (by rfl) ?y0 ⟨c0, c1, e0, e1⟩ ?z0
   case y0 => (intro w hSw; (try dsimp only at hSw); go_simp; try with_reducible rfl)
   try simp only [mz1, mz3, Act.put, mz4, mz5, mz6]
   refine wtkq 1 ?v1 rfl (by kernel_rfl) (fun _ _ _ h => h) (by rfl) ?y1 ⟨c0, c1, e0, e1⟩ ?z1
   case y1 => (intro w hSw; (try dsimp only at hSw); go_simp; try with_reducible rfl)
   try simp only [mz1, mz2, mz3, Act.put, mz4, mz5, mz6]
   refine wtkq 2 ?v2 rfl (by kernel_rfl) (fun _ _ _ h => h) (by rfl) ?y2 ⟨c0, c1, e0, e1⟩ ?z2
   case y2 => (intro w hSw; (try dsimp only at hSw); go_simp; try with_reducible rfl)
   try simp only [mz1, mz2, mz3, Act.put, mz4, mz5, mz6]
   refine wtkq 3 ?v3 rfl (by kernel_rfl) (fun _ _ _ h => h) (by rfl) ?y3 ⟨c0, c1, e0, e1⟩ ?z3
   case y3 => (intro w hSw; (try dsimp only at hSw); go_simp; try with_reducible rfl)
   try simp only [mz1, mz2, mz3, Act.put, mz4, mz5, mz6]
   refine wtkq 4 ?v4 rfl (by kernel_rfl) (fun _ _ _ h => h) (by rfl) ?y4 ⟨c0, c1, e0, e1⟩ ?z4
   case y4 => (intro w hSw; (try dsimp only at hSw); go_simp; try with_reducible rfl)
   try simp only [mz1, mz2, mz3, Act.put, mz4, mz5, mz6]
   refine wtkq 5 ?v5 rfl (by kernel_rfl) (fun _ _ _ h => h) (by rfl) ?y5 ⟨c0, c1, e0, e1⟩ ?z5
   case y5 => (intro w hSw; (try dsimp only at hSw); go_simp; try with_reducible rfl)
   try simp only [mz1, mz2, mz3, Act.put, mz4, mz5, mz6]
   refine wtkq 6 ?v6 rfl (by kernel_rfl) (fun _ _ _ h => h) (by rfl) ?y6 ⟨c0, c1, e0, e1⟩ ?z6
   case y6 => (intro w hSw; (try dsimp only at hSw); go_simp; try with_reducible rfl)
   try simp only [mz1, mz2, mz3, Act.put, mz4, mz5, mz6]
   refine wtkq 7 ?v7 rfl (by kernel_rfl) (fun _ _ _ h => h) (by rfl) ?y7 ⟨c0, c1, e0, e1⟩ ?z7
   case y7 => (intro w hSw; (try dsimp only at hSw); go_simp; try with_reducible rfl)
   try simp only [mz1, mz2, mz3, Act.put, mz4, mz5, mz6]
   refine wtkq 8 ?v8 rfl (by kernel_rfl) (fun _ _ _ h => h) (by rfl) ?y8 ⟨c0, c1, e0, e1⟩ ?z8
   case y8 => (intro w hSw; (try dsimp only at hSw); go_simp; try with_reducible rfl)
   try simp only [mz1, mz2, mz3, Act.put, mz4, mz5, mz6]
   refine wpAnyH_done (by kernel_rfl) ?_ _
   go_wp2
   exact ⟨⟨i + 1, by omega, by go_num, HX0.out, HY0.out, HB0.out⟩, by simp [intOf]; omega⟩
  ·obtain rfl : i = L.length := by omega
   clear hx hy
   go_wp2_with (go_at_call 12; refine (HAn.out _ HB.out).mono ?_; rintro e w5 ⟨rfl, hb5⟩; have HB5 := qa0 (jtwo HB.out hb5); clear hb5)
   go_ret
   exact ⟨rfl, HB5.out⟩
theorem lifted (os : Os) (started : os.Started) (H : Type) (enc : TypeId × Value → H) :
  ReturnsInHanded {} Tryd.checked os 4 .any (fun w args => (Rows.namesLooksSpec.pre enc Tryd.prog Tryd.f4 [] false w args ∧ laidMetH Tryd.prog laidL w) ∧ sizedMet enc Tryd.prog Tryd.f4 (OpenSpec.ofChange Rows.namesLooksSpec) false w args)
   (Rows.namesLooksSpec.post enc Tryd.prog Tryd.f4 false true false false) := by
 refine returnsInHanded_of_change_and (C := Tryd.checked) (X := fun w _ => laidMetH Tryd.prog laidL w) (fun _ _ _ hh h => h.of_heap hh) own started (by kernel_rfl) Tryd.func4
  (ChangeSpec.witness_shaped (enc := enc) (C := Tryd.checked) (os := os) (X := fun w _ => laidMetH Tryd.prog laidL w) false (World.doorLaid Tryd.prog 4000 os) #[.slice none 0 0, .string ⟨#[]⟩] 8 rfl (World.shaped_of_RefB (by kernel_rfl) (by kernel_rfl)) (by kernel_rfl) (by kernel_rfl) (by kernel_rfl) (door_met os _)) ?_
 intro W base args ds gs before hval0 hW hcnd hsz0 hL _
 have hsz : (DataW.weightsEach Tryd.prog (Tryd.f4.params.toList ++ Rows.namesLooksSpec.plain.varTypes Tryd.prog) (ds ++ gs)).all (· ≤ reachBytes) = true := hsz0
 clear hsz0
 have hval : ∀ (j : Nat) t v, Tryd.f4.params[j]? = some t → args[j]? = some v → Value.okWide Tryd.prog W .any base t v := hval0
 have hW' := hW
 obtain ⟨p, q, hA0, hV, rfl, hfz, hnd⟩ := hW
 have hA : DataW.TrodAll enc Tryd.prog W 0 (fun _ => true) true Tryd.f4.params.toList args.toList ds p := hA0
 rw [Tryd.params4] at hA hval hsz
 obtain ⟨va0, vs0, d0, ds0, p0, q0, hargs0, rfl, rfl, h0, tr0⟩ := trodAll_cons hA
 obtain ⟨va1, vs1, d1, ds1, p1, q1, hargs1, rfl, rfl, h1, tr1⟩ := trodAll_cons tr0
 obtain ⟨rfl, rfl, rfl⟩ := trodAll_nil tr1
 obtain rfl : args = #[va0, va1] := by cases args; simp_all
 obtain ⟨rfl, rfl⟩ := trodVars_none hV
 have k0 := h0
 have lt0 : ∀ x ∈ p0, x.block < W.heap.size := by obtain ⟨m, hm⟩ := k0; exact DataW.trod_lt m _ _ _ hm
 have k1 := h1
 have lt1 : ∀ x ∈ p1, x.block < W.heap.size := by obtain ⟨m, hm⟩ := k1; exact DataW.trod_lt m _ _ _ hm
 have hL0 := hL
 rw [MakeChecks.laidMetH_plain _ _ _ (by kernel_rfl)] at hL0
 obtain ⟨a0, len0, cap0, F0, rfl, l0, w0⟩ : ∃ (a : Option Addr) (len cap : Nat) (F : Nat → Sy), va0 = .slice a len cap ∧ len ≤ 3600000000000 ∧ SyL W a len F := by
  obtain ⟨fuel, hf⟩ := h0
  obtain ⟨a, len, cap, rfl⟩ := okWide_slice Tryd.underlying23 (hval 0 23 va0 rfl rfl)
  exact syms_in (by simpa [Value.cells] using hf) (List.all_eq_true.2 fun n hn => List.all_eq_true.1 hsz n (DataW.weights_mem_each (j := 0) rfl rfl n hn))
 obtain ⟨s1, rfl, w1⟩ : ∃ s : ByteArray, va1 = .string s ∧ s.size ≤ 140737488351232 := by
  obtain ⟨s, rfl, hd, _, _⟩ := Go.ChangeMaps.open_string Tryd.underlying9 (hval 1 9 va1 rfl rfl) h1
  refine ⟨s, rfl, ?_⟩
  have hs := sized_string hsz (j := 1) (t := 9) rfl (congrArg some hd)
  simp only [Array.length_toList, reachBytes] at hs
  have : s.size = s.data.size := rfl
  omega
 clear hA0 hval0
 refine (walk a0 len0 cap0 F0 s1 W w0 l0 w1 (of_words hL0)).mono fun e W' ⟨he, bel⟩ => ?_
 subst he
 exact ⟨_, rfl, _, _, _, [], _, [], hW', trodAll_mk1 (shut_bool Tryd.underlying4 _), (trodAll_cons_mk (Below.trod laidOut (by kernel_rfl) (of_decide_eq_true (by kernel_rfl)) k0 bel lt0) (trodAll_cons_mk (Below.trod laidOut (by kernel_rfl) (of_decide_eq_true (by kernel_rfl)) k1 bel lt1) trodAll_mk0)), rfl, bel.frame _, fun h => by cases h⟩
theorem over : Rows.NamesLooksSaid :=
 OpenClaim.holds_of_wide 4 Tryd.f4 rfl rfl rfl rfl rfl rfl rfl ⟨rfl, rfl, rfl, rfl, rfl⟩ rfl rfl rfl rfl rfl (by kernel_rfl) Tryd.func4 (by kernel_rfl)
  (of_decide_eq_true (by kernel_rfl)) (by unfold Func.isWrapper; first | (rw [if_pos (by decide +kernel)]; kernel_rfl) | (rw [if_neg (by decide +kernel)]; exact ⟨rfl, rfl⟩))
  (fun os started H enc _ => lifted os started H enc)
theorem proved : Rows.NamesLooksCardSaid :=
 Claim7.holds_tied_plain_at .later [] [.data] true (true, "cb96c78dc449a60ff3d87b454051880e732b7ed7f30712d5013391cc80f9a798") false
  over (fun _ h => by cases h) (by kernel_rfl) (fun _ h => by cases h) namesLooks_row_tie rfl ⟨rfl, rfl⟩ (by kernel_rfl) rfl
  (fun f fn hf hfn => by
   obtain rfl : f = 4 := Option.some.inj ((show Tryd.prog.funcNamed "recoup/recouplaw13.NamesLooks" = some 4 by kernel_rfl).symm.trans hf) |>.symm
   obtain rfl : fn = Tryd.f4 := (Option.some.inj (Tryd.func4.symm.trans hfn)).symm
   exact ⟨by kernel_rfl, fun j t ht => by
    rw [Tryd.params4] at ht
    have hm : t ∈ [23, 9] := by simpa using Array.mem_of_getElem? ht
    have hall : ([23, 9].all fun u => !Tryd.prog.wantsStandIn u) = true := by kernel_rfl
    exact (show Tryd.prog.wantsStandIn t = false by simpa using List.all_eq_true.1 hall t hm)⟩)
  (by kernel_rfl)
#print axioms proved
end Go.Proofs.YtemhodenkgngmaaDoor.namesLooks
