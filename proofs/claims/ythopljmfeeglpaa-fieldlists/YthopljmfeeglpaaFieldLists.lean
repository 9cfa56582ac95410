/-
  Proved: for all lists a and b of bytes and every byte c the program's Sum, Mac, Dot and Scale answer the document's, or its error (P1.4); no condition.
-/
import Derived.Test.YthopljmfeeglpaaLh
import Derived.WalkKit
import Derived.SizedLaws
import Derived.ProofKit
import Derived.OpenShut
import Derived.ShutString
import Derived.ChangeOld
import Derived.Below
namespace Go.Proofs.Ythopljmfeeglpaa.fieldLists
open Go.ChangeShapes Go.WideShapes Go.ChangeAt Go.RowKit
open Go.ChangeMaps (open_string shut_string)
set_option linter.unusedVariables false

theorem own : ownKnob Try.prog.godebug = none := by kernel_rfl
theorem laidOut : laidOutB Try.prog = true := by kernel_rfl

/-- WHAT THE WALK IS TOLD OF A SLICE OF INTEGERS THAT CAME IN: it is nil; or it leads to a row of 'cap' cells, the numbers 'zs' (the first 'len' are its elements, the rest its spare room), each fitting its kind. -/
def IsRow (k : IntKind) (w : World) (a : Option Addr) (len cap : Nat) (zs : List Int) : Prop :=
  (a = none ∧ len = 0 ∧ cap = 0 ∧ zs = []) ∨
  ∃ x, a = some x ∧ len ≤ cap ∧ cap ≤ 140737488351232 ∧ zs.length = cap ∧ (∀ i, i < zs.length → w.cell? (x.add i) = some (.int k (zs.getD i 0))) ∧ ∀ n ∈ zs, (Lit.int k n).wf = true


/-! ### STEP 1: THE WALK: the Go text returns true, AND WRITES NOTHING THAT WAS THERE: 'Below w.heap.size w w'' (Derived/Below.lean: '.refl', '.alloc', '.drew', '.setCell' at a new block, '.trans'). Open each 'IsRow' by 'rcases' AHEAD of 'go_enter'; part every test ahead of the walk. -/
set_option maxHeartbeats 1600000 in
theorem walk (a0 : Option Addr) (len0 cap0 : Nat) (z0 : List Int) (a1 : Option Addr) (len1 cap1 : Nat) (z1 : List Int) (a2 : Int) (w : World) (w0 : IsRow .u8 w a0 len0 cap0 z0) (w1 : IsRow .u8 w a1 len1 cap1 z1) (w2 : (Lit.int .u8 a2).wf = true) :
    Calls Try.prog 6 #[.slice a0 len0 cap0, .slice a1 len1 cap1, .int .u8 a2] w fun e w' => e = .returned (.bool true) ∧ Below w.heap.size w w' := by
  obtain ⟨f, hA, hnA, _⟩ := sl_of_row w a0 len0 cap0 z0 w0
  obtain ⟨h, hB, hnB, _⟩ := sl_of_row w a1 len1 cap1 z1 w1
  obtain ⟨b2, b2'⟩ := byte_of_wf w2
  obtain ⟨c, rfl⟩ := Int.eq_ofNat_of_zero_le b2
  have hc : c < 256 := by omega
  clear w0 w1 w2 b2 b2'
  by_cases hl : len0 = len1
  · subst hl
    go_enter Try.func6, Try.ntmps6
    go_wp2_with (first
      | (go_at_call 22; refine (sum_sl _ _ _ _ _ _ f h hA hB hnA).mono ?_; rintro e w1 ⟨s1, k1, rfl, hs1, hb1⟩; replace hA := hA.later hb1; replace hB := hB.later hb1; have hw := hb1)
      | (go_at_call 23; have _x := hb3; refine (rmac_sl _ _ _ _ _ _ _ f h hc hA hB hnA).mono ?_; rintro e w4 ⟨s4, k4, rfl, hs4, hb4, _⟩; replace hA := hA.later hb4; replace hB := hB.later hb4; replace hs1 := hs1.later hb4; replace hs2 := hs2.later hb4; replace hs3 := hs3.later hb4; replace hw := two_below hw hb4)
      | (go_at_call 23; refine (rmac_one _ _ _ _ _ _ f h hA hB hnA).mono ?_; rintro e w2 ⟨s2, k2, rfl, hs2, hb2⟩; replace hA := hA.later hb2; replace hB := hB.later hb2; replace hs1 := hs1.later hb2; replace hw := two_below hw hb2)
      | (go_at_call 24; refine (mac_sl _ _ _ _ _ _ _ f h hc hA hB hnA).mono ?_; rintro e w3 ⟨s3, k3, rfl, hs3, hb3⟩; replace hA := hA.later hb3; replace hB := hB.later hb3; replace hs1 := hs1.later hb3; replace hs2 := hs2.later hb3; replace hw := two_below hw hb3)
      | (go_at_call 25; refine (dot_at _ _ _ _ _ _ f h hA hB hnA).mono ?_; rintro e w' ⟨rfl, rfl⟩)
      | (go_at_call 26; refine (rdot_any _ _ _ _ _ _ f h hA hB hnA).mono ?_; rintro e w5 ⟨rfl, hb5⟩; replace hA := hA.later hb5; replace hs1 := hs1.later hb5; replace hs2 := hs2.later hb5; replace hs3 := hs3.later hb5; replace hs4 := hs4.later hb5; replace hw := two_below hw hb5)
      | (go_at_call 28; refine (scale_sl _ _ _ _ _ f hc hA hnA).mono ?_; rintro e w6 ⟨s6, k6, rfl, hs6, hb6⟩; replace hA := hA.later hb6; replace hw := two_below hw hb6)
      | (go_at_call 29; refine (rscale_sl _ _ _ _ _ f hc hA hnA).mono ?_; rintro e w7 ⟨s7, k7, rfl, hs7, hb7⟩; replace hs6 := hs6.later hb7; replace hw := two_below hw hb7)
      | (go_at_call 27; refine (same_at _ _ _ _ _ _ _ (by assumption) (by assumption)).mono ?_; rintro e w' ⟨rfl, rfl⟩))
    go_ret
    exact ⟨rfl, by assumption⟩
  · have hw := Below.refl w.heap.size w
    go_enter Try.func6, Try.ntmps6
    go_wp2_with (first
      | (go_at_call 22; refine (sum_bad _ _ _ _ _ _ _ hl).mono ?_; rintro e w' ⟨rfl, hwq⟩; rw [hwq]; clear hwq w')
      | (go_at_call 23; have _x := h3; refine (rmac_bad _ _ _ _ _ _ _ _ hl).mono ?_; rintro e w' ⟨rfl, hwq⟩; rw [hwq]; clear hwq w')
      | (go_at_call 23; refine (rmac_bad _ _ _ _ _ 1 _ _ hl).mono ?_; rintro e w' ⟨rfl, hwq⟩; rw [hwq]; clear hwq w')
      | (go_at_call 24; refine (mac_bad _ _ _ _ _ _ _ _ hl).mono ?_; rintro e w' ⟨rfl, hwq⟩; rw [hwq]; clear hwq w'; have h3 := hl)
      | (go_at_call 25; refine (dot_bad _ _ _ _ _ _ _ hl).mono ?_; rintro e w' ⟨rfl, hwq⟩; rw [hwq]; clear hwq w')
      | (go_at_call 26; refine (rdot_bad _ _ _ _ _ _ _ hl).mono ?_; rintro e w' ⟨rfl, hwq⟩; rw [hwq]; clear hwq w')
      | (go_at_call 28; refine (scale_sl _ _ _ _ _ f hc hA hnA).mono ?_; rintro e w6 ⟨s6, k6, rfl, hs6, hb6⟩; replace hA := hA.later hb6; replace hw := two_below hw hb6)
      | (go_at_call 29; refine (rscale_sl _ _ _ _ _ f hc hA hnA).mono ?_; rintro e w7 ⟨s7, k7, rfl, hs7, hb7⟩; replace hs6 := hs6.later hb7; replace hw := two_below hw hb7)
      | (go_at_call 27; have _x := hb7; refine (same_at _ _ _ _ _ _ _ (by assumption) (by assumption)).mono ?_; rintro e w' ⟨rfl, rfl⟩)
      | (go_at_call 27; refine (same_at _ _ _ 0 0 0 (fun _ => 0) (Sl.nil _ _ _) (Sl.nil _ _ _)).mono ?_; rintro e w' ⟨rfl, rfl⟩))
    go_ret
    exact ⟨rfl, by assumption⟩

/-! ### THE ROW's STEP: WRITTEN OUT: LEAVE IT -/
set_option maxRecDepth 100000 in
theorem lifted (os : Os) (started : os.Started) (H : Type) (enc : TypeId × Value → H) :
    ReturnsInHanded {} Try.checked os 6 .any (Rows.fieldListsSpec.pre6 enc Try.prog Try.f6 Rows.fieldListsRow.domain false) (Rows.fieldListsSpec.post enc Try.prog Try.f6 false true false false) := by
  refine returnsInHanded_of_change_sized (C := Try.checked) own started (by kernel_rfl) Try.func6
    (ChangeSpec.witness6 (enc := enc) (C := Try.checked) false ⟨#[], #[.slice none 0 0, .slice none 0 0, .int .u8 0], []⟩ 8 (by kernel_rfl) (by kernel_rfl) (by kernel_rfl) (by kernel_rfl)) ?_
  intro W base args ds gs before hval0 hW hcnd hsz0 _
  have hsz : (DataW.weightsEach Try.prog (Try.f6.params.toList ++ Rows.fieldListsSpec.plain.varTypes Try.prog) (ds ++ gs)).all (· ≤ reachBytes) = true := hsz0
  clear hsz0
  have hval : ∀ (j : Nat) t v, Try.f6.params[j]? = some t → args[j]? = some v → Value.okWide Try.prog W .any base t v := hval0
  have hW' := hW
  obtain ⟨p, q, hA0, hV, rfl, hfz, hnd⟩ := hW
  have hA : DataW.TrodAll enc Try.prog W 0 (fun _ => true) true Try.f6.params.toList args.toList ds p := hA0
  rw [Try.params6] at hA hval hsz
  obtain ⟨v0, vs0, d0, ds0, p0, q0, hargs, rfl, rfl, h0, r0⟩ := trodAll_cons hA
  obtain ⟨v1, vs1, d1, ds1, p1, q1, rfl, rfl, rfl, h1, r1⟩ := trodAll_cons r0
  obtain ⟨v2, vs2, d2, ds2, p2, q2, rfl, rfl, rfl, h2, r2⟩ := trodAll_cons r1
  obtain ⟨rfl, rfl, rfl⟩ := trodAll_nil r2
  obtain rfl : args = #[v0, v1, v2] := by cases args; simp_all
  obtain ⟨rfl, rfl⟩ := trodVars_none hV
  obtain ⟨a0, len0, cap0, rfl⟩ := okWide_slice Try.underlying39 (hval 0 39 v0 rfl rfl)
  have k0 := h0
  have lt0 : ∀ x ∈ p0, x.block < W.heap.size := by obtain ⟨m, hm⟩ := k0; exact DataW.trod_lt m _ _ _ hm
  obtain ⟨z0, w0⟩ : ∃ zs, IsRow .u8 W a0 len0 cap0 zs := by
    obtain ⟨fuel, hf⟩ := h0
    rcases open_ints Try.underlying39 Try.underlying5 (by kernel_rfl) hf with ⟨hcs, _⟩ | ⟨x, l, c, zs, hcs, _, hl, hm, hz, hxx, hcell, hwz⟩
    · simp [Value.cells] at hcs
      obtain ⟨rfl, rfl, rfl⟩ := hcs
      exact ⟨[], .inl ⟨rfl, rfl, rfl, rfl⟩⟩
    · simp [Value.cells] at hcs
      obtain ⟨rfl, rfl, rfl⟩ := hcs
      have hd := congrArg Prod.fst hxx
      have hs := sized_slice hsz (j := 0) (t := 39) (e := 5) rfl (congrArg some hd) Try.underlying39
      rw [show Try.prog.bytesOf 5 = 1 from by kernel_rfl] at hs
      have hzl : zs.length = cap0 := by simpa using hz
      simp only [lits, List.length_map, List.length_take, List.length_drop, reachBytes] at hs
      exact ⟨zs, .inr ⟨_, rfl, hl, by omega, by simpa using hz, hcell, hwz⟩⟩
  obtain ⟨a1, len1, cap1, rfl⟩ := okWide_slice Try.underlying39 (hval 1 39 v1 rfl rfl)
  have k1 := h1
  have lt1 : ∀ x ∈ p1, x.block < W.heap.size := by obtain ⟨m, hm⟩ := k1; exact DataW.trod_lt m _ _ _ hm
  obtain ⟨z1, w1⟩ : ∃ zs, IsRow .u8 W a1 len1 cap1 zs := by
    obtain ⟨fuel, hf⟩ := h1
    rcases open_ints Try.underlying39 Try.underlying5 (by kernel_rfl) hf with ⟨hcs, _⟩ | ⟨x, l, c, zs, hcs, _, hl, hm, hz, hxx, hcell, hwz⟩
    · simp [Value.cells] at hcs
      obtain ⟨rfl, rfl, rfl⟩ := hcs
      exact ⟨[], .inl ⟨rfl, rfl, rfl, rfl⟩⟩
    · simp [Value.cells] at hcs
      obtain ⟨rfl, rfl, rfl⟩ := hcs
      have hd := congrArg Prod.fst hxx
      have hs := sized_slice hsz (j := 1) (t := 39) (e := 5) rfl (congrArg some hd) Try.underlying39
      rw [show Try.prog.bytesOf 5 = 1 from by kernel_rfl] at hs
      have hzl : zs.length = cap1 := by simpa using hz
      simp only [lits, List.length_map, List.length_take, List.length_drop, reachBytes] at hs
      exact ⟨zs, .inr ⟨_, rfl, hl, by omega, by simpa using hz, hcell, hwz⟩⟩
  obtain ⟨a2, rfl, rfl, rfl, w2⟩ := open_int Try.underlying5 (hval 2 5 v2 rfl rfl) h2
  clear hA0 hval0
  refine (walk a0 len0 cap0 z0 a1 len1 cap1 z1 a2 W w0 w1 w2).mono fun e W' ⟨he, bel⟩ => ?_
  subst he
  exact ⟨_, rfl, _, _, _, [], _, [], hW', trodAll_mk1 (shut_bool Try.underlying4 _), (trodAll_cons_mk (Below.trod laidOut (by kernel_rfl) (of_decide_eq_true (by kernel_rfl)) k0 bel lt0) (trodAll_cons_mk (Below.trod laidOut (by kernel_rfl) (of_decide_eq_true (by kernel_rfl)) k1 bel lt1) (trodAll_cons_mk (shut_int Try.underlying5 w2) trodAll_mk0))), rfl, bel.frame _, fun h => by cases h⟩

theorem over : Rows.fieldListsRow.holds Try.pinned (OpenSpec.ofChange Rows.fieldListsSpec) :=
  OpenClaim.holds_of_wide 6 Try.f6 rfl rfl rfl rfl rfl rfl rfl ⟨rfl, rfl, rfl, rfl, rfl⟩ rfl rfl rfl rfl rfl (by kernel_rfl) Try.func6 (by kernel_rfl)
    (of_decide_eq_true (by kernel_rfl)) (by unfold Func.isWrapper; first | (rw [if_pos (by decide +kernel)]; kernel_rfl) | (rw [if_neg (by decide +kernel)]; exact ⟨rfl, rfl⟩))
    (fun os started H enc _ => lifted os started H enc)

/-- ████ THE STATEMENT ████ -/
theorem proved : Rows.FieldListsSaid := over
#print axioms proved
end Go.Proofs.Ythopljmfeeglpaa.fieldLists
