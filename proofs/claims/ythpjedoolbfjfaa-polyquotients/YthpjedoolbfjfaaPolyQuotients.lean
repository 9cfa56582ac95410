/-
  Proved: for all lists p and q of bytes the program's DivMod and GCD answer the document's, or its error (P2.2, P2.5); no condition.
-/
import Derived.Test.YthpjedoolbfjfaaQl
import Derived.Test.YthpjedoolbfjfaaQe
import Derived.WalkKit
import Derived.SizedLaws
import Derived.ProofKit
import Derived.OpenShut
import Derived.ShutString
import Derived.ChangeOld
import Derived.Below
namespace Go.Proofs.Ythpjedoolbfjfaa.polyQuotients
open Go.ChangeShapes Go.WideShapes Go.ChangeAt Go.RowKit
open Go.ChangeMaps (open_string shut_string)
set_option linter.unusedVariables false

theorem own : ownKnob Try.prog.godebug = none := by kernel_rfl
theorem laidOut : laidOutB Try.prog = true := by kernel_rfl

/-- WHAT THE WALK IS TOLD OF A SLICE OF INTEGERS THAT CAME IN: it is nil; or it leads to a row of 'cap' cells, the numbers 'zs' (the first 'len' are its elements, the rest its spare room), each fitting its kind. -/
def IsRow (k : IntKind) (w : World) (a : Option Addr) (len cap : Nat) (zs : List Int) : Prop :=
  (a = none ∧ len = 0 ∧ cap = 0 ∧ zs = []) ∨
  ∃ x, a = some x ∧ len ≤ cap ∧ cap ≤ 140737488351232 ∧ zs.length = cap ∧ (∀ i, i < zs.length → w.cell? (x.add i) = some (.int k (zs.getD i 0))) ∧ ∀ n ∈ zs, (Lit.int k n).wf = true


/-! ### STEP 1: THE WALK: the Go text returns true, AND WRITES NOTHING THAT WAS THERE: 'Below w.heap.size w w'' (Derived/Below.lean: '.refl', '.alloc', '.drew', '.setCell' at a new block, '.trans'). Open each 'IsRow' by 'rcases' AHEAD of 'go_enter'; part every test ahead of the walk. -/
set_option maxHeartbeats 3200000 in
theorem walk (a0 : Option Addr) (len0 cap0 : Nat) (z0 : List Int) (a1 : Option Addr) (len1 cap1 : Nat) (z1 : List Int) (w : World) (w0 : IsRow .u8 w a0 len0 cap0 z0) (w1 : IsRow .u8 w a1 len1 cap1 z1) :
    Calls Try.prog 5 #[.slice a0 len0 cap0, .slice a1 len1 cap1] w fun e w' => e = .returned (.bool true) ∧ Below w.heap.size w w' := by
  obtain ⟨f, hA⟩ := lk_of_row w a0 len0 cap0 z0 w0
  obtain ⟨h, hB⟩ := lk_of_row w a1 len1 cap1 z1 w1
  clear w0 w1
  obtain ⟨t1, H1⟩ : ∃ t, Hid (tlen f len0 = t) := ⟨_, rfl⟩
  obtain ⟨t2, H2⟩ : ∃ t, Hid (tlen h len1 = t) := ⟨_, rfl⟩
  by_cases hl : 512 < t1 ∨ 512 < t2
  · have L1 : Hid (512 < tlen f len0 ∨ 512 < tlen h len1) := by show _ ∨ _; rw [H1.out, H2.out]; exact hl
    have L2 : Hid (512 < t1 ∨ 512 < t2) := hl
    clear hl
    go_enter Try.func5, Try.ntmps5
    go_wp2_with (first
      | (go_at_call 19; refine (pdivmod_long _ _ _ _ _ _ _ t1 t2 f h hA hB H1 H2 L2.out).mono ?_; rintro e w1 ⟨rfl, hb1⟩; replace hA := hA.later hb1; replace hB := hB.later hb1; have hw := hb1)
      | (go_at_call 20; refine (rdivmod_long _ _ _ _ _ _ _ f h hA hB L1.out).mono ?_; rintro e w2 ⟨rfl, hb2⟩; replace hA := hA.later hb2; replace hB := hB.later hb2; replace hw := two_below hw hb2)
      | (go_at_call 21; refine (pgcd_long _ _ _ _ _ _ _ t1 t2 f h hA hB H1 H2 L2.out).mono ?_; rintro e w3 ⟨rfl, hb3⟩; replace hA := hA.later hb3; replace hB := hB.later hb3; replace hw := two_below hw hb3)
      | (go_at_call 22; refine (rgcd_long _ _ _ _ _ _ _ f h hA hB L1.out).mono ?_; rintro e w4 ⟨rfl, hb4⟩; replace hw := two_below hw hb4)
      | (go_at_call 9; refine (same_at _ none none 0 0 0 (fun _ => 0) (Sl.nil _ _ _) (Sl.nil _ _ _)).mono ?_; rintro e w' ⟨rfl, rfl⟩))
    go_ret
    exact ⟨rfl, by assumption⟩
  · have l1 : t1 ≤ 512 := by omega
    have l2 : t2 ≤ 512 := by omega
    clear hl
    by_cases h0 : t2 = 0
    · subst h0
      have L1 : Hid (tlen f len0 ≤ 512) := by show _ ≤ _; rw [H1.out]; exact l1
      go_enter Try.func5, Try.ntmps5
      go_wp2_with (first
        | (go_at_call 19; refine (pdivmod_zero _ _ _ _ _ _ _ t1 f h hA hB H1 H2 l1).mono ?_; rintro e w1 ⟨rfl, hb1⟩; replace hA := hA.later hb1; replace hB := hB.later hb1; have hw := hb1)
        | (go_at_call 20; refine (rdivmod_zero _ _ _ _ _ _ _ f h hA hB L1.out H2.out).mono ?_; rintro e w2 ⟨rfl, hb2⟩; replace hA := hA.later hb2; replace hB := hB.later hb2; replace hw := two_below hw hb2)
        | (go_at_call 21; refine (pgcd_any _ _ _ _ _ _ _ t1 0 f h hA hB H1 H2 l1 l2).mono ?_; rintro e w3 ⟨D, g, s3, k3, rfl, ho3, hd3, hk3, hg3, hb3⟩; have hs3 := ho3.sl hd3; clear ho3; have HK : Hid (GcdOk (zx f len0) (zx h len1) (zx D g) g) := hk3; clear hk3; replace hA := hA.later hb3; replace hB := hB.later hb3; replace hw := two_below hw hb3)
        | (go_at_call 22; refine (rgcd_same _ _ _ _ _ _ _ t1 0 g f h D hA hB H1 H2 l1 l2 HK.out).mono ?_; rintro e w4 ⟨s4, k4, rfl, hs4, hb4⟩; replace hs3 := hs3.later hb4; replace hw := two_below hw hb4)
        | (go_at_call 9; have _x := n2; refine (same_at _ s3 s4 _ _ _ _ hs3 hs4).mono ?_; rintro e w' ⟨rfl, rfl⟩)
        | (go_at_call 9; have _x := n1; refine (same_at _ none none 0 0 0 (fun _ => 0) (Sl.nil _ _ _) (Sl.nil _ _ _)).mono ?_; rintro e w' ⟨rfl, rfl⟩; have n2 := l1)
        | (go_at_call 9; refine (same_at _ none none 0 0 0 (fun _ => 0) (Sl.nil _ _ _) (Sl.nil _ _ _)).mono ?_; rintro e w' ⟨rfl, rfl⟩; have n1 := l1))
      go_ret
      exact ⟨rfl, by assumption⟩
    · obtain ⟨u, rfl⟩ : ∃ u, t2 = u + 1 := ⟨t2 - 1, by omega⟩
      clear h0
      go_enter Try.func5, Try.ntmps5
      go_wp2_with (first
        | (go_at_call 19; refine (pdivmod_any _ _ _ _ _ _ _ t1 u f h hA hB H1 H2 l1 l2).mono ?_; rintro e w1 ⟨Q, R, r, nq, s1, k1, s5, k5, rfl, hP⟩; have hb1 := hP.below; have hs1 := hP.quo.sl (fun i _ => hP.ok.el i); have hs5 := hP.rem.sl hP.ok.bytes; have hq5 := pq_le hP; have HD : Hid (DivOk (zx f len0) (zx h len1) Q R (u + 1) r) := hP.ok; have HQt : Hid (tlen Q nq = nq) := hP.top; have HQa : Hid (Above nq Q) := hP.above; clear hP; replace hA := hA.later hb1; replace hB := hB.later hb1; have hw := hb1)
        | (go_at_call 20; refine (rdivmod_same _ _ _ _ _ _ _ t1 u r nq f h Q R hA hB H1 H2 l1 l2 HD.out HQt.out HQa.out hq5).mono ?_; rintro e w2 ⟨s2, k2, s6, k6, rfl, hs2, hs6, hb2⟩; replace hs1 := hs1.later hb2; replace hs5 := hs5.later hb2; replace hA := hA.later hb2; replace hB := hB.later hb2; replace hw := two_below hw hb2)
        | (go_at_call 21; refine (pgcd_any _ _ _ _ _ _ _ t1 (u + 1) f h hA hB H1 H2 l1 l2).mono ?_; rintro e w3 ⟨D, g, s3, k3, rfl, ho3, hd3, hk3, hg3, hb3⟩; have hs3 := ho3.sl hd3; clear ho3; have HK : Hid (GcdOk (zx f len0) (zx h len1) (zx D g) g) := hk3; clear hk3; replace hs1 := hs1.later hb3; replace hs5 := hs5.later hb3; replace hs2 := hs2.later hb3; replace hs6 := hs6.later hb3; replace hA := hA.later hb3; replace hB := hB.later hb3; replace hw := two_below hw hb3)
        | (go_at_call 22; refine (rgcd_same _ _ _ _ _ _ _ t1 (u + 1) g f h D hA hB H1 H2 l1 l2 HK.out).mono ?_; rintro e w4 ⟨s4, k4, rfl, hs4, hb4⟩; replace hs1 := hs1.later hb4; replace hs5 := hs5.later hb4; replace hs2 := hs2.later hb4; replace hs6 := hs6.later hb4; replace hs3 := hs3.later hb4; replace hw := two_below hw hb4)
        | (go_at_call 9; have _x := n2; refine (same_at _ s3 s4 _ _ _ _ hs3 hs4).mono ?_; rintro e w' ⟨rfl, rfl⟩)
        | (go_at_call 9; have _x := n1; refine (same_at _ s5 s6 _ _ _ _ hs5 hs6).mono ?_; rintro e w' ⟨rfl, rfl⟩; have n2 := l1)
        | (go_at_call 9; refine (same_at _ s1 s2 _ _ _ _ hs1 hs2).mono ?_; rintro e w' ⟨rfl, rfl⟩; have n1 := l1))
      go_ret
      exact ⟨rfl, by assumption⟩

/-! ### THE ROW's STEP: WRITTEN OUT: LEAVE IT -/
set_option maxRecDepth 100000 in
theorem lifted (os : Os) (started : os.Started) (H : Type) (enc : TypeId × Value → H) :
    ReturnsInHanded {} Try.checked os 5 .any (Rows.polyQuotientsSpec.pre6 enc Try.prog Try.f5 Rows.polyQuotientsRow.domain false) (Rows.polyQuotientsSpec.post enc Try.prog Try.f5 false true false false) := by
  refine returnsInHanded_of_change_sized (C := Try.checked) own started (by kernel_rfl) Try.func5
    (ChangeSpec.witness6 (enc := enc) (C := Try.checked) false ⟨#[], #[.slice none 0 0, .slice none 0 0], []⟩ 8 (by kernel_rfl) (by kernel_rfl) (by kernel_rfl) (by kernel_rfl)) ?_
  intro W base args ds gs before hval0 hW hcnd hsz0 _
  have hsz : (DataW.weightsEach Try.prog (Try.f5.params.toList ++ Rows.polyQuotientsSpec.plain.varTypes Try.prog) (ds ++ gs)).all (· ≤ reachBytes) = true := hsz0
  clear hsz0
  have hval : ∀ (j : Nat) t v, Try.f5.params[j]? = some t → args[j]? = some v → Value.okWide Try.prog W .any base t v := hval0
  have hW' := hW
  obtain ⟨p, q, hA0, hV, rfl, hfz, hnd⟩ := hW
  have hA : DataW.TrodAll enc Try.prog W 0 (fun _ => true) true Try.f5.params.toList args.toList ds p := hA0
  rw [Try.params5] at hA hval hsz
  obtain ⟨v0, vs0, d0, ds0, p0, q0, hargs, rfl, rfl, h0, r0⟩ := trodAll_cons hA
  obtain ⟨v1, vs1, d1, ds1, p1, q1, rfl, rfl, rfl, h1, r1⟩ := trodAll_cons r0
  obtain ⟨rfl, rfl, rfl⟩ := trodAll_nil r1
  obtain rfl : args = #[v0, v1] := by cases args; simp_all
  obtain ⟨rfl, rfl⟩ := trodVars_none hV
  obtain ⟨a0, len0, cap0, rfl⟩ := okWide_slice Try.underlying22 (hval 0 22 v0 rfl rfl)
  have k0 := h0
  have lt0 : ∀ x ∈ p0, x.block < W.heap.size := by obtain ⟨m, hm⟩ := k0; exact DataW.trod_lt m _ _ _ hm
  obtain ⟨z0, w0⟩ : ∃ zs, IsRow .u8 W a0 len0 cap0 zs := by
    obtain ⟨fuel, hf⟩ := h0
    rcases open_ints Try.underlying22 Try.underlying5 (by kernel_rfl) hf with ⟨hcs, _⟩ | ⟨x, l, c, zs, hcs, _, hl, hm, hz, hxx, hcell, hwz⟩
    · simp [Value.cells] at hcs
      obtain ⟨rfl, rfl, rfl⟩ := hcs
      exact ⟨[], .inl ⟨rfl, rfl, rfl, rfl⟩⟩
    · simp [Value.cells] at hcs
      obtain ⟨rfl, rfl, rfl⟩ := hcs
      have hd := congrArg Prod.fst hxx
      have hs := sized_slice hsz (j := 0) (t := 22) (e := 5) rfl (congrArg some hd) Try.underlying22
      rw [show Try.prog.bytesOf 5 = 1 from by kernel_rfl] at hs
      have hzl : zs.length = cap0 := by simpa using hz
      simp only [lits, List.length_map, List.length_take, List.length_drop, reachBytes] at hs
      exact ⟨zs, .inr ⟨_, rfl, hl, by omega, by simpa using hz, hcell, hwz⟩⟩
  obtain ⟨a1, len1, cap1, rfl⟩ := okWide_slice Try.underlying22 (hval 1 22 v1 rfl rfl)
  have k1 := h1
  have lt1 : ∀ x ∈ p1, x.block < W.heap.size := by obtain ⟨m, hm⟩ := k1; exact DataW.trod_lt m _ _ _ hm
  obtain ⟨z1, w1⟩ : ∃ zs, IsRow .u8 W a1 len1 cap1 zs := by
    obtain ⟨fuel, hf⟩ := h1
    rcases open_ints Try.underlying22 Try.underlying5 (by kernel_rfl) hf with ⟨hcs, _⟩ | ⟨x, l, c, zs, hcs, _, hl, hm, hz, hxx, hcell, hwz⟩
    · simp [Value.cells] at hcs
      obtain ⟨rfl, rfl, rfl⟩ := hcs
      exact ⟨[], .inl ⟨rfl, rfl, rfl, rfl⟩⟩
    · simp [Value.cells] at hcs
      obtain ⟨rfl, rfl, rfl⟩ := hcs
      have hd := congrArg Prod.fst hxx
      have hs := sized_slice hsz (j := 1) (t := 22) (e := 5) rfl (congrArg some hd) Try.underlying22
      rw [show Try.prog.bytesOf 5 = 1 from by kernel_rfl] at hs
      have hzl : zs.length = cap1 := by simpa using hz
      simp only [lits, List.length_map, List.length_take, List.length_drop, reachBytes] at hs
      exact ⟨zs, .inr ⟨_, rfl, hl, by omega, by simpa using hz, hcell, hwz⟩⟩
  clear hA0 hval0
  refine (walk a0 len0 cap0 z0 a1 len1 cap1 z1 W w0 w1).mono fun e W' ⟨he, bel⟩ => ?_
  subst he
  exact ⟨_, rfl, _, _, _, [], _, [], hW', trodAll_mk1 (shut_bool Try.underlying4 _), (trodAll_cons_mk (Below.trod laidOut (by kernel_rfl) (of_decide_eq_true (by kernel_rfl)) k0 bel lt0) (trodAll_cons_mk (Below.trod laidOut (by kernel_rfl) (of_decide_eq_true (by kernel_rfl)) k1 bel lt1) trodAll_mk0)), rfl, bel.frame _, fun h => by cases h⟩

theorem over : Rows.polyQuotientsRow.holds Try.pinned (OpenSpec.ofChange Rows.polyQuotientsSpec) :=
  OpenClaim.holds_of_wide 5 Try.f5 rfl rfl rfl rfl rfl rfl rfl ⟨rfl, rfl, rfl, rfl, rfl⟩ rfl rfl rfl rfl rfl (by kernel_rfl) Try.func5 (by kernel_rfl)
    (of_decide_eq_true (by kernel_rfl)) (by unfold Func.isWrapper; first | (rw [if_pos (by decide +kernel)]; kernel_rfl) | (rw [if_neg (by decide +kernel)]; exact ⟨rfl, rfl⟩))
    (fun os started H enc _ => lifted os started H enc)

/-- ████ THE STATEMENT ████ -/
theorem proved : Rows.PolyQuotientsSaid := over
#print axioms proved
end Go.Proofs.Ythpjedoolbfjfaa.polyQuotients
