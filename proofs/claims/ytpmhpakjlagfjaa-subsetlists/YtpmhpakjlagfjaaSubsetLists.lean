/-
  Proved: for every list l, set s and number i the program's Of, List, Count, Has and Full answer what the document's answers are, or their errors (P6.1); no condition.
-/
import Derived.Test.YtpmhpakjlagfjaaJg
import Derived.Test.YtpmhpakjlagfjaaJl
import Derived.WalkKit
import Derived.ProofKit
import Derived.OpenShut
import Derived.ShutString
import Derived.ChangeOld
import Derived.Below
namespace Go.Proofs.Ytpmhpakjlagfjaa.subsetLists
open Go.ChangeShapes Go.WideShapes Go.ChangeAt Go.RowKit
open Go.ChangeMaps (open_string shut_string)
set_option linter.unusedVariables false

theorem own : ownKnob Try.prog.godebug = none := by kernel_rfl
theorem laidOut : laidOutB Try.prog = true := by kernel_rfl

/-- WHAT THE WALK IS TOLD OF A SLICE OF INTEGERS THAT CAME IN: it is nil; or it leads to a row of 'cap' cells, the numbers 'zs' (the first 'len' are its elements, the rest its spare room), each fitting its kind. -/
def IsRow (k : IntKind) (w : World) (a : Option Addr) (len cap : Nat) (zs : List Int) : Prop :=
  (a = none ∧ len = 0 ∧ cap = 0 ∧ zs = []) ∨
  ∃ x, a = some x ∧ len ≤ cap ∧ cap ≤ maxLen ∧ zs.length = cap ∧ (∀ i, i < zs.length → w.cell? (x.add i) = some (.int k (zs.getD i 0))) ∧ ∀ n ∈ zs, (Lit.int k n).wf = true

theorem jl_of_row (w : World) (a : Option Addr) (len cap : Nat) (zs : List Int) (h : IsRow .i64 w a len cap zs) : Jl w a .i64 len (fun i => zs.getD i 0) ∧ len ≤ 9223372036854775807 := by
  rcases h with ⟨rfl, rfl, rfl, rfl⟩ | ⟨x, rfl, hl, hm, hz, hcell, _⟩
  · exact ⟨fun i hi => by omega, by omega⟩
  · refine ⟨?_, by have : maxLen = 9223372036854775807 := rfl; omega⟩
    intro i hi
    have hc := hcell i (by omega)
    obtain ⟨b, off, spot⟩ := x
    have hspot : spot = none := by
      have h0 := hcell 0 (by omega)
      simpa [Addr.add] using World.cell?_spot h0
    subst hspot
    refine ⟨b, off, rfl, ?_⟩
    have hplain : (⟨b, off, none⟩ : Addr).add i = ⟨b, off + i, none⟩ := by unfold Addr.add; split <;> simp_all
    rw [hplain] at hc
    exact hc
theorem ofa_form (q : Nat → Int) (m : Nat) : ∃ u v : Int, ofa q m = #[.int .u64 u, .int .i64 v] := by
  unfold ofa
  split
  · exact ⟨_, _, rfl⟩
  · exact ⟨_, _, rfl⟩
theorem bt_high {s i : Nat} (hs : s < 18446744073709551616) (hi : 64 ≤ i) : bt s i = 0 := by
  unfold bt
  rw [Nat.div_eq_of_lt (Nat.lt_of_lt_of_le (show s < 2 ^ 64 from hs) (Nat.pow_le_pow_right (by decide) hi))]

/-! ### STEP 1: THE WALK: the Go text returns true, AND WRITES NOTHING THAT WAS THERE: 'Below w.heap.size w w'' (Derived/Below.lean: '.refl', '.alloc', '.drew', '.setCell' at a new block, '.trans'). Open each 'IsRow' by 'rcases' AHEAD of 'go_enter'; part every test ahead of the walk. -/
set_option maxHeartbeats 2000000 in
theorem walk (a0 : Option Addr) (len0 cap0 : Nat) (z0 : List Int) (a1 : Int) (a2 : Int) (w : World) (w0 : IsRow .i64 w a0 len0 cap0 z0) (w1 : (Lit.int .u64 a1).wf = true) (w2 : (Lit.int .i64 a2).wf = true) :
    Calls Try.prog 3 #[.slice a0 len0 cap0, .int .u64 a1, .int .i64 a2] w fun e w' => e = .returned (.bool true) ∧ Below w.heap.size w w' := by
  obtain ⟨s, rfl, hs⟩ := u64_of_wf6 w1
  obtain ⟨hI, hm⟩ := jl_of_row w a0 len0 cap0 z0 w0
  obtain ⟨q, HQ⟩ : ∃ q : Nat → Int, Hid ((fun i => z0.getD i 0) = q) := ⟨_, rfl⟩
  rw [HQ.out] at hI
  have HI : Hid (Jl w a0 .i64 len0 q) := hI
  obtain ⟨P, E, HPE⟩ := ofa_form q len0
  have HO1 : Hid (∀ w' : World, Below w.heap.size w w' → Calls Try.prog 9 #[.slice a0 len0 cap0] w' fun e w'' => e = .returned (.tuple #[.int .u64 P, .int .i64 E]) ∧ w' = w'') := fun w' hb => by
    rw [← HPE]; exact jof_any w' len0 cap0 a0 q hm (HI.out.later hb)
  have HO2 : Hid (∀ w' : World, Below w.heap.size w w' → Calls Try.prog 10 #[.slice a0 len0 cap0] w' fun e w'' => e = .returned (.tuple #[.int .u64 P, .int .i64 E]) ∧ w' = w'') := fun w' hb => by
    rw [← HPE]; exact rof_any w' len0 cap0 a0 q hm (HI.out.later hb)
  obtain ⟨F, G, HF⟩ : ∃ F G : Int, ∀ w' : World, (Calls Try.prog 11 #[.int .i64 a2] w' fun e w'' => e = .returned (.tuple #[.int .u64 F, .int .i64 G]) ∧ w' = w'') ∧ (Calls Try.prog 12 #[.int .i64 a2] w' fun e w'' => e = .returned (.tuple #[.int .u64 F, .int .i64 G]) ∧ w' = w'') := by
    by_cases h : a2 < 0 ∨ 64 < a2
    · exact ⟨0, 2, fun w' => ⟨jfull_bad a2 w' h, rfull_bad a2 w' h⟩⟩
    · obtain ⟨n, rfl⟩ := Int.eq_ofNat_of_zero_le (show 0 ≤ a2 by omega)
      exact ⟨_, _, fun w' => ⟨jfull_ok n w' (by omega), rfull_ok n w' (by omega)⟩⟩
  obtain ⟨B, HH⟩ : ∃ B : Bool, ∀ w' : World, (Calls Try.prog 17 #[.int .u64 (s : Int), .int .i64 a2] w' fun e w'' => e = .returned (.bool B) ∧ w' = w'') ∧ (Calls Try.prog 18 #[.int .u64 (s : Int), .int .i64 a2] w' fun e w'' => e = .returned (.bool B) ∧ w' = w'') := by
    by_cases h : a2 < 0
    · exact ⟨false, fun w' => ⟨jhas_neg s a2 w' h, jrhas_neg s a2 w' (.inl h)⟩⟩
    · obtain ⟨n, rfl⟩ := Int.eq_ofNat_of_zero_le (show 0 ≤ a2 by omega)
      by_cases h6 : n < 64
      · exact ⟨_, fun w' => ⟨jhas_ok s n w' hs, jrhas_ok s n w' hs h6⟩⟩
      · refine ⟨false, fun w' => ⟨?_, jrhas_neg s n w' (.inr (by omega))⟩⟩
        have h := jhas_ok s n w' hs
        rw [bt_high hs (by omega)] at h
        exact h
  have HF1 : Hid (∀ w' : World, Calls Try.prog 11 #[.int .i64 a2] w' fun e w'' => e = .returned (.tuple #[.int .u64 F, .int .i64 G]) ∧ w' = w'') := fun w' => (HF w').1
  have HF2 : Hid (∀ w' : World, Calls Try.prog 12 #[.int .i64 a2] w' fun e w'' => e = .returned (.tuple #[.int .u64 F, .int .i64 G]) ∧ w' = w'') := fun w' => (HF w').2
  have HH1 : Hid (∀ w' : World, Calls Try.prog 17 #[.int .u64 (s : Int), .int .i64 a2] w' fun e w'' => e = .returned (.bool B) ∧ w' = w'') := fun w' => (HH w').1
  have HH2 : Hid (∀ w' : World, Calls Try.prog 18 #[.int .u64 (s : Int), .int .i64 a2] w' fun e w'' => e = .returned (.bool B) ∧ w' = w'') := fun w' => (HH w').2
  obtain ⟨K, f, hK, HL1, HL2, HC⟩ : ∃ (K : Nat) (f : Nat → Nat), K ≤ 64 ∧
      Hid (∀ w' : World, Calls Try.prog 13 #[.int .u64 (s : Int)] w' fun e w'' => ∃ x d, e = .returned (.slice x K d) ∧ Jl w'' x .i64 K (fun i => (f i : Int)) ∧ Below w'.heap.size w' w'') ∧
      Hid (∀ w' : World, Calls Try.prog 15 #[.int .u64 (s : Int)] w' fun e w'' => ∃ x d, e = .returned (.slice x K d) ∧ Jl w'' x .i64 K (fun i => (f i : Int)) ∧ Below w'.heap.size w' w'') ∧
      Hid (∀ w' : World, Calls Try.prog 16 #[.int .u64 (s : Int)] w' fun e w'' => e = .returned (.int .i64 (K : Int)) ∧ w' = w'') := by
    refine ⟨cn s 64, lf s 64, cn_le 64 s, ?_, ?_, fun w' => jcount_ok s w' hs⟩
    · exact fun w' => (rlist_ok s w' hs).mono (fun e w'' h => by
        obtain ⟨v, he, ho, hb⟩ := h
        obtain ⟨x, d, rfl, _⟩ := ho.form
        exact ⟨x, d, he, ho.jl, hb⟩)
    · exact fun w' => (jlist_ok s w' hs).mono (fun e w'' h => by
        obtain ⟨v, he, ho, hb⟩ := h
        obtain ⟨x, d, rfl, _⟩ := ho.form
        exact ⟨x, d, he, ho.jl, hb⟩)
  clear HF HH HPE HI hI HQ hm w0 w1 w2 hs
  go_enter Try.func3, Try.ntmps3
  go_wp2_with (first
    | (go_at_call 9; refine (HO1.out _ (Below.refl _ _)).mono ?_; rintro e w' ⟨rfl, rfl⟩)
    | (go_at_call 10; refine (HO2.out _ (Below.refl _ _)).mono ?_; rintro e w' ⟨rfl, rfl⟩)
    | (go_at_call 11; refine (HF1.out _).mono ?_; rintro e w' ⟨rfl, rfl⟩)
    | (go_at_call 12; refine (HF2.out _).mono ?_; rintro e w' ⟨rfl, rfl⟩)
    | (go_at_call 17; refine (HH1.out _).mono ?_; rintro e w' ⟨rfl, rfl⟩)
    | (go_at_call 18; refine (HH2.out _).mono ?_; rintro e w' ⟨rfl, rfl⟩)
    | (go_at_call 16; refine (HC.out _).mono ?_; rintro e w' ⟨rfl, rfl⟩)
    | (go_at_call 13; refine (HL1.out _).mono ?_; rintro e w1 ⟨x1, d1, rfl, hj, hb⟩; have HJ1 : Hid (Jl w1 x1 .i64 K (fun i => (f i : Int))) := hj; have HB1 : Hid (Below w.heap.size w w1) := hb; clear hj hb)
    | (go_at_call 15; refine (HL2.out _).mono ?_; rintro e w2 ⟨x2, d2, rfl, hj, hb⟩; have HJ2 : Hid (Jl w2 x2 .i64 K (fun i => (f i : Int))) := hj; have HJ3 : Hid (Jl w2 x1 .i64 K (fun i => (f i : Int))) := HJ1.out.later hb; have HB2 : Hid (Below w.heap.size w w2) := jtwo HB1.out hb; clear hj hb)
    | (go_at_call 14; refine (ints6_yes _ x2 x1 K d2 d1 f HJ2.out HJ3.out (by omega)).mono ?_; rintro e w3 ⟨rfl, hb⟩; have HB3 : Hid (Below w.heap.size w w3) := jtwo HB2.out hb; clear hb))
  go_ret
  exact ⟨rfl, HB3.out⟩

/-! ### THE ROW's STEP: WRITTEN OUT: LEAVE IT -/
set_option maxRecDepth 100000 in
theorem lifted (os : Os) (started : os.Started) (H : Type) (enc : TypeId × Value → H) :
    ReturnsInHanded {} Try.checked os 3 .any (Rows.subsetListsSpec.pre6 enc Try.prog Try.f3 Rows.subsetListsRow.domain false) (Rows.subsetListsSpec.post enc Try.prog Try.f3 false true false false) := by
  refine returnsInHanded_of_change (C := Try.checked) own started (by kernel_rfl) Try.func3
    (ChangeSpec.witness6 (enc := enc) (C := Try.checked) false ⟨#[], #[.slice none 0 0, .int .u64 0, .int .i64 0], []⟩ 8 (by kernel_rfl) (by kernel_rfl) (by kernel_rfl) (by kernel_rfl)) ?_
  intro W base args ds gs before hval0 hW hcnd _
  have hval : ∀ (j : Nat) t v, Try.f3.params[j]? = some t → args[j]? = some v → Value.okWide Try.prog W .any base t v := hval0
  have hW' := hW
  obtain ⟨p, q, hA0, hV, rfl, hfz, hnd⟩ := hW
  have hA : DataW.TrodAll enc Try.prog W 0 (fun _ => true) true Try.f3.params.toList args.toList ds p := hA0
  rw [Try.params3] at hA hval
  obtain ⟨v0, vs0, d0, ds0, p0, q0, hargs, rfl, rfl, h0, r0⟩ := trodAll_cons hA
  obtain ⟨v1, vs1, d1, ds1, p1, q1, rfl, rfl, rfl, h1, r1⟩ := trodAll_cons r0
  obtain ⟨v2, vs2, d2, ds2, p2, q2, rfl, rfl, rfl, h2, r2⟩ := trodAll_cons r1
  obtain ⟨rfl, rfl, rfl⟩ := trodAll_nil r2
  obtain rfl : args = #[v0, v1, v2] := by cases args; simp_all
  obtain ⟨rfl, rfl⟩ := trodVars_none hV
  obtain ⟨a0, len0, cap0, rfl⟩ := okWide_slice Try.underlying22 (hval 0 22 v0 rfl rfl)
  have k0 := h0
  have lt0 : ∀ x ∈ p0, x.block < W.heap.size := by obtain ⟨m, hm⟩ := k0; exact DataW.trod_lt m _ _ _ hm
  obtain ⟨z0, w0⟩ : ∃ zs, IsRow .i64 W a0 len0 cap0 zs := by
    obtain ⟨fuel, hf⟩ := h0
    rcases open_ints Try.underlying22 Try.underlying3 (by kernel_rfl) hf with ⟨hcs, _⟩ | ⟨x, l, c, zs, hcs, _, hl, hm, hz, _, hcell, hwz⟩
    · simp [Value.cells] at hcs
      obtain ⟨rfl, rfl, rfl⟩ := hcs
      exact ⟨[], .inl ⟨rfl, rfl, rfl, rfl⟩⟩
    · simp [Value.cells] at hcs
      obtain ⟨rfl, rfl, rfl⟩ := hcs
      exact ⟨zs, .inr ⟨_, rfl, hl, hm, by simpa using hz, hcell, hwz⟩⟩
  obtain ⟨a1, rfl, rfl, rfl, w1⟩ := open_int Try.underlying24 (hval 1 24 v1 rfl rfl) h1
  obtain ⟨a2, rfl, rfl, rfl, w2⟩ := open_int Try.underlying3 (hval 2 3 v2 rfl rfl) h2
  clear hA0 hval0
  refine (walk a0 len0 cap0 z0 a1 a2 W w0 w1 w2).mono fun e W' ⟨he, bel⟩ => ?_
  subst he
  exact ⟨_, rfl, _, _, _, [], _, [], hW', trodAll_mk1 (shut_bool Try.underlying4 _), (trodAll_cons_mk (Below.trod laidOut (by kernel_rfl) (of_decide_eq_true (by kernel_rfl)) k0 bel lt0) (trodAll_cons_mk (shut_int Try.underlying24 w1) (trodAll_cons_mk (shut_int Try.underlying3 w2) trodAll_mk0))), rfl, bel.frame _, fun h => by cases h⟩

theorem over : Rows.subsetListsRow.holds Try.pinned (OpenSpec.ofChange Rows.subsetListsSpec) :=
  OpenClaim.holds_of_wide 3 Try.f3 rfl rfl rfl rfl rfl rfl rfl ⟨rfl, rfl, rfl, rfl, rfl⟩ rfl rfl rfl rfl rfl (by kernel_rfl) Try.func3 (by kernel_rfl)
    (of_decide_eq_true (by kernel_rfl)) (by unfold Func.isWrapper; first | (rw [if_pos (by decide +kernel)]; kernel_rfl) | (rw [if_neg (by decide +kernel)]; exact ⟨rfl, rfl⟩))
    (fun os started H enc _ => lifted os started H enc)

/-- ████ THE STATEMENT ████ -/
theorem proved : Rows.SubsetListsSaid := over
#print axioms proved
end Go.Proofs.Ytpmhpakjlagfjaa.subsetLists
