/-
  Proved: for all lists xs and ys of bytes: where the program's Interpolate answers a polynomial it goes through all points and its degree is below their number, no element stands twice; else the lists are of two lengths or an element stands twice (P2.4); no condition.
-/
import Derived.Test.YthpjedoolbfjfaaQm
import Derived.Test.YthpjedoolbfjfaaQl
import Derived.Deep.QuietTactic
import Derived.BigQuiet
import Derived.WalkKit
import Derived.SizedLaws
import Derived.ProofKit
import Derived.OpenShut
import Derived.ShutString
import Derived.ChangeOld
import Derived.Below
namespace Go.Proofs.Ythpjedoolbfjfaa.polyThrough
open Go.ChangeShapes Go.WideShapes Go.ChangeAt Go.RowKit
open Go.ChangeMaps (open_string shut_string)
set_option linter.unusedVariables false

theorem own : ownKnob Try.prog.godebug = none := by kernel_rfl
theorem laidOut : laidOutB Try.prog = true := by kernel_rfl

/-- WHAT THE WALK IS TOLD OF A SLICE OF INTEGERS THAT CAME IN: it is nil; or it leads to a row of 'cap' cells, the numbers 'zs' (the first 'len' are its elements, the rest its spare room), each fitting its kind. -/
def IsRow (k : IntKind) (w : World) (a : Option Addr) (len cap : Nat) (zs : List Int) : Prop :=
  (a = none ∧ len = 0 ∧ cap = 0 ∧ zs = []) ∨
  ∃ x, a = some x ∧ len ≤ cap ∧ cap ≤ 140737488351232 ∧ zs.length = cap ∧ (∀ i, i < zs.length → w.cell? (x.add i) = some (.int k (zs.getD i 0))) ∧ ∀ n ∈ zs, (Lit.int k n).wf = true


/-! ### STEP 1: THE WALK: the Go text returns true, AND WRITES NOTHING THAT WAS THERE: 'Below w.heap.size w w'' (Derived/Below.lean: '.refl', '.alloc', '.drew', '.setCell' at a new block, '.trans'). Open each 'IsRow' by 'rcases' AHEAD of 'go_enter'; part every test ahead of the walk. -/
set_option maxHeartbeats 3200000 in
set_option maxRecDepth 20000 in
theorem walk (a0 : Option Addr) (len0 cap0 : Nat) (z0 : List Int) (a1 : Option Addr) (len1 cap1 : Nat) (z1 : List Int) (w : World) (w0 : IsRow .u8 w a0 len0 cap0 z0) (w1 : IsRow .u8 w a1 len1 cap1 z1) :
    Calls Try.prog 8 #[.slice a0 len0 cap0, .slice a1 len1 cap1] w fun e w' => e = .returned (.bool true) ∧ Below w.heap.size w w' := by
  obtain ⟨f, hA⟩ := lk_of_row w a0 len0 cap0 z0 w0
  obtain ⟨h, hB⟩ := lk_of_row w a1 len1 cap1 z1 w1
  clear w0 w1
  by_cases hl : len0 = len1
  · subst hl
    by_cases hi : Inj f len0
    · have HI : Hid (Inj f len0) := hi
      have hn := hA.2.2.2
      clear hi
      go_enter Try.func8, Try.ntmps8
      go_wp2_with (go_at_call 27; refine (pinter_inj _ _ _ _ _ _ f h hA hB HI.out).mono ?_; rintro e w1 ⟨F, T, s1, k1, rfl, hP⟩; have HP : Hid (POk w w1 f h F len0 T k1 s1) := hP; clear hP)
      have hTn : T ≤ len0 := by rw [← HP.out.len]; exact tlen_le _ _
      have HL : Hid (Lk w1 s1 T k1 F) := HP.out.own.lk (fun i hi => HP.out.bytes i (by omega)) (by omega)
      have HT : Hid (tlen F T = T) := by show _ = _; rw [← HP.out.len, tlen_idem]
      have HA : Hid (Lk w1 a0 len0 cap0 f) := hA.later HP.out.below
      have HB : Hid (Lk w1 a1 len0 cap1 h) := hB.later HP.out.below
      have HVf : Hid (∀ i, i < len0 → f i < 256) := hA.1.1
      clear hA hB
      go_loopw [7] (fun i wr => ∃ k : Nat, k ≤ len0 ∧ i = .int .i64 (k : Int) ∧ Below w1.heap.size w1 wr) (fun i _ => len0 - (intOf i).toNat)
      case atStart => exact ⟨0, by omega, rfl, Below.refl _ _⟩
      case round =>
        obtain ⟨k, hk, rfl, hbr⟩ := hrel
        by_cases hlt : k < len0
        · obtain ⟨ba, oa, ea, hca⟩ := (HA.out.1.later hbr).2 k hlt
          obtain ⟨bb, ob, eb, hcb⟩ := (HB.out.1.later hbr).2 k hlt
          obtain ⟨x, HX⟩ : ∃ x, Hid (f k = x) := ⟨_, rfl⟩
          obtain ⟨y, HY⟩ : ∃ y, Hid (h k = y) := ⟨_, rfl⟩
          rw [HX.out] at hca
          rw [HY.out] at hcb
          have hx : x < 256 := by rw [← HX.out]; exact HVf.out k hlt
          have HEv : Hid (ev F T x = y) := by show _ = _; rw [← HX.out, ← HY.out, ← HP.out.pts k hlt, ← HP.out.len, ev_tlen]
          have HEt : Hid (∀ w', Sl w' s1 T F → Calls Try.prog 13 #[.slice s1 T k1, .int .u8 (x : Int)] w' fun e w'' => e = .returned (.int .u8 (y : Int)) ∧ ∃ m, w'' = w'.drewN m) := by rw [← HEv.out]; exact fun w' hs => eval_any w' s1 T k1 x F hs (by omega) hx
          have HSt : Hid (Sl wr s1 T F) := HL.out.1.later hbr
          have HBr : Hid (Below w1.heap.size w1 wr) := hbr
          have k0 : (0 : Int) ≤ (k : Int) := by omega
          have kn : (k : Int) < (len0 : Int) := by omega
          clear hbr
          subst ea eb
          go_wp2
          go_quiet ((go_at_call 13; exact Calls.quiet_of (HEt.out _ (by exact HSt.out))))
          go_wp2
          exact ⟨⟨k + 1, by omega, by go_num, below_drewN HBr.out _⟩, by simp [intOf]; omega⟩
        · obtain rfl : k = len0 := by omega
          have HBr : Hid (Below w1.heap.size w1 wr) := hbr
          have gm : decide ((T : Int) - 1 < max (k : Int) 1) = true := by simp; omega
          clear hbr
          go_wp2_with (first
            | (go_at_call 29; refine (anchor_any _).mono ?_; rintro e w3 ⟨rfl, hb3⟩; have HB3 : Hid (Below w1.heap.size w1 w3) := two_below HBr.out hb3; clear hb3)
            | (go_at_call 12; refine (degree_any _ _ _ _ T F (HL.out.later HB3.out) HT).mono ?_; rintro e w' ⟨rfl, rfl⟩)
            | (go_at_call 30; refine (twice_no _ _ _ _ f (HA.out.later HB3.out) HI.out).mono ?_; rintro e w4 ⟨rfl, hb4⟩; have HB4 : Hid (Below w1.heap.size w1 w4) := two_below HB3.out hb4; clear hb4))
          all_goals first | (go_ret; exact ⟨rfl, two_below HP.out.below HB4.out⟩) | (exfalso; omega)
    · have HI : Hid (¬ Inj f len0) := hi
      clear hi
      go_enter Try.func8, Try.ntmps8
      go_wp2_with (first
        | (go_at_call 27; refine (pinter_no _ _ _ _ _ _ f h hA hB HI.out).mono ?_; rintro e w1 ⟨rfl, hb1⟩; replace hA := hA.later hb1; have hw := hb1)
        | (go_at_call 29; refine (anchor_any _).mono ?_; rintro e w3 ⟨rfl, hb3⟩; replace hA := hA.later hb3; replace hw := two_below hw hb3)
        | (go_at_call 30; refine (twice_yes _ _ _ _ f hA HI.out).mono ?_; rintro e w4 ⟨rfl, hb4⟩; replace hw := two_below hw hb4))
      go_ret
      exact ⟨rfl, by assumption⟩
  · have t : ((len0 : Int) != (len1 : Int)) = true := by simp; omega
    go_enter Try.func8, Try.ntmps8
    go_wp2_with (first
      | (go_at_call 27; refine (pinter_shape _ _ _ _ _ _ _ hl).mono ?_; rintro e w' ⟨rfl, rfl⟩)
      | (go_at_call 29; refine (anchor_any _).mono ?_; rintro e w3 ⟨rfl, hb3⟩; have hw := hb3))
    go_ret
    exact ⟨rfl, by assumption⟩

/-! ### THE ROW's STEP: WRITTEN OUT: LEAVE IT -/
set_option maxRecDepth 100000 in
theorem lifted (os : Os) (started : os.Started) (H : Type) (enc : TypeId × Value → H) :
    ReturnsInHanded {} Try.checked os 8 .any (Rows.polyThroughSpec.pre6 enc Try.prog Try.f8 Rows.polyThroughRow.domain false) (Rows.polyThroughSpec.post enc Try.prog Try.f8 false true false false) := by
  refine returnsInHanded_of_change_sized (C := Try.checked) own started (by kernel_rfl) Try.func8
    (ChangeSpec.witness6 (enc := enc) (C := Try.checked) false ⟨#[], #[.slice none 0 0, .slice none 0 0], []⟩ 8 (by kernel_rfl) (by kernel_rfl) (by kernel_rfl) (by kernel_rfl)) ?_
  intro W base args ds gs before hval0 hW hcnd hsz0 _
  have hsz : (DataW.weightsEach Try.prog (Try.f8.params.toList ++ Rows.polyThroughSpec.plain.varTypes Try.prog) (ds ++ gs)).all (· ≤ reachBytes) = true := hsz0
  clear hsz0
  have hval : ∀ (j : Nat) t v, Try.f8.params[j]? = some t → args[j]? = some v → Value.okWide Try.prog W .any base t v := hval0
  have hW' := hW
  obtain ⟨p, q, hA0, hV, rfl, hfz, hnd⟩ := hW
  have hA : DataW.TrodAll enc Try.prog W 0 (fun _ => true) true Try.f8.params.toList args.toList ds p := hA0
  rw [Try.params8] at hA hval hsz
  obtain ⟨v0, vs0, d0, ds0, p0, q0, hargs, rfl, rfl, h0, r0⟩ := trodAll_cons hA
  obtain ⟨v1, vs1, d1, ds1, p1, q1, rfl, rfl, rfl, h1, r1⟩ := trodAll_cons r0
  obtain ⟨rfl, rfl, rfl⟩ := trodAll_nil r1
  obtain rfl : args = #[v0, v1] := by cases args; simp_all
  obtain ⟨rfl, rfl⟩ := trodVars_none hV
  obtain ⟨a0, len0, cap0, rfl⟩ := okWide_slice Try.underlying22 (hval 0 22 v0 rfl rfl)
  have k0 := h0
  have lt0 : ∀ x ∈ p0, x.block < W.heap.size := by obtain ⟨m, hm⟩ := k0; exact DataW.trod_lt m _ _ _ hm
  obtain ⟨z0, w0⟩ : ∃ zs, IsRow .u8 W a0 len0 cap0 zs := by
    obtain ⟨fuel, hf⟩ := h0
    rcases open_ints Try.underlying22 Try.underlying5 (by kernel_rfl) hf with ⟨hcs, _⟩ | ⟨x, l, c, zs, hcs, _, hl, hm, hz, hxx, hcell, hwz⟩
    · simp [Value.cells] at hcs
      obtain ⟨rfl, rfl, rfl⟩ := hcs
      exact ⟨[], .inl ⟨rfl, rfl, rfl, rfl⟩⟩
    · simp [Value.cells] at hcs
      obtain ⟨rfl, rfl, rfl⟩ := hcs
      have hd := congrArg Prod.fst hxx
      have hs := sized_slice hsz (j := 0) (t := 22) (e := 5) rfl (congrArg some hd) Try.underlying22
      rw [show Try.prog.bytesOf 5 = 1 from by kernel_rfl] at hs
      have hzl : zs.length = cap0 := by simpa using hz
      simp only [lits, List.length_map, List.length_take, List.length_drop, reachBytes] at hs
      exact ⟨zs, .inr ⟨_, rfl, hl, by omega, by simpa using hz, hcell, hwz⟩⟩
  obtain ⟨a1, len1, cap1, rfl⟩ := okWide_slice Try.underlying22 (hval 1 22 v1 rfl rfl)
  have k1 := h1
  have lt1 : ∀ x ∈ p1, x.block < W.heap.size := by obtain ⟨m, hm⟩ := k1; exact DataW.trod_lt m _ _ _ hm
  obtain ⟨z1, w1⟩ : ∃ zs, IsRow .u8 W a1 len1 cap1 zs := by
    obtain ⟨fuel, hf⟩ := h1
    rcases open_ints Try.underlying22 Try.underlying5 (by kernel_rfl) hf with ⟨hcs, _⟩ | ⟨x, l, c, zs, hcs, _, hl, hm, hz, hxx, hcell, hwz⟩
    · simp [Value.cells] at hcs
      obtain ⟨rfl, rfl, rfl⟩ := hcs
      exact ⟨[], .inl ⟨rfl, rfl, rfl, rfl⟩⟩
    · simp [Value.cells] at hcs
      obtain ⟨rfl, rfl, rfl⟩ := hcs
      have hd := congrArg Prod.fst hxx
      have hs := sized_slice hsz (j := 1) (t := 22) (e := 5) rfl (congrArg some hd) Try.underlying22
      rw [show Try.prog.bytesOf 5 = 1 from by kernel_rfl] at hs
      have hzl : zs.length = cap1 := by simpa using hz
      simp only [lits, List.length_map, List.length_take, List.length_drop, reachBytes] at hs
      exact ⟨zs, .inr ⟨_, rfl, hl, by omega, by simpa using hz, hcell, hwz⟩⟩
  clear hA0 hval0
  refine (walk a0 len0 cap0 z0 a1 len1 cap1 z1 W w0 w1).mono fun e W' ⟨he, bel⟩ => ?_
  subst he
  exact ⟨_, rfl, _, _, _, [], _, [], hW', trodAll_mk1 (shut_bool Try.underlying4 _), (trodAll_cons_mk (Below.trod laidOut (by kernel_rfl) (of_decide_eq_true (by kernel_rfl)) k0 bel lt0) (trodAll_cons_mk (Below.trod laidOut (by kernel_rfl) (of_decide_eq_true (by kernel_rfl)) k1 bel lt1) trodAll_mk0)), rfl, bel.frame _, fun h => by cases h⟩

theorem over : Rows.polyThroughRow.holds Try.pinned (OpenSpec.ofChange Rows.polyThroughSpec) :=
  OpenClaim.holds_of_wide 8 Try.f8 rfl rfl rfl rfl rfl rfl rfl ⟨rfl, rfl, rfl, rfl, rfl⟩ rfl rfl rfl rfl rfl (by kernel_rfl) Try.func8 (by kernel_rfl)
    (of_decide_eq_true (by kernel_rfl)) (by unfold Func.isWrapper; first | (rw [if_pos (by decide +kernel)]; kernel_rfl) | (rw [if_neg (by decide +kernel)]; exact ⟨rfl, rfl⟩))
    (fun os started H enc _ => lifted os started H enc)

/-- ████ THE STATEMENT ████ -/
theorem proved : Rows.PolyThroughSaid := over
#print axioms proved
end Go.Proofs.Ythpjedoolbfjfaa.polyThrough
