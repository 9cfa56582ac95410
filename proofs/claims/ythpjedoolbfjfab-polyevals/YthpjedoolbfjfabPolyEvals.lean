/-
  Proved: for all lists p and q of bytes with together at most 512 elements and every byte x the value of the sum at x is the sum of the values, that of the product their product; for longer ones nothing is asked (P2.6); no condition.
-/
import Derived.Test.YthpjedoolbfjfabQn
import Derived.WalkKit
import Derived.SizedLaws
import Derived.ProofKit
import Derived.OpenShut
import Derived.ShutString
import Derived.ChangeOld
import Derived.Below
namespace Go.Proofs.Ythpjedoolbfjfab.polyEvals
open Go.ChangeShapes Go.WideShapes Go.ChangeAt Go.RowKit
open Go.ChangeMaps (open_string shut_string)
set_option linter.unusedVariables false

theorem own : ownKnob Try.prog.godebug = none := by kernel_rfl
theorem laidOut : laidOutB Try.prog = true := by kernel_rfl

/-- WHAT THE WALK IS TOLD OF A SLICE OF INTEGERS THAT CAME IN: it is nil; or it leads to a row of 'cap' cells, the numbers 'zs' (the first 'len' are its elements, the rest its spare room), each fitting its kind. -/
def IsRow (k : IntKind) (w : World) (a : Option Addr) (len cap : Nat) (zs : List Int) : Prop :=
  (a = none ∧ len = 0 ∧ cap = 0 ∧ zs = []) ∨
  ∃ x, a = some x ∧ len ≤ cap ∧ cap ≤ 140737488351232 ∧ zs.length = cap ∧ (∀ i, i < zs.length → w.cell? (x.add i) = some (.int k (zs.getD i 0))) ∧ ∀ n ∈ zs, (Lit.int k n).wf = true


/-! ### STEP 1: THE WALK: the Go text returns true, AND WRITES NOTHING THAT WAS THERE: 'Below w.heap.size w w'' (Derived/Below.lean: '.refl', '.alloc', '.drew', '.setCell' at a new block, '.trans'). Open each 'IsRow' by 'rcases' AHEAD of 'go_enter'; part every test ahead of the walk. -/
set_option maxHeartbeats 3200000 in
set_option maxRecDepth 20000 in
theorem walk (a0 : Option Addr) (len0 cap0 : Nat) (z0 : List Int) (a1 : Option Addr) (len1 cap1 : Nat) (z1 : List Int) (a2 : Int) (w : World) (w0 : IsRow .u8 w a0 len0 cap0 z0) (w1 : IsRow .u8 w a1 len1 cap1 z1) (w2 : (Lit.int .u8 a2).wf = true) :
    Calls Try.prog 3 #[.slice a0 len0 cap0, .slice a1 len1 cap1, .int .u8 a2] w fun e w' => e = .returned (.bool true) ∧ Below w.heap.size w w' := by
  obtain ⟨f, hA⟩ := lk_of_row w a0 len0 cap0 z0 w0
  obtain ⟨h, hB⟩ := lk_of_row w a1 len1 cap1 z1 w1
  obtain ⟨b2, b2'⟩ := byte_of_wf w2
  obtain ⟨x, rfl⟩ := Int.eq_ofNat_of_zero_le b2
  have hx : x < 256 := by omega
  clear w0 w1 w2 b2 b2'
  obtain ⟨t1, H1⟩ : ∃ t, Hid (tlen f len0 = t) := ⟨_, rfl⟩
  obtain ⟨t2, H2⟩ : ∃ t, Hid (tlen h len1 = t) := ⟨_, rfl⟩
  obtain ⟨u, HU⟩ : ∃ u, Hid (ev f len0 x = u) := ⟨_, rfl⟩
  obtain ⟨v, HV⟩ : ∃ v, Hid (ev h len1 x = v) := ⟨_, rfl⟩
  have hn := hA.2.2.2
  have hm := hB.2.2.2
  have hu : u < 256 := by rw [← HU.out]; exact xs_lt (fun i hi => fm_lt _ _ (hA.1.1 i hi))
  have hv : v < 256 := by rw [← HV.out]; exact xs_lt (fun i hi => fm_lt _ _ (hB.1.1 i hi))
  by_cases hl : 512 < len0 + len1
  · have g1 : decide ((512 : Int) < (len0 : Int) + (len1 : Int)) = true := by simp; omega
    have g2 : IntKind.i64.wrap ((len0 : Int) + (len1 : Int)) = (len0 : Int) + (len1 : Int) := by rw [IntKind.wrap_i64]; omega
    go_enter Try.func3, Try.ntmps3
    go_wp2_with (first
      | (go_at_call 8; refine (padd_all _ _ _ _ _ _ _ f h hA hB).mono ?_; rintro e w1 ⟨s1, T1, k1, r1, rfl, hb1⟩; replace hA := hA.later hb1; replace hB := hB.later hb1; have hw := hb1)
      | (go_at_call 9; refine (pmul_all _ _ _ _ _ _ _ f h hA hB).mono ?_; rintro e w2 ⟨s2, T2, k2, r2, rfl, hb2⟩; replace hA := hA.later hb2; replace hB := hB.later hb2; replace hw := two_below hw hb2)
      | (go_at_call 10; have _x := n1; refine (eval_at _ _ _ _ x v h hB.1 hm hx HV).mono ?_; rintro e w4 ⟨rfl, hb4⟩; replace hw := two_below hw hb4)
      | (go_at_call 10; refine (eval_at _ _ _ _ x u f hA.1 hn hx HU).mono ?_; rintro e w3 ⟨rfl, hb3⟩; replace hB := hB.later hb3; replace hw := two_below hw hb3; have n1 := hl)
      | (go_at_call 11; refine (anchor_any _).mono ?_; rintro e w5 ⟨rfl, hb5⟩; replace hw := two_below hw hb5))
    go_ret
    exact ⟨rfl, by assumption⟩
  · have g1 : decide ((512 : Int) < (len0 : Int) + (len1 : Int)) = false := by simp; omega
    have g2 : IntKind.i64.wrap ((len0 : Int) + (len1 : Int)) = (len0 : Int) + (len1 : Int) := by rw [IntKind.wrap_i64]; omega
    have t1n : t1 ≤ len0 := by rw [← H1.out]; exact tlen_le _ _
    have t2n : t2 ≤ len1 := by rw [← H2.out]; exact tlen_le _ _
    obtain ⟨S, HS⟩ : ∃ S, Hid (tlen (pa (zx f len0) (zx h len1)) 512 = S) := ⟨_, rfl⟩
    obtain ⟨T, HT⟩ : ∃ T, Hid (tlen (pm (zx f len0) (zx h len1)) (t1 + t2) = T) := ⟨_, rfl⟩
    obtain ⟨y, HY⟩ : ∃ y, Hid (u ^^^ v = y) := ⟨_, rfl⟩
    obtain ⟨z, HZ⟩ : ∃ z, Hid (fm u v = z) := ⟨_, rfl⟩
    obtain ⟨P, HP⟩ : ∃ P, Hid (pa (zx f len0) (zx h len1) = P) := ⟨_, rfl⟩
    obtain ⟨M, HM⟩ : ∃ P, Hid (pm (zx f len0) (zx h len1) = P) := ⟨_, rfl⟩
    have E1 : Hid (ev P S x = y) := by show _ = _; rw [← HP.out, ← HY.out]; exact ev_sum hA.1.1 hB.1.1 (by omega) (by omega) HS.out HU.out HV.out
    have E2 : Hid (ev M T x = z) := by show _ = _; rw [← HM.out, ← HZ.out]; exact ev_prod hA.1.1 hB.1.1 H1.out H2.out HT.out HU.out HV.out
    have V1 : Hid (∀ i, i < S → P i < 256) := fun i _ => by rw [← HP.out]; exact pa_lt hA.1.1 hB.1.1 i
    have V2 : Hid (∀ i, i < T → M i < 256) := fun i _ => by rw [← HM.out]; exact pm_lt _ hA.1.1 i
    have S5 : S ≤ 512 := by rw [← HS.out]; exact tlen_le _ _
    have T5 : T ≤ t1 + t2 := by rw [← HT.out]; exact tlen_le _ _
    have hxo : bits .xor .u8 (u : Int) (v : Int) = (y : Int) := by rw [u8_xor_nat u v hu hv, HY.out]
    have HMul : Hid (∀ w, Calls Try.prog 12 #[.int .u8 (u : Int), .int .u8 (v : Int)] w fun e w' => e = .returned (.int .u8 (z : Int)) ∧ w = w') := by rw [← HZ.out]; exact fun w => rmul_at u v w hu hv
    go_enter Try.func3, Try.ntmps3
    go_wp2_with (first
      | (go_at_call 8; refine (padd_any _ _ _ _ _ _ _ t1 t2 S f h hA hB H1 H2 (by omega) (by omega) HS).mono ?_; rintro e w1 ⟨s1, k1, rfl, ho1, hb1⟩; rw [HP.out] at ho1; have hs1 := ho1.sl V1.out; clear ho1; replace hA := hA.later hb1; replace hB := hB.later hb1; have hw := hb1)
      | (go_at_call 9; refine (pmul_any _ _ _ _ _ _ _ t1 t2 T f h hA hB H1 H2 (by omega) (by omega) (.inr (.inr (by omega))) HT).mono ?_; rintro e w2 ⟨s2, k2, rfl, ho2, hb2⟩; rw [HM.out] at ho2; have hs2 := ho2.sl V2.out; clear ho2; replace hs1 := hs1.later hb2; replace hA := hA.later hb2; replace hB := hB.later hb2; replace hw := two_below hw hb2)
      | (go_at_call 10; have _x := n3; refine (eval_at _ _ _ _ x z M hs2 (by omega) hx E2).mono ?_; rintro e w7 ⟨rfl, hb7⟩; replace hw := two_below hw hb7)
      | (go_at_call 10; have _x := n2; refine (eval_at _ _ _ _ x y P hs1 (by omega) hx E1).mono ?_; rintro e w6 ⟨rfl, hb6⟩; replace hs2 := hs2.later hb6; replace hw := two_below hw hb6; have n3 := hl)
      | (go_at_call 10; have _x := n1; refine (eval_at _ _ _ _ x v h hB.1 hm hx HV).mono ?_; rintro e w4 ⟨rfl, hb4⟩; replace hs1 := hs1.later hb4; replace hs2 := hs2.later hb4; replace hw := two_below hw hb4; have n2 := hl)
      | (go_at_call 10; refine (eval_at _ _ _ _ x u f hA.1 hn hx HU).mono ?_; rintro e w3 ⟨rfl, hb3⟩; replace hs1 := hs1.later hb3; replace hs2 := hs2.later hb3; replace hB := hB.later hb3; replace hw := two_below hw hb3; have n1 := hl)
      | (go_at_call 12; refine (HMul.out _).mono ?_; rintro e w' ⟨rfl, rfl⟩)
      | (go_at_call 11; refine (anchor_any _).mono ?_; rintro e w5 ⟨rfl, hb5⟩; replace hs1 := hs1.later hb5; replace hs2 := hs2.later hb5; replace hw := two_below hw hb5))
    go_ret
    exact ⟨rfl, by assumption⟩

/-! ### THE ROW's STEP: WRITTEN OUT: LEAVE IT -/
set_option maxRecDepth 100000 in
theorem lifted (os : Os) (started : os.Started) (H : Type) (enc : TypeId × Value → H) :
    ReturnsInHanded {} Try.checked os 3 .any (Rows.polyEvalsSpec.pre6 enc Try.prog Try.f3 Rows.polyEvalsRow.domain false) (Rows.polyEvalsSpec.post enc Try.prog Try.f3 false true false false) := by
  refine returnsInHanded_of_change_sized (C := Try.checked) own started (by kernel_rfl) Try.func3
    (ChangeSpec.witness6 (enc := enc) (C := Try.checked) false ⟨#[], #[.slice none 0 0, .slice none 0 0, .int .u8 0], []⟩ 8 (by kernel_rfl) (by kernel_rfl) (by kernel_rfl) (by kernel_rfl)) ?_
  intro W base args ds gs before hval0 hW hcnd hsz0 _
  have hsz : (DataW.weightsEach Try.prog (Try.f3.params.toList ++ Rows.polyEvalsSpec.plain.varTypes Try.prog) (ds ++ gs)).all (· ≤ reachBytes) = true := hsz0
  clear hsz0
  have hval : ∀ (j : Nat) t v, Try.f3.params[j]? = some t → args[j]? = some v → Value.okWide Try.prog W .any base t v := hval0
  have hW' := hW
  obtain ⟨p, q, hA0, hV, rfl, hfz, hnd⟩ := hW
  have hA : DataW.TrodAll enc Try.prog W 0 (fun _ => true) true Try.f3.params.toList args.toList ds p := hA0
  rw [Try.params3] at hA hval hsz
  obtain ⟨v0, vs0, d0, ds0, p0, q0, hargs, rfl, rfl, h0, r0⟩ := trodAll_cons hA
  obtain ⟨v1, vs1, d1, ds1, p1, q1, rfl, rfl, rfl, h1, r1⟩ := trodAll_cons r0
  obtain ⟨v2, vs2, d2, ds2, p2, q2, rfl, rfl, rfl, h2, r2⟩ := trodAll_cons r1
  obtain ⟨rfl, rfl, rfl⟩ := trodAll_nil r2
  obtain rfl : args = #[v0, v1, v2] := by cases args; simp_all
  obtain ⟨rfl, rfl⟩ := trodVars_none hV
  obtain ⟨a0, len0, cap0, rfl⟩ := okWide_slice Try.underlying22 (hval 0 22 v0 rfl rfl)
  have k0 := h0
  have lt0 : ∀ x ∈ p0, x.block < W.heap.size := by obtain ⟨m, hm⟩ := k0; exact DataW.trod_lt m _ _ _ hm
  obtain ⟨z0, w0⟩ : ∃ zs, IsRow .u8 W a0 len0 cap0 zs := by
    obtain ⟨fuel, hf⟩ := h0
    rcases open_ints Try.underlying22 Try.underlying5 (by kernel_rfl) hf with ⟨hcs, _⟩ | ⟨x, l, c, zs, hcs, _, hl, hm, hz, hxx, hcell, hwz⟩
    · simp [Value.cells] at hcs
      obtain ⟨rfl, rfl, rfl⟩ := hcs
      exact ⟨[], .inl ⟨rfl, rfl, rfl, rfl⟩⟩
    · simp [Value.cells] at hcs
      obtain ⟨rfl, rfl, rfl⟩ := hcs
      have hd := congrArg Prod.fst hxx
      have hs := sized_slice hsz (j := 0) (t := 22) (e := 5) rfl (congrArg some hd) Try.underlying22
      rw [show Try.prog.bytesOf 5 = 1 from by kernel_rfl] at hs
      have hzl : zs.length = cap0 := by simpa using hz
      simp only [lits, List.length_map, List.length_take, List.length_drop, reachBytes] at hs
      exact ⟨zs, .inr ⟨_, rfl, hl, by omega, by simpa using hz, hcell, hwz⟩⟩
  obtain ⟨a1, len1, cap1, rfl⟩ := okWide_slice Try.underlying22 (hval 1 22 v1 rfl rfl)
  have k1 := h1
  have lt1 : ∀ x ∈ p1, x.block < W.heap.size := by obtain ⟨m, hm⟩ := k1; exact DataW.trod_lt m _ _ _ hm
  obtain ⟨z1, w1⟩ : ∃ zs, IsRow .u8 W a1 len1 cap1 zs := by
    obtain ⟨fuel, hf⟩ := h1
    rcases open_ints Try.underlying22 Try.underlying5 (by kernel_rfl) hf with ⟨hcs, _⟩ | ⟨x, l, c, zs, hcs, _, hl, hm, hz, hxx, hcell, hwz⟩
    · simp [Value.cells] at hcs
      obtain ⟨rfl, rfl, rfl⟩ := hcs
      exact ⟨[], .inl ⟨rfl, rfl, rfl, rfl⟩⟩
    · simp [Value.cells] at hcs
      obtain ⟨rfl, rfl, rfl⟩ := hcs
      have hd := congrArg Prod.fst hxx
      have hs := sized_slice hsz (j := 1) (t := 22) (e := 5) rfl (congrArg some hd) Try.underlying22
      rw [show Try.prog.bytesOf 5 = 1 from by kernel_rfl] at hs
      have hzl : zs.length = cap1 := by simpa using hz
      simp only [lits, List.length_map, List.length_take, List.length_drop, reachBytes] at hs
      exact ⟨zs, .inr ⟨_, rfl, hl, by omega, by simpa using hz, hcell, hwz⟩⟩
  obtain ⟨a2, rfl, rfl, rfl, w2⟩ := open_int Try.underlying5 (hval 2 5 v2 rfl rfl) h2
  clear hA0 hval0
  refine (walk a0 len0 cap0 z0 a1 len1 cap1 z1 a2 W w0 w1 w2).mono fun e W' ⟨he, bel⟩ => ?_
  subst he
  exact ⟨_, rfl, _, _, _, [], _, [], hW', trodAll_mk1 (shut_bool Try.underlying4 _), (trodAll_cons_mk (Below.trod laidOut (by kernel_rfl) (of_decide_eq_true (by kernel_rfl)) k0 bel lt0) (trodAll_cons_mk (Below.trod laidOut (by kernel_rfl) (of_decide_eq_true (by kernel_rfl)) k1 bel lt1) (trodAll_cons_mk (shut_int Try.underlying5 w2) trodAll_mk0))), rfl, bel.frame _, fun h => by cases h⟩

theorem over : Rows.polyEvalsRow.holds Try.pinned (OpenSpec.ofChange Rows.polyEvalsSpec) :=
  OpenClaim.holds_of_wide 3 Try.f3 rfl rfl rfl rfl rfl rfl rfl ⟨rfl, rfl, rfl, rfl, rfl⟩ rfl rfl rfl rfl rfl (by kernel_rfl) Try.func3 (by kernel_rfl)
    (of_decide_eq_true (by kernel_rfl)) (by unfold Func.isWrapper; first | (rw [if_pos (by decide +kernel)]; kernel_rfl) | (rw [if_neg (by decide +kernel)]; exact ⟨rfl, rfl⟩))
    (fun os started H enc _ => lifted os started H enc)

/-- ████ THE STATEMENT ████ -/
theorem proved : Rows.PolyEvalsSaid := over
#print axioms proved
end Go.Proofs.Ythpjedoolbfjfab.polyEvals
