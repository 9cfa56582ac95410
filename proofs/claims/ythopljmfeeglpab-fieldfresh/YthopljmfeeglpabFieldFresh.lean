/-
  Proved: for all lists a and b of bytes and every byte c what is handed to Sum, Scale and Mac stays as it is, and what they answer is new memory that nobody else has, the spare room too (P1.4, the rules); no condition.
-/
import Derived.Test.YthopljmfeeglpabLi
import Derived.WalkKit
import Derived.SizedLaws
import Derived.ProofKit
import Derived.OpenShut
import Derived.ShutString
import Derived.ChangeOld
import Derived.Below
namespace Go.Proofs.Ythopljmfeeglpab.fieldFresh
open Go.ChangeShapes Go.WideShapes Go.ChangeAt Go.RowKit
open Go.ChangeMaps (open_string shut_string)
set_option linter.unusedVariables false

theorem own : ownKnob Try.prog.godebug = none := by kernel_rfl
theorem laidOut : laidOutB Try.prog = true := by kernel_rfl

/-- WHAT THE WALK IS TOLD OF A SLICE OF INTEGERS THAT CAME IN: it is nil; or it leads to a row of 'cap' cells, the numbers 'zs' (the first 'len' are its elements, the rest its spare room), each fitting its kind. -/
def IsRow (k : IntKind) (w : World) (a : Option Addr) (len cap : Nat) (zs : List Int) : Prop :=
  (a = none ∧ len = 0 ∧ cap = 0 ∧ zs = []) ∨
  ∃ x, a = some x ∧ len ≤ cap ∧ cap ≤ 140737488351232 ∧ zs.length = cap ∧ (∀ i, i < zs.length → w.cell? (x.add i) = some (.int k (zs.getD i 0))) ∧ ∀ n ∈ zs, (Lit.int k n).wf = true

theorem anchored_at (w : World) : Calls Try.prog 8 #[] w fun e w' => e = .returned (.bool true) ∧ w = w' :=
  (anchored_any w).mono fun _ _ h => ⟨h.1, h.2.symm⟩

/-! ### STEP 1: THE WALK: the Go text returns true, AND WRITES NOTHING THAT WAS THERE: 'Below w.heap.size w w'' (Derived/Below.lean: '.refl', '.alloc', '.drew', '.setCell' at a new block, '.trans'). Open each 'IsRow' by 'rcases' AHEAD of 'go_enter'; part every test ahead of the walk. -/
set_option maxHeartbeats 3200000 in
theorem walk (a0 : Option Addr) (len0 cap0 : Nat) (z0 : List Int) (a1 : Option Addr) (len1 cap1 : Nat) (z1 : List Int) (a2 : Int) (w : World) (w0 : IsRow .u8 w a0 len0 cap0 z0) (w1 : IsRow .u8 w a1 len1 cap1 z1) (w2 : (Lit.int .u8 a2).wf = true) :
    Calls Try.prog 6 #[.slice a0 len0 cap0, .slice a1 len1 cap1, .int .u8 a2] w fun e w' => e = .returned (.bool true) ∧ Below w.heap.size w w' := by
  obtain ⟨f, hA, hnA, nA⟩ := sl_of_row w a0 len0 cap0 z0 w0
  obtain ⟨h, hB, hnB, nB⟩ := sl_of_row w a1 len1 cap1 z1 w1
  obtain ⟨b2, b2'⟩ := byte_of_wf w2
  obtain ⟨c, rfl⟩ := Int.eq_ofNat_of_zero_le b2
  have hc : c < 256 := by omega
  have NA : Hid (a0 = none → len0 = 0 ∧ cap0 = 0) := nA
  have NB : Hid (a1 = none → len1 = 0 ∧ cap1 = 0) := nB
  clear w0 w1 w2 b2 b2' nA nB
  have hf := hA.1
  have hh := hB.1
  have HF : Hid (∀ i, i < len0 → f i < 256) := hf
  have HH : Hid (∀ i, i < len1 → h i < 256) := hh
  clear hf hh
  by_cases hl : len0 = len1
  · subst hl
    go_enter Try.func6, Try.ntmps6
    go_wp2_with (first
      | (go_at_call 15; have _x := hb1; refine (rcopy_sl _ _ _ _ h hB hnA NB.out).mono ?_; rintro e w2 ⟨q, kq, rfl, hq, hb2⟩; replace hA := hA.later hb2; replace hB := hB.later hb2; replace hp := hp.later hb2; replace hw := two_below hw hb2)
      | (go_at_call 15; refine (rcopy_sl _ _ _ _ f hA hnA NA.out).mono ?_; rintro e w1 ⟨p, kp, rfl, hp, hb1⟩; replace hA := hA.later hb1; replace hB := hB.later hb1; have hw := hb1)
      | (go_at_call 16; have oA : Hid _ := off_of_lt hA (Nat.le_refl w2.heap.size); have oB : Hid _ := off_of_lt hB (Nat.le_refl w2.heap.size); have oP : Hid _ := off_of_lt hp (Nat.le_refl w2.heap.size); have oQ : Hid _ := off_of_lt hq (Nat.le_refl w2.heap.size); have l2 := hw.size; refine (sum_any _ _ _ _ _ _ f h hp hq hnA).mono ?_; rintro e w3 ⟨rfl, hx, hb3⟩; have m3 := hx.lt; replace hA := hA.later hb3; replace hB := hB.later hb3; replace hp := hp.later hb3; replace hq := hq.later hb3; replace hw := two_below hw hb3)
      | (go_at_call 17; have _x := hg9; refine (scale_sl _ _ _ _ _ f hc hp hnA).mono ?_; rintro e w11 ⟨s11, k11, rfl, hs11, hb11⟩; replace hA := hA.later hb11; replace hw := two_below hw hb11)
      | (go_at_call 17; have pA : Hid _ := off_of_lt hA (Nat.le_refl w3.heap.size); have pB : Hid _ := off_of_lt hB (Nat.le_refl w3.heap.size); have pP : Hid _ := off_of_lt hp (Nat.le_refl w3.heap.size); have pQ : Hid _ := off_of_lt hq (Nat.le_refl w3.heap.size); have l3 := hw.size; refine (scale_any _ _ _ _ _ f hc hp hnA).mono ?_; rintro e w4 ⟨rfl, hy, hb4⟩; have m4 := hy.lt; replace hA := hA.later hb4; replace hB := hB.later hb4; replace hp := hp.later hb4; replace hq := hq.later hb4; replace hx := hx.later hb4; replace hw := two_below hw hb4)
      | (go_at_call 13; have _x := hg9; refine (mac_sl _ _ _ _ _ _ _ f h hc hp hq hnA).mono ?_; rintro e w10 ⟨s10, k10, rfl, hs10, hb10⟩; replace hA := hA.later hb10; replace hB := hB.later hb10; replace hp := hp.later hb10; replace hq := hq.later hb10; replace hs := hs.later hb10; replace hw := two_below hw hb10)
      | (go_at_call 13; have qA : Hid _ := off_of_lt hA (Nat.le_refl w4.heap.size); have qB : Hid _ := off_of_lt hB (Nat.le_refl w4.heap.size); have qP : Hid _ := off_of_lt hp (Nat.le_refl w4.heap.size); have qQ : Hid _ := off_of_lt hq (Nat.le_refl w4.heap.size); have l4 := hw.size; refine (mac_any _ _ _ _ _ _ _ f h hc hp hq hnA).mono ?_; rintro e w5 ⟨rfl, hz, hb5⟩; replace hA := hA.later hb5; replace hB := hB.later hb5; replace hp := hp.later hb5; replace hq := hq.later hb5; replace hx := hx.later hb5; replace hy := hy.later hb5; replace hw := two_below hw hb5)
      | (go_at_call 18; have _x := hb8; refine (spoil_row _ w4.heap.size _ _ _ hnA hz).mono ?_; rintro e w9 ⟨rfl, hg9⟩; replace hA := hA.beside hg9 qA.out; replace hB := hB.beside hg9 qB.out; replace hp := hp.beside hg9 qP.out; replace hq := hq.beside hg9 qQ.out; replace hs := hs.beside hg9 (fun _ => off_from hfr m7); clear hzs; replace hw := below_row hw hg9 l4)
      | (go_at_call 18; have _x := hg6; refine (spoil_row _ w3.heap.size _ _ _ hnA hy).mono ?_; rintro e w7 ⟨rfl, hg7⟩; replace hA := hA.beside hg7 pA.out; replace hB := hB.beside hg7 pB.out; replace hp := hp.beside hg7 pP.out; replace hq := hq.beside hg7 pQ.out; replace hz := hz.kept hg7 (by omega); replace hw := below_row hw hg7 l3)
      | (go_at_call 18; refine (spoil_row _ w2.heap.size _ _ _ hnA hx).mono ?_; rintro e w6 ⟨rfl, hg6⟩; replace hA := hA.beside hg6 oA.out; replace hB := hB.beside hg6 oB.out; replace hp := hp.beside hg6 oP.out; replace hq := hq.beside hg6 oQ.out; replace hy := hy.kept hg6 (by omega); replace hz := hz.kept hg6 (by omega); replace hw := below_row hw hg6 l2)
      | (go_at_call 19; have m7 := hz.lt; refine (rmac_sl _ _ _ _ _ _ _ f h hc hA hB hnA).mono ?_; rintro e w8 ⟨s, ks, rfl, hs, hb8, hfr⟩; replace hA := hA.later hb8; replace hB := hB.later hb8; replace hp := hp.later hb8; replace hq := hq.later hb8; replace hz := hz.later hb8; have hzs := hz.sl (xor_byte HF.out fun _ _ => fm_lt _ _ hc); replace hw := two_below hw hb8)
      | (go_at_call 21; refine (rscale_sl _ _ _ _ _ f hc hA hnA).mono ?_; rintro e w12 ⟨s12, k12, rfl, hs12, hb12⟩; replace hs11 := hs11.later hb12; replace hw := two_below hw hb12)
      | (go_at_call 20; refine (same_at _ _ _ _ _ _ _ (by assumption) (by assumption)).mono ?_; rintro e w' ⟨rfl, rfl⟩)
      | (go_at_call 8; refine (anchored_at _).mono ?_; rintro e w' ⟨rfl, rfl⟩))
    go_ret
    exact ⟨rfl, by assumption⟩
  · go_enter Try.func6, Try.ntmps6
    go_wp2_with (first
      | (go_at_call 15; have _x := hb1; refine (rcopy_sl _ _ _ _ h hB hnB NB.out).mono ?_; rintro e w2 ⟨q, kq, rfl, hq, hb2⟩; replace hA := hA.later hb2; replace hB := hB.later hb2; replace hp := hp.later hb2; replace hw := two_below hw hb2)
      | (go_at_call 15; refine (rcopy_sl _ _ _ _ f hA hnA NA.out).mono ?_; rintro e w1 ⟨p, kp, rfl, hp, hb1⟩; replace hA := hA.later hb1; replace hB := hB.later hb1; have hw := hb1)
      | (go_at_call 16; refine (sum_bad _ _ _ _ _ _ _ hl).mono ?_; rintro e w' ⟨rfl, hwq⟩; rw [hwq]; clear hwq w')
      | (go_at_call 17; have _x := hg7; refine (scale_sl _ _ _ _ _ f hc hp hnA).mono ?_; rintro e w11 ⟨s11, k11, rfl, hs11, hb11⟩; replace hA := hA.later hb11; replace hw := two_below hw hb11)
      | (go_at_call 17; have pA : Hid _ := off_of_lt hA (Nat.le_refl w2.heap.size); have pB : Hid _ := off_of_lt hB (Nat.le_refl w2.heap.size); have pP : Hid _ := off_of_lt hp (Nat.le_refl w2.heap.size); have pQ : Hid _ := off_of_lt hq (Nat.le_refl w2.heap.size); have l3 := hw.size; refine (scale_any _ _ _ _ _ f hc hp hnA).mono ?_; rintro e w4 ⟨rfl, hy, hb4⟩; replace hA := hA.later hb4; replace hB := hB.later hb4; replace hp := hp.later hb4; replace hq := hq.later hb4; replace hw := two_below hw hb4)
      | (go_at_call 13; refine (mac_bad _ _ _ _ _ _ _ _ hl).mono ?_; rintro e w' ⟨rfl, hwq⟩; rw [hwq]; clear hwq w')
      | (go_at_call 18; have _x := hg7; refine (spoil_nil _ _).mono ?_; rintro e w9 ⟨rfl, hb9⟩; replace hA := hA.later hb9; replace hB := hB.later hb9; replace hp := hp.later hb9; replace hq := hq.later hb9; replace hw := two_below hw hb9)
      | (go_at_call 18; have _x := hb6; refine (spoil_row _ w2.heap.size _ _ _ hnA hy).mono ?_; rintro e w7 ⟨rfl, hg7⟩; replace hA := hA.beside hg7 pA.out; replace hB := hB.beside hg7 pB.out; replace hp := hp.beside hg7 pP.out; replace hq := hq.beside hg7 pQ.out; replace hw := below_row hw hg7 l3)
      | (go_at_call 18; refine (spoil_nil _ _).mono ?_; rintro e w6 ⟨rfl, hb6⟩; replace hA := hA.later hb6; replace hB := hB.later hb6; replace hp := hp.later hb6; replace hq := hq.later hb6; replace hy := hy.later hb6; replace hw := two_below hw hb6)
      | (go_at_call 19; refine (rmac_bad _ _ _ _ _ _ _ _ hl).mono ?_; rintro e w' ⟨rfl, hwq⟩; rw [hwq]; clear hwq w')
      | (go_at_call 21; refine (rscale_sl _ _ _ _ _ f hc hA hnA).mono ?_; rintro e w12 ⟨s12, k12, rfl, hs12, hb12⟩; replace hs11 := hs11.later hb12; replace hw := two_below hw hb12)
      | (go_at_call 20; refine (same_at _ _ _ _ _ _ _ (by first | assumption | exact Sl.nil _ _ (fun _ => 0)) (by first | assumption | exact Sl.nil _ _ (fun _ => 0))).mono ?_; rintro e w' ⟨rfl, rfl⟩)
      | (go_at_call 8; refine (anchored_at _).mono ?_; rintro e w' ⟨rfl, rfl⟩))
    go_ret
    exact ⟨rfl, by assumption⟩

/-! ### THE ROW's STEP: WRITTEN OUT: LEAVE IT -/
set_option maxRecDepth 100000 in
theorem lifted (os : Os) (started : os.Started) (H : Type) (enc : TypeId × Value → H) :
    ReturnsInHanded {} Try.checked os 6 .any (Rows.fieldFreshSpec.pre6 enc Try.prog Try.f6 Rows.fieldFreshRow.domain false) (Rows.fieldFreshSpec.post enc Try.prog Try.f6 false true false false) := by
  refine returnsInHanded_of_change_sized (C := Try.checked) own started (by kernel_rfl) Try.func6
    (ChangeSpec.witness6 (enc := enc) (C := Try.checked) false ⟨#[], #[.slice none 0 0, .slice none 0 0, .int .u8 0], []⟩ 8 (by kernel_rfl) (by kernel_rfl) (by kernel_rfl) (by kernel_rfl)) ?_
  intro W base args ds gs before hval0 hW hcnd hsz0 _
  have hsz : (DataW.weightsEach Try.prog (Try.f6.params.toList ++ Rows.fieldFreshSpec.plain.varTypes Try.prog) (ds ++ gs)).all (· ≤ reachBytes) = true := hsz0
  clear hsz0
  have hval : ∀ (j : Nat) t v, Try.f6.params[j]? = some t → args[j]? = some v → Value.okWide Try.prog W .any base t v := hval0
  have hW' := hW
  obtain ⟨p, q, hA0, hV, rfl, hfz, hnd⟩ := hW
  have hA : DataW.TrodAll enc Try.prog W 0 (fun _ => true) true Try.f6.params.toList args.toList ds p := hA0
  rw [Try.params6] at hA hval hsz
  obtain ⟨v0, vs0, d0, ds0, p0, q0, hargs, rfl, rfl, h0, r0⟩ := trodAll_cons hA
  obtain ⟨v1, vs1, d1, ds1, p1, q1, rfl, rfl, rfl, h1, r1⟩ := trodAll_cons r0
  obtain ⟨v2, vs2, d2, ds2, p2, q2, rfl, rfl, rfl, h2, r2⟩ := trodAll_cons r1
  obtain ⟨rfl, rfl, rfl⟩ := trodAll_nil r2
  obtain rfl : args = #[v0, v1, v2] := by cases args; simp_all
  obtain ⟨rfl, rfl⟩ := trodVars_none hV
  obtain ⟨a0, len0, cap0, rfl⟩ := okWide_slice Try.underlying33 (hval 0 33 v0 rfl rfl)
  have k0 := h0
  have lt0 : ∀ x ∈ p0, x.block < W.heap.size := by obtain ⟨m, hm⟩ := k0; exact DataW.trod_lt m _ _ _ hm
  obtain ⟨z0, w0⟩ : ∃ zs, IsRow .u8 W a0 len0 cap0 zs := by
    obtain ⟨fuel, hf⟩ := h0
    rcases open_ints Try.underlying33 Try.underlying5 (by kernel_rfl) hf with ⟨hcs, _⟩ | ⟨x, l, c, zs, hcs, _, hl, hm, hz, hxx, hcell, hwz⟩
    · simp [Value.cells] at hcs
      obtain ⟨rfl, rfl, rfl⟩ := hcs
      exact ⟨[], .inl ⟨rfl, rfl, rfl, rfl⟩⟩
    · simp [Value.cells] at hcs
      obtain ⟨rfl, rfl, rfl⟩ := hcs
      have hd := congrArg Prod.fst hxx
      have hs := sized_slice hsz (j := 0) (t := 33) (e := 5) rfl (congrArg some hd) Try.underlying33
      rw [show Try.prog.bytesOf 5 = 1 from by kernel_rfl] at hs
      have hzl : zs.length = cap0 := by simpa using hz
      simp only [lits, List.length_map, List.length_take, List.length_drop, reachBytes] at hs
      exact ⟨zs, .inr ⟨_, rfl, hl, by omega, by simpa using hz, hcell, hwz⟩⟩
  obtain ⟨a1, len1, cap1, rfl⟩ := okWide_slice Try.underlying33 (hval 1 33 v1 rfl rfl)
  have k1 := h1
  have lt1 : ∀ x ∈ p1, x.block < W.heap.size := by obtain ⟨m, hm⟩ := k1; exact DataW.trod_lt m _ _ _ hm
  obtain ⟨z1, w1⟩ : ∃ zs, IsRow .u8 W a1 len1 cap1 zs := by
    obtain ⟨fuel, hf⟩ := h1
    rcases open_ints Try.underlying33 Try.underlying5 (by kernel_rfl) hf with ⟨hcs, _⟩ | ⟨x, l, c, zs, hcs, _, hl, hm, hz, hxx, hcell, hwz⟩
    · simp [Value.cells] at hcs
      obtain ⟨rfl, rfl, rfl⟩ := hcs
      exact ⟨[], .inl ⟨rfl, rfl, rfl, rfl⟩⟩
    · simp [Value.cells] at hcs
      obtain ⟨rfl, rfl, rfl⟩ := hcs
      have hd := congrArg Prod.fst hxx
      have hs := sized_slice hsz (j := 1) (t := 33) (e := 5) rfl (congrArg some hd) Try.underlying33
      rw [show Try.prog.bytesOf 5 = 1 from by kernel_rfl] at hs
      have hzl : zs.length = cap1 := by simpa using hz
      simp only [lits, List.length_map, List.length_take, List.length_drop, reachBytes] at hs
      exact ⟨zs, .inr ⟨_, rfl, hl, by omega, by simpa using hz, hcell, hwz⟩⟩
  obtain ⟨a2, rfl, rfl, rfl, w2⟩ := open_int Try.underlying5 (hval 2 5 v2 rfl rfl) h2
  clear hA0 hval0
  refine (walk a0 len0 cap0 z0 a1 len1 cap1 z1 a2 W w0 w1 w2).mono fun e W' ⟨he, bel⟩ => ?_
  subst he
  exact ⟨_, rfl, _, _, _, [], _, [], hW', trodAll_mk1 (shut_bool Try.underlying4 _), (trodAll_cons_mk (Below.trod laidOut (by kernel_rfl) (of_decide_eq_true (by kernel_rfl)) k0 bel lt0) (trodAll_cons_mk (Below.trod laidOut (by kernel_rfl) (of_decide_eq_true (by kernel_rfl)) k1 bel lt1) (trodAll_cons_mk (shut_int Try.underlying5 w2) trodAll_mk0))), rfl, bel.frame _, fun h => by cases h⟩

theorem over : Rows.fieldFreshRow.holds Try.pinned (OpenSpec.ofChange Rows.fieldFreshSpec) :=
  OpenClaim.holds_of_wide 6 Try.f6 rfl rfl rfl rfl rfl rfl rfl ⟨rfl, rfl, rfl, rfl, rfl⟩ rfl rfl rfl rfl rfl (by kernel_rfl) Try.func6 (by kernel_rfl)
    (of_decide_eq_true (by kernel_rfl)) (by unfold Func.isWrapper; first | (rw [if_pos (by decide +kernel)]; kernel_rfl) | (rw [if_neg (by decide +kernel)]; exact ⟨rfl, rfl⟩))
    (fun os started H enc _ => lifted os started H enc)

/-- ████ THE STATEMENT ████ -/
theorem proved : Rows.FieldFreshSaid := over
#print axioms proved
end Go.Proofs.Ythopljmfeeglpab.fieldFresh
