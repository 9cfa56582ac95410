/-
  Proved: for all lists a and b of bytes of one length and every byte c Dot goes through sums and multiples and does not hang on which list is which; of two lengths it answers an error (P1.5); no condition.
-/
import Derived.Test.YthopljmfeeglpabLh
import Derived.WalkKit
import Derived.SizedLaws
import Derived.ProofKit
import Derived.OpenShut
import Derived.ShutString
import Derived.ChangeOld
import Derived.Below
namespace Go.Proofs.Ythopljmfeeglpab.fieldDots
open Go.ChangeShapes Go.WideShapes Go.ChangeAt Go.RowKit
open Go.ChangeMaps (open_string shut_string)
set_option linter.unusedVariables false

theorem own : ownKnob Try.prog.godebug = none := by kernel_rfl
theorem laidOut : laidOutB Try.prog = true := by kernel_rfl

/-- WHAT THE WALK IS TOLD OF A SLICE OF INTEGERS THAT CAME IN: it is nil; or it leads to a row of 'cap' cells, the numbers 'zs' (the first 'len' are its elements, the rest its spare room), each fitting its kind. -/
def IsRow (k : IntKind) (w : World) (a : Option Addr) (len cap : Nat) (zs : List Int) : Prop :=
  (a = none ∧ len = 0 ∧ cap = 0 ∧ zs = []) ∨
  ∃ x, a = some x ∧ len ≤ cap ∧ cap ≤ 140737488351232 ∧ zs.length = cap ∧ (∀ i, i < zs.length → w.cell? (x.add i) = some (.int k (zs.getD i 0))) ∧ ∀ n ∈ zs, (Lit.int k n).wf = true

theorem dot_comm (f h : Nat → Nat) (n : Nat) (hf : ∀ i, i < n → f i < 256) (hh : ∀ i, i < n → h i < 256) : ∀ k, k ≤ n → dot h f k = dot f h k := by
  intro k
  induction k with
  | zero => intro _; rfl
  | succ k ih => intro hk; simp only [dot]; rw [ih (by omega), fm_comm _ _ (hh k (by omega)) (hf k (by omega))]
theorem dot_lin (f h : Nat → Nat) (c n : Nat) (hc : c < 256) (hf : ∀ i, i < n → f i < 256) (hh : ∀ i, i < n → h i < 256) : ∀ k, k ≤ n → dot (fun i => f i ^^^ fm c (h i)) h k = dot f h k ^^^ fm c (dot h h k) := by
  intro k
  induction k with
  | zero => intro _; simp [dot, fm_zero]
  | succ k ih =>
    intro hk
    simp only [dot]
    rw [ih (by omega), xor_fm _ _ _ (hf k (by omega)) (fm_lt _ _ hc), fm_assoc c _ _ hc (hh k (by omega)), fm_xor, xor4]
theorem add_nat (a b : Nat) (w : World) (ha : a < 256) (hb : b < 256) :
    Calls Try.prog 14 #[.int .u8 (a : Int), .int .u8 (b : Int)] w fun e w' => e = .returned (.int .u8 (a ^^^ b : Nat)) ∧ w = w' :=
  (add_any a b w (byte_nat a ha) (byte_nat b hb)).mono fun _ _ h => ⟨h.1, h.2.symm⟩
theorem mul_at (a b : Nat) (w : World) (ha : a < 256) (hb : b < 256) :
    Calls Try.prog 9 #[.int .u8 (a : Int), .int .u8 (b : Int)] w fun e w' => e = .returned (.int .u8 (fm a b : Nat)) ∧ w = w' :=
  (mul_nat a b w ha hb).mono fun _ _ h => ⟨h.1, h.2.symm⟩
theorem anchored_at (w : World) : Calls Try.prog 8 #[] w fun e w' => e = .returned (.bool true) ∧ w = w' :=
  (anchored_any w).mono fun _ _ h => ⟨h.1, h.2.symm⟩
/-- Dot, its answer under a name. -/
theorem dot_named (w : World) (a b : Option Addr) (n c d v : Nat) (f h : Nat → Nat) (ha : Sl w a n f) (hb : Sl w b n h) (hn : n ≤ 140737488351232) (hv : Hid (dot f h n = v)) :
    Calls Try.prog 12 #[.slice a n c, .slice b n d] w fun e w' => e = .returned (.tuple #[.int .u8 (v : Int), .int .i64 0]) ∧ w = w' := by
  rw [← hv.out]; exact dot_at w a b n c d f h ha hb hn

/-! ### STEP 1: THE WALK: the Go text returns true, AND WRITES NOTHING THAT WAS THERE: 'Below w.heap.size w w'' (Derived/Below.lean: '.refl', '.alloc', '.drew', '.setCell' at a new block, '.trans'). Open each 'IsRow' by 'rcases' AHEAD of 'go_enter'; part every test ahead of the walk. -/
set_option maxHeartbeats 1600000 in
theorem walk (a0 : Option Addr) (len0 cap0 : Nat) (z0 : List Int) (a1 : Option Addr) (len1 cap1 : Nat) (z1 : List Int) (a2 : Int) (w : World) (w0 : IsRow .u8 w a0 len0 cap0 z0) (w1 : IsRow .u8 w a1 len1 cap1 z1) (w2 : (Lit.int .u8 a2).wf = true) :
    Calls Try.prog 5 #[.slice a0 len0 cap0, .slice a1 len1 cap1, .int .u8 a2] w fun e w' => e = .returned (.bool true) ∧ Below w.heap.size w w' := by
  obtain ⟨f, hA, hnA, _⟩ := sl_of_row w a0 len0 cap0 z0 w0
  obtain ⟨h, hB, hnB, _⟩ := sl_of_row w a1 len1 cap1 z1 w1
  obtain ⟨b2, b2'⟩ := byte_of_wf w2
  obtain ⟨c, rfl⟩ := Int.eq_ofNat_of_zero_le b2
  have hc : c < 256 := by omega
  clear w0 w1 w2 b2 b2'
  by_cases hl : len0 = len1
  · subst hl
    obtain ⟨y, HY⟩ : ∃ y, Hid (dot f h len0 = y) := ⟨_, rfl⟩
    obtain ⟨z, HZ⟩ : ∃ y, Hid (dot h h len0 = y) := ⟨_, rfl⟩
    obtain ⟨x, HX⟩ : ∃ y, Hid (dot (fun i => f i ^^^ fm c (h i)) h len0 = y) := ⟨_, rfl⟩
    have HW : Hid (dot h f len0 = y) := by rw [← HY.out]; exact dot_comm f h len0 hA.1 hB.1 _ (Nat.le_refl _)
    obtain ⟨cz, HCZ⟩ : ∃ q, Hid (fm c z = q) := ⟨_, rfl⟩
    have hxy : y ^^^ cz = x := by
      rw [← HX.out, dot_lin f h c len0 hc hA.1 hB.1 _ (Nat.le_refl _), HY.out, HZ.out, HCZ.out]
    have hy : y < 256 := by rw [← HY.out]; exact dot_lt f h len0 hA.1 _ (Nat.le_refl _)
    have hz : z < 256 := by rw [← HZ.out]; exact dot_lt h h len0 hB.1 _ (Nat.le_refl _)
    have hcz : cz < 256 := by rw [← HCZ.out]; exact fm_lt _ _ hc
    have HMul : Hid (∀ w, Calls Try.prog 9 #[.int .u8 (c : Int), .int .u8 (z : Int)] w fun e w' => e = .returned (.int .u8 (cz : Int)) ∧ w = w') := by rw [← HCZ.out]; exact fun w => mul_at c z w hc hz
    have HAdd : Hid (∀ w, Calls Try.prog 14 #[.int .u8 (y : Int), .int .u8 (cz : Int)] w fun e w' => e = .returned (.int .u8 (x : Int)) ∧ w = w') := by rw [← hxy]; exact fun w => add_nat y cz w hy hcz
    clear hxy
    go_enter Try.func5, Try.ntmps5
    go_wp2_with (first
      | (go_at_call 13; refine (mac_sl _ _ _ _ _ _ _ f h hc hA hB hnA).mono ?_; rintro e w3 ⟨s3, k3, rfl, hs3, hb3⟩; replace hA := hA.later hb3; replace hB := hB.later hb3; have n0 := hb3)
      | (go_at_call 12; have _x := n3; refine (dot_named _ _ _ _ _ _ _ h f hB hA hnA HW).mono ?_; rintro e w' ⟨rfl, rfl⟩; clear n3)
      | (go_at_call 12; have _x := n2; refine (dot_named _ _ _ _ _ _ _ h h hB hB hnA HZ).mono ?_; rintro e w' ⟨rfl, rfl⟩; have n3 := n2; clear n2)
      | (go_at_call 12; have _x := n1; refine (dot_named _ _ _ _ _ _ _ f h hA hB hnA HY).mono ?_; rintro e w' ⟨rfl, rfl⟩; have n2 := n1; clear n1)
      | (go_at_call 12; have _x := n0; refine (dot_named _ _ _ _ _ _ _ _ h hs3 hB hnA HX).mono ?_; rintro e w' ⟨rfl, rfl⟩; have n1 := n0; clear n0)
      | (go_at_call 9; refine (HMul.out _).mono ?_; rintro e w' ⟨rfl, rfl⟩)
      | (go_at_call 14; refine (HAdd.out _).mono ?_; rintro e w' ⟨rfl, rfl⟩)
      | (go_at_call 8; refine (anchored_at _).mono ?_; rintro e w' ⟨rfl, rfl⟩))
    go_ret
    exact ⟨rfl, by assumption⟩
  · have t : ((len0 : Int) != (len1 : Int)) = true := by simp; omega
    go_enter Try.func5, Try.ntmps5
    go_wp2_with (first
      | (go_at_call 12; refine (dot_bad _ _ _ _ _ _ _ hl).mono ?_; rintro e w' ⟨rfl, hwq⟩; rw [hwq]; clear hwq w')
      | (go_at_call 8; refine (anchored_at _).mono ?_; rintro e w' ⟨rfl, rfl⟩))
    go_ret
    exact ⟨rfl, Below.refl _ _⟩

/-! ### THE ROW's STEP: WRITTEN OUT: LEAVE IT -/
set_option maxRecDepth 100000 in
theorem lifted (os : Os) (started : os.Started) (H : Type) (enc : TypeId × Value → H) :
    ReturnsInHanded {} Try.checked os 5 .any (Rows.fieldDotsSpec.pre6 enc Try.prog Try.f5 Rows.fieldDotsRow.domain false) (Rows.fieldDotsSpec.post enc Try.prog Try.f5 false true false false) := by
  refine returnsInHanded_of_change_sized (C := Try.checked) own started (by kernel_rfl) Try.func5
    (ChangeSpec.witness6 (enc := enc) (C := Try.checked) false ⟨#[], #[.slice none 0 0, .slice none 0 0, .int .u8 0], []⟩ 8 (by kernel_rfl) (by kernel_rfl) (by kernel_rfl) (by kernel_rfl)) ?_
  intro W base args ds gs before hval0 hW hcnd hsz0 _
  have hsz : (DataW.weightsEach Try.prog (Try.f5.params.toList ++ Rows.fieldDotsSpec.plain.varTypes Try.prog) (ds ++ gs)).all (· ≤ reachBytes) = true := hsz0
  clear hsz0
  have hval : ∀ (j : Nat) t v, Try.f5.params[j]? = some t → args[j]? = some v → Value.okWide Try.prog W .any base t v := hval0
  have hW' := hW
  obtain ⟨p, q, hA0, hV, rfl, hfz, hnd⟩ := hW
  have hA : DataW.TrodAll enc Try.prog W 0 (fun _ => true) true Try.f5.params.toList args.toList ds p := hA0
  rw [Try.params5] at hA hval hsz
  obtain ⟨v0, vs0, d0, ds0, p0, q0, hargs, rfl, rfl, h0, r0⟩ := trodAll_cons hA
  obtain ⟨v1, vs1, d1, ds1, p1, q1, rfl, rfl, rfl, h1, r1⟩ := trodAll_cons r0
  obtain ⟨v2, vs2, d2, ds2, p2, q2, rfl, rfl, rfl, h2, r2⟩ := trodAll_cons r1
  obtain ⟨rfl, rfl, rfl⟩ := trodAll_nil r2
  obtain rfl : args = #[v0, v1, v2] := by cases args; simp_all
  obtain ⟨rfl, rfl⟩ := trodVars_none hV
  obtain ⟨a0, len0, cap0, rfl⟩ := okWide_slice Try.underlying33 (hval 0 33 v0 rfl rfl)
  have k0 := h0
  have lt0 : ∀ x ∈ p0, x.block < W.heap.size := by obtain ⟨m, hm⟩ := k0; exact DataW.trod_lt m _ _ _ hm
  obtain ⟨z0, w0⟩ : ∃ zs, IsRow .u8 W a0 len0 cap0 zs := by
    obtain ⟨fuel, hf⟩ := h0
    rcases open_ints Try.underlying33 Try.underlying5 (by kernel_rfl) hf with ⟨hcs, _⟩ | ⟨x, l, c, zs, hcs, _, hl, hm, hz, hxx, hcell, hwz⟩
    · simp [Value.cells] at hcs
      obtain ⟨rfl, rfl, rfl⟩ := hcs
      exact ⟨[], .inl ⟨rfl, rfl, rfl, rfl⟩⟩
    · simp [Value.cells] at hcs
      obtain ⟨rfl, rfl, rfl⟩ := hcs
      have hd := congrArg Prod.fst hxx
      have hs := sized_slice hsz (j := 0) (t := 33) (e := 5) rfl (congrArg some hd) Try.underlying33
      rw [show Try.prog.bytesOf 5 = 1 from by kernel_rfl] at hs
      have hzl : zs.length = cap0 := by simpa using hz
      simp only [lits, List.length_map, List.length_take, List.length_drop, reachBytes] at hs
      exact ⟨zs, .inr ⟨_, rfl, hl, by omega, by simpa using hz, hcell, hwz⟩⟩
  obtain ⟨a1, len1, cap1, rfl⟩ := okWide_slice Try.underlying33 (hval 1 33 v1 rfl rfl)
  have k1 := h1
  have lt1 : ∀ x ∈ p1, x.block < W.heap.size := by obtain ⟨m, hm⟩ := k1; exact DataW.trod_lt m _ _ _ hm
  obtain ⟨z1, w1⟩ : ∃ zs, IsRow .u8 W a1 len1 cap1 zs := by
    obtain ⟨fuel, hf⟩ := h1
    rcases open_ints Try.underlying33 Try.underlying5 (by kernel_rfl) hf with ⟨hcs, _⟩ | ⟨x, l, c, zs, hcs, _, hl, hm, hz, hxx, hcell, hwz⟩
    · simp [Value.cells] at hcs
      obtain ⟨rfl, rfl, rfl⟩ := hcs
      exact ⟨[], .inl ⟨rfl, rfl, rfl, rfl⟩⟩
    · simp [Value.cells] at hcs
      obtain ⟨rfl, rfl, rfl⟩ := hcs
      have hd := congrArg Prod.fst hxx
      have hs := sized_slice hsz (j := 1) (t := 33) (e := 5) rfl (congrArg some hd) Try.underlying33
      rw [show Try.prog.bytesOf 5 = 1 from by kernel_rfl] at hs
      have hzl : zs.length = cap1 := by simpa using hz
      simp only [lits, List.length_map, List.length_take, List.length_drop, reachBytes] at hs
      exact ⟨zs, .inr ⟨_, rfl, hl, by omega, by simpa using hz, hcell, hwz⟩⟩
  obtain ⟨a2, rfl, rfl, rfl, w2⟩ := open_int Try.underlying5 (hval 2 5 v2 rfl rfl) h2
  clear hA0 hval0
  refine (walk a0 len0 cap0 z0 a1 len1 cap1 z1 a2 W w0 w1 w2).mono fun e W' ⟨he, bel⟩ => ?_
  subst he
  exact ⟨_, rfl, _, _, _, [], _, [], hW', trodAll_mk1 (shut_bool Try.underlying4 _), (trodAll_cons_mk (Below.trod laidOut (by kernel_rfl) (of_decide_eq_true (by kernel_rfl)) k0 bel lt0) (trodAll_cons_mk (Below.trod laidOut (by kernel_rfl) (of_decide_eq_true (by kernel_rfl)) k1 bel lt1) (trodAll_cons_mk (shut_int Try.underlying5 w2) trodAll_mk0))), rfl, bel.frame _, fun h => by cases h⟩

theorem over : Rows.fieldDotsRow.holds Try.pinned (OpenSpec.ofChange Rows.fieldDotsSpec) :=
  OpenClaim.holds_of_wide 5 Try.f5 rfl rfl rfl rfl rfl rfl rfl ⟨rfl, rfl, rfl, rfl, rfl⟩ rfl rfl rfl rfl rfl (by kernel_rfl) Try.func5 (by kernel_rfl)
    (of_decide_eq_true (by kernel_rfl)) (by unfold Func.isWrapper; first | (rw [if_pos (by decide +kernel)]; kernel_rfl) | (rw [if_neg (by decide +kernel)]; exact ⟨rfl, rfl⟩))
    (fun os started H enc _ => lifted os started H enc)

/-- ████ THE STATEMENT ████ -/
theorem proved : Rows.FieldDotsSaid := over
#print axioms proved
end Go.Proofs.Ythopljmfeeglpab.fieldDots
