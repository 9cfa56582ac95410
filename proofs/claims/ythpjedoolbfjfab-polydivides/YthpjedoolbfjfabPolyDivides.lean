/-
  Proved: for all lists p and q of bytes of at most 512 elements, q not 0, quotient times divisor and the remainder is p trimmed, and the remainder's degree is below the divisor's; for other lists DivMod fails unless p trimmed is short enough and q is not 0 (P2.2); no condition.
-/
import Derived.Test.YthpjedoolbfjfabQn
import Derived.WalkKit
import Derived.SizedLaws
import Derived.ProofKit
import Derived.OpenShut
import Derived.ShutString
import Derived.ChangeOld
import Derived.Below
namespace Go.Proofs.Ythpjedoolbfjfab.polyDivides
open Go.ChangeShapes Go.WideShapes Go.ChangeAt Go.RowKit
open Go.ChangeMaps (open_string shut_string)
set_option linter.unusedVariables false

theorem own : ownKnob Try.prog.godebug = none := by kernel_rfl
theorem laidOut : laidOutB Try.prog = true := by kernel_rfl

/-- WHAT THE WALK IS TOLD OF A SLICE OF INTEGERS THAT CAME IN: it is nil; or it leads to a row of 'cap' cells, the numbers 'zs' (the first 'len' are its elements, the rest its spare room), each fitting its kind. -/
def IsRow (k : IntKind) (w : World) (a : Option Addr) (len cap : Nat) (zs : List Int) : Prop :=
  (a = none ∧ len = 0 ∧ cap = 0 ∧ zs = []) ∨
  ∃ x, a = some x ∧ len ≤ cap ∧ cap ≤ 140737488351232 ∧ zs.length = cap ∧ (∀ i, i < zs.length → w.cell? (x.add i) = some (.int k (zs.getD i 0))) ∧ ∀ n ∈ zs, (Lit.int k n).wf = true


/-! ### STEP 1: THE WALK: the Go text returns true, AND WRITES NOTHING THAT WAS THERE: 'Below w.heap.size w w'' (Derived/Below.lean: '.refl', '.alloc', '.drew', '.setCell' at a new block, '.trans'). Open each 'IsRow' by 'rcases' AHEAD of 'go_enter'; part every test ahead of the walk. -/
set_option maxHeartbeats 3200000 in
set_option maxRecDepth 20000 in
theorem walk (a0 : Option Addr) (len0 cap0 : Nat) (z0 : List Int) (a1 : Option Addr) (len1 cap1 : Nat) (z1 : List Int) (w : World) (w0 : IsRow .u8 w a0 len0 cap0 z0) (w1 : IsRow .u8 w a1 len1 cap1 z1) :
    Calls Try.prog 4 #[.slice a0 len0 cap0, .slice a1 len1 cap1] w fun e w' => e = .returned (.bool true) ∧ Below w.heap.size w w' := by
  obtain ⟨f, hA⟩ := lk_of_row w a0 len0 cap0 z0 w0
  obtain ⟨h, hB⟩ := lk_of_row w a1 len1 cap1 z1 w1
  clear w0 w1
  obtain ⟨t1, H1⟩ : ∃ t, Hid (tlen f len0 = t) := ⟨_, rfl⟩
  obtain ⟨t2, H2⟩ : ∃ t, Hid (tlen h len1 = t) := ⟨_, rfl⟩
  have t1n : t1 ≤ len0 := by rw [← H1.out]; exact tlen_le _ _
  have t2n : t2 ≤ len1 := by rw [← H2.out]; exact tlen_le _ _
  have hn := hA.2.2.2
  have hm := hB.2.2.2
  by_cases hl : 512 < t1 ∨ 512 < t2
  · have L2 : Hid (512 < t1 ∨ 512 < t2) := hl
    by_cases hp : 512 < len0
    · clear hl
      go_enter Try.func4, Try.ntmps4
      go_wp2_with (first
        | (go_at_call 13; refine (pdivmod_long _ _ _ _ _ _ _ t1 t2 f h hA hB H1 H2 L2.out).mono ?_; rintro e w1 ⟨rfl, hb1⟩; have hw := hb1)
        | (go_at_call 11; refine (anchor_any _).mono ?_; rintro e w9 ⟨rfl, hb9⟩;  replace hw := two_below hw hb9))
      go_ret
      exact ⟨rfl, by assumption⟩
    · have hq : 512 < len1 := by omega
      clear hl
      go_enter Try.func4, Try.ntmps4
      go_wp2_with (first
        | (go_at_call 13; refine (pdivmod_long _ _ _ _ _ _ _ t1 t2 f h hA hB H1 H2 L2.out).mono ?_; rintro e w1 ⟨rfl, hb1⟩; have hw := hb1)
        | (go_at_call 11; refine (anchor_any _).mono ?_; rintro e w9 ⟨rfl, hb9⟩;  replace hw := two_below hw hb9))
      go_ret
      exact ⟨rfl, by assumption⟩
  · have l1 : t1 ≤ 512 := by omega
    have l2 : t2 ≤ 512 := by omega
    clear hl
    by_cases h0 : t2 = 0
    · subst h0
      by_cases hbig : 512 < len0 ∨ 512 < len1
      · by_cases hp : 512 < len0
        · clear hbig
          go_enter Try.func4, Try.ntmps4
          go_wp2_with (first
            | (go_at_call 13; refine (pdivmod_zero _ _ _ _ _ _ _ t1 f h hA hB H1 H2 l1).mono ?_; rintro e w1 ⟨rfl, hb1⟩; have hw := hb1)
            | (go_at_call 11; refine (anchor_any _).mono ?_; rintro e w9 ⟨rfl, hb9⟩;  replace hw := two_below hw hb9))
          go_ret
          exact ⟨rfl, by assumption⟩
        · have hq : 512 < len1 := by omega
          clear hbig
          go_enter Try.func4, Try.ntmps4
          go_wp2_with (first
            | (go_at_call 13; refine (pdivmod_zero _ _ _ _ _ _ _ t1 f h hA hB H1 H2 l1).mono ?_; rintro e w1 ⟨rfl, hb1⟩; have hw := hb1)
            | (go_at_call 11; refine (anchor_any _).mono ?_; rintro e w9 ⟨rfl, hb9⟩;  replace hw := two_below hw hb9))
          go_ret
          exact ⟨rfl, by assumption⟩
      · have hp : ¬ 512 < len0 := by omega
        have hq : ¬ 512 < len1 := by omega
        clear hbig
        go_enter Try.func4, Try.ntmps4
        go_wp2_with (first
          | (go_at_call 13; refine (pdivmod_zero _ _ _ _ _ _ _ t1 f h hA hB H1 H2 l1).mono ?_; rintro e w1 ⟨rfl, hb1⟩; replace hB := hB.later hb1; have hw := hb1)
          | (go_at_call 14; refine (degree_any _ _ _ _ 0 h hB H2).mono ?_; rintro e w' ⟨rfl, rfl⟩)
          | (go_at_call 11; refine (anchor_any _).mono ?_; rintro e w9 ⟨rfl, hb9⟩;  replace hw := two_below hw hb9))
        go_ret
        exact ⟨rfl, by assumption⟩
    · obtain ⟨u, rfl⟩ : ∃ u, t2 = u + 1 := ⟨t2 - 1, by omega⟩
      clear h0
      have gd : decide ((0 : Int) ≤ ((u + 1 : Nat) : Int) - 1) = true := by simp
      have gd2 : decide (((u + 1 : Nat) : Int) - 1 < 0) = false := by simp
      have gt : decide ((t1 : Int) ≤ 512) = true := by simp; omega
      have eu : ((u + 1 : Nat) : Int) - 1 = (u : Int) := by omega
      rw [eu] at gd gd2
      by_cases hbig : 512 < len0 ∨ 512 < len1
      · by_cases hp : 512 < len0
        · clear hbig
          go_enter Try.func4, Try.ntmps4
          go_wp2_with (first
            | (go_at_call 13; refine (pdivmod_any _ _ _ _ _ _ _ t1 u f h hA hB H1 H2 l1 l2).mono ?_; rintro e w1 ⟨Q, R, r, nq, s1, k1, s2, k2, rfl, hP⟩; have hb1 := hP.below; clear hP; replace hA := hA.later hb1; replace hB := hB.later hb1; have hw := hb1)
            | (go_at_call 15; refine (ptrim_lk _ _ _ _ t1 f hA H1).mono ?_; rintro e w3 ⟨s3, k3, rfl, _, hb3⟩; replace hB := hB.later hb3; replace hw := two_below hw hb3)
            | (go_at_call 14; refine (degree_any _ _ _ _ (u + 1) h hB H2).mono ?_; rw [eu]; rintro e w' ⟨rfl, rfl⟩)
            | (go_at_call 11; refine (anchor_any _).mono ?_; rintro e w9 ⟨rfl, hb9⟩; replace hA := hA.later hb9;replace hB := hB.later hb9; replace hw := two_below hw hb9))
          go_ret
          exact ⟨rfl, by assumption⟩
        · have hq : 512 < len1 := by omega
          clear hbig
          go_enter Try.func4, Try.ntmps4
          go_wp2_with (first
            | (go_at_call 13; refine (pdivmod_any _ _ _ _ _ _ _ t1 u f h hA hB H1 H2 l1 l2).mono ?_; rintro e w1 ⟨Q, R, r, nq, s1, k1, s2, k2, rfl, hP⟩; have hb1 := hP.below; clear hP; replace hA := hA.later hb1; replace hB := hB.later hb1; have hw := hb1)
            | (go_at_call 15; refine (ptrim_lk _ _ _ _ t1 f hA H1).mono ?_; rintro e w3 ⟨s3, k3, rfl, _, hb3⟩; replace hB := hB.later hb3; replace hw := two_below hw hb3)
            | (go_at_call 14; refine (degree_any _ _ _ _ (u + 1) h hB H2).mono ?_; rw [eu]; rintro e w' ⟨rfl, rfl⟩)
            | (go_at_call 11; refine (anchor_any _).mono ?_; rintro e w9 ⟨rfl, hb9⟩; replace hA := hA.later hb9;replace hB := hB.later hb9; replace hw := two_below hw hb9))
          go_ret
          exact ⟨rfl, by assumption⟩
      · have hp : ¬ 512 < len0 := by omega
        have hq : ¬ 512 < len1 := by omega
        clear hbig
        have HBh : Hid (∀ i, i < len1 → h i < 256) := hB.1.1
        have HBf : Hid (∀ i, i < t1 → f i < 256) := fun i hi => hA.1.1 i (by omega)
        have Haq : Hid (Above (u + 1) (zx h len1)) := fun i hi => by rw [← zx_tlen, H2.out]; exact if_neg (by omega)
        have Hq0 : Hid (zx h len1 u ≠ 0) := by
          have := tlen_top h len1 (by rw [H2.out]; omega)
          rw [H2.out] at this
          show ¬ _
          unfold zx
          rw [if_pos (by omega)]; exact this
        have HaP : Hid (Above t1 (zx f len0)) := fun i hi => by rw [← zx_tlen, H1.out]; exact if_neg (by omega)
        go_enter Try.func4, Try.ntmps4
        go_wp2_with (first
          | (go_at_call 13; refine (pdivmod_any _ _ _ _ _ _ _ t1 u f h hA hB H1 H2 l1 l2).mono ?_; rintro e w1 ⟨Q, R, r, nq, s1, k1, s2, k2, rfl, hP⟩; have HP : Hid (PDiv w w1 (zx f len0) (zx h len1) Q R (u + 1) r nq k1 k2 s1 s2) := hP; clear hP; replace hA := hA.later HP.out.below; replace hB := hB.later HP.out.below; have hw := HP.out.below)
          | (go_at_call 14; have _x := n4; refine (degree_any _ _ _ _ (u + 1) h hB H2).mono ?_; rw [eu]; rintro e w' ⟨rfl, rfl⟩)
          | (go_at_call 14; have _x := n3; refine (degree_any _ _ _ _ r R HLR.out HRt).mono ?_; rintro e w' ⟨rfl, rfl⟩; have n4 := l1)
          | (go_at_call 14; refine (degree_any _ _ _ _ (u + 1) h hB H2).mono ?_; rw [eu]; rintro e w' ⟨rfl, rfl⟩; have hq5 := pq_le HP.out; have hr5 := HP.out.ok.less; have HLQ : Hid (Lk w1 s1 nq k1 Q) := HP.out.quo.lk (fun i _ => HP.out.ok.el i) (by omega); have HLR : Hid (Lk w1 s2 r k2 R) := HP.out.rem.lk HP.out.ok.bytes (by omega); have HQt : Hid (tlen Q nq = nq) := HP.out.top; have HRt : Hid (tlen R r = r) := HP.out.ok.trimmed; have hfit := quo_fits HP.out.ok HP.out.top HP.out.above (zx_el HBh.out) Haq.out Hq0.out HaP.out; have gr : decide ((r : Int) - 1 < (u : Int)) = true := (by { simp; omega }); obtain ⟨T, HT⟩ : ∃ T, Hid (tlen (pm (zx Q nq) (zx h len1)) (nq + (u + 1)) = T) := ⟨_, rfl⟩; obtain ⟨M, HM⟩ : ∃ M, Hid (pm (zx Q nq) (zx h len1) = M) := ⟨_, rfl⟩; have HMl : Hid (∀ i, i < T → M i < 256) := (fun i _ => by { rw [← HM.out]; exact pm_lt _ (fun i _ => HP.out.ok.el i) i }); have hT5 : T ≤ nq + (u + 1) := (by { rw [← HT.out]; exact tlen_le _ _ }); have HMt : Hid (tlen M T = T) := (by { show _ = _; rw [← HM.out, ← HT.out, tlen_idem] }); have HSum : Hid (∀ i, pa (zx M T) (zx R r) i = zx f len0 i) := (fun i => by { rw [← HM.out]; exact back_sum (q := Q) HP.out.ok HP.out.above HT.out Haq.out rfl i }); have HS : Hid (tlen (pa (zx M T) (zx R r)) 512 = t1) := (by { show _ = _; rw [show pa (zx M T) (zx R r) = zx f len0 from funext HSum.out, tlen_zx f len0 512 (by omega), H1.out] }); have HSf : Hid (∀ i, i < t1 → pa (zx M T) (zx R r) i = f i) := (fun i hi => by { rw [HSum.out i]; exact if_pos (by omega) }); have hT51 : T ≤ 512 := (by { rcases hfit with hz | hz; (· have : T = 0 := (by { rw [← HT.out]; exact mul_len0 (.inl (by { rw [HP.out.top]; exact hz })) }); omega); (· by_cases hz0 : nq = 0; (· have : T = 0 := (by { rw [← HT.out]; exact mul_len0 (.inl (by { rw [HP.out.top]; exact hz0 })) }); omega); (· have : T + 1 ≤ nq + (u + 1) := (by { rw [← HT.out]; have := mul_len (f := Q) (h := h) (n := nq) (m := len1) (u := nq - 1) (v := u) (by { rw [HP.out.top]; omega }) H2.out (fun i _ => HP.out.ok.el i) HBh.out; rw [show nq - 1 + 1 + (u + 1) = nq + (u + 1) by omega] at this; omega }); omega)) }))
          | (go_at_call 9; refine (pmul_any _ _ _ _ _ _ _ nq (u + 1) T Q h HLQ.out hB HQt H2 hq5 l2 (by omega) HT).mono ?_; rintro e w3 ⟨s3, k3, rfl, ho3, hb3⟩; rw [HM.out] at ho3; have HL3 : Hid (Lk w3 s3 T k3 M) := ho3.lk HMl.out (by omega); clear ho3; replace HLR : Hid (Lk w3 s2 r k2 R) := HLR.out.later hb3; replace hA := hA.later hb3; replace hB := hB.later hb3; replace hw := two_below hw hb3)
          | (go_at_call 8; refine (padd_any _ _ _ _ _ _ _ T r t1 M R HL3.out HLR.out HMt HRt hT51 (by omega) HS).mono ?_; rintro e w4 ⟨s4, k4, rfl, ho4, hb4⟩; have hs4 := (ho4.cong HSf.out).sl HBf.out; clear ho4; replace HLR : Hid (Lk w4 s2 r k2 R) := HLR.out.later hb4; replace hA := hA.later hb4; replace hB := hB.later hb4; replace hw := two_below hw hb4; have n3 := l1)
          | (go_at_call 11; refine (anchor_any _).mono ?_; rintro e w9 ⟨rfl, hb9⟩; replace HLR : Hid (Lk w9 s2 r k2 R) := HLR.out.later hb9; replace hs4 := hs4.later hb9; replace hA := hA.later hb9; replace hB := hB.later hb9; replace hw := two_below hw hb9)
          | (go_at_call 15; refine (ptrim_lk _ _ _ _ t1 f hA H1).mono ?_; rintro e w5 ⟨s5, k5, rfl, ho5, hb5⟩; have hs5 := ho5.sl HBf.out; clear ho5; replace hs4 := hs4.later hb5; replace hw := two_below hw hb5)
          | (go_at_call 16; refine (same_at _ s4 s5 _ _ _ f hs4 hs5).mono ?_; rintro e w' ⟨rfl, rfl⟩))
        go_ret
        exact ⟨rfl, by assumption⟩

/-! ### THE ROW's STEP: WRITTEN OUT: LEAVE IT -/
set_option maxRecDepth 100000 in
theorem lifted (os : Os) (started : os.Started) (H : Type) (enc : TypeId × Value → H) :
    ReturnsInHanded {} Try.checked os 4 .any (Rows.polyDividesSpec.pre6 enc Try.prog Try.f4 Rows.polyDividesRow.domain false) (Rows.polyDividesSpec.post enc Try.prog Try.f4 false true false false) := by
  refine returnsInHanded_of_change_sized (C := Try.checked) own started (by kernel_rfl) Try.func4
    (ChangeSpec.witness6 (enc := enc) (C := Try.checked) false ⟨#[], #[.slice none 0 0, .slice none 0 0], []⟩ 8 (by kernel_rfl) (by kernel_rfl) (by kernel_rfl) (by kernel_rfl)) ?_
  intro W base args ds gs before hval0 hW hcnd hsz0 _
  have hsz : (DataW.weightsEach Try.prog (Try.f4.params.toList ++ Rows.polyDividesSpec.plain.varTypes Try.prog) (ds ++ gs)).all (· ≤ reachBytes) = true := hsz0
  clear hsz0
  have hval : ∀ (j : Nat) t v, Try.f4.params[j]? = some t → args[j]? = some v → Value.okWide Try.prog W .any base t v := hval0
  have hW' := hW
  obtain ⟨p, q, hA0, hV, rfl, hfz, hnd⟩ := hW
  have hA : DataW.TrodAll enc Try.prog W 0 (fun _ => true) true Try.f4.params.toList args.toList ds p := hA0
  rw [Try.params4] at hA hval hsz
  obtain ⟨v0, vs0, d0, ds0, p0, q0, hargs, rfl, rfl, h0, r0⟩ := trodAll_cons hA
  obtain ⟨v1, vs1, d1, ds1, p1, q1, rfl, rfl, rfl, h1, r1⟩ := trodAll_cons r0
  obtain ⟨rfl, rfl, rfl⟩ := trodAll_nil r1
  obtain rfl : args = #[v0, v1] := by cases args; simp_all
  obtain ⟨rfl, rfl⟩ := trodVars_none hV
  obtain ⟨a0, len0, cap0, rfl⟩ := okWide_slice Try.underlying22 (hval 0 22 v0 rfl rfl)
  have k0 := h0
  have lt0 : ∀ x ∈ p0, x.block < W.heap.size := by obtain ⟨m, hm⟩ := k0; exact DataW.trod_lt m _ _ _ hm
  obtain ⟨z0, w0⟩ : ∃ zs, IsRow .u8 W a0 len0 cap0 zs := by
    obtain ⟨fuel, hf⟩ := h0
    rcases open_ints Try.underlying22 Try.underlying5 (by kernel_rfl) hf with ⟨hcs, _⟩ | ⟨x, l, c, zs, hcs, _, hl, hm, hz, hxx, hcell, hwz⟩
    · simp [Value.cells] at hcs
      obtain ⟨rfl, rfl, rfl⟩ := hcs
      exact ⟨[], .inl ⟨rfl, rfl, rfl, rfl⟩⟩
    · simp [Value.cells] at hcs
      obtain ⟨rfl, rfl, rfl⟩ := hcs
      have hd := congrArg Prod.fst hxx
      have hs := sized_slice hsz (j := 0) (t := 22) (e := 5) rfl (congrArg some hd) Try.underlying22
      rw [show Try.prog.bytesOf 5 = 1 from by kernel_rfl] at hs
      have hzl : zs.length = cap0 := by simpa using hz
      simp only [lits, List.length_map, List.length_take, List.length_drop, reachBytes] at hs
      exact ⟨zs, .inr ⟨_, rfl, hl, by omega, by simpa using hz, hcell, hwz⟩⟩
  obtain ⟨a1, len1, cap1, rfl⟩ := okWide_slice Try.underlying22 (hval 1 22 v1 rfl rfl)
  have k1 := h1
  have lt1 : ∀ x ∈ p1, x.block < W.heap.size := by obtain ⟨m, hm⟩ := k1; exact DataW.trod_lt m _ _ _ hm
  obtain ⟨z1, w1⟩ : ∃ zs, IsRow .u8 W a1 len1 cap1 zs := by
    obtain ⟨fuel, hf⟩ := h1
    rcases open_ints Try.underlying22 Try.underlying5 (by kernel_rfl) hf with ⟨hcs, _⟩ | ⟨x, l, c, zs, hcs, _, hl, hm, hz, hxx, hcell, hwz⟩
    · simp [Value.cells] at hcs
      obtain ⟨rfl, rfl, rfl⟩ := hcs
      exact ⟨[], .inl ⟨rfl, rfl, rfl, rfl⟩⟩
    · simp [Value.cells] at hcs
      obtain ⟨rfl, rfl, rfl⟩ := hcs
      have hd := congrArg Prod.fst hxx
      have hs := sized_slice hsz (j := 1) (t := 22) (e := 5) rfl (congrArg some hd) Try.underlying22
      rw [show Try.prog.bytesOf 5 = 1 from by kernel_rfl] at hs
      have hzl : zs.length = cap1 := by simpa using hz
      simp only [lits, List.length_map, List.length_take, List.length_drop, reachBytes] at hs
      exact ⟨zs, .inr ⟨_, rfl, hl, by omega, by simpa using hz, hcell, hwz⟩⟩
  clear hA0 hval0
  refine (walk a0 len0 cap0 z0 a1 len1 cap1 z1 W w0 w1).mono fun e W' ⟨he, bel⟩ => ?_
  subst he
  exact ⟨_, rfl, _, _, _, [], _, [], hW', trodAll_mk1 (shut_bool Try.underlying4 _), (trodAll_cons_mk (Below.trod laidOut (by kernel_rfl) (of_decide_eq_true (by kernel_rfl)) k0 bel lt0) (trodAll_cons_mk (Below.trod laidOut (by kernel_rfl) (of_decide_eq_true (by kernel_rfl)) k1 bel lt1) trodAll_mk0)), rfl, bel.frame _, fun h => by cases h⟩

theorem over : Rows.polyDividesRow.holds Try.pinned (OpenSpec.ofChange Rows.polyDividesSpec) :=
  OpenClaim.holds_of_wide 4 Try.f4 rfl rfl rfl rfl rfl rfl rfl ⟨rfl, rfl, rfl, rfl, rfl⟩ rfl rfl rfl rfl rfl (by kernel_rfl) Try.func4 (by kernel_rfl)
    (of_decide_eq_true (by kernel_rfl)) (by unfold Func.isWrapper; first | (rw [if_pos (by decide +kernel)]; kernel_rfl) | (rw [if_neg (by decide +kernel)]; exact ⟨rfl, rfl⟩))
    (fun os started H enc _ => lifted os started H enc)

/-- ████ THE STATEMENT ████ -/
theorem proved : Rows.PolyDividesSaid := over
#print axioms proved
end Go.Proofs.Ythpjedoolbfjfab.polyDivides
