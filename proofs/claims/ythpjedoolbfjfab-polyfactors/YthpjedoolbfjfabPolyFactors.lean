/-
  Proved: for every list of at most 511 bytes the roots of its FromRoots are those that stand in it, each once and rising, and the degree is their number; for longer ones FromRoots fails (P2.3, P2.6); no condition.
-/
import Derived.Test.YthpjedoolbfjfabQo
import Derived.WalkKit
import Derived.SizedLaws
import Derived.ProofKit
import Derived.OpenShut
import Derived.ShutString
import Derived.ChangeOld
import Derived.Below
namespace Go.Proofs.Ythpjedoolbfjfab.polyFactors
open Go.ChangeShapes Go.WideShapes Go.ChangeAt Go.RowKit
open Go.ChangeMaps (open_string shut_string)
set_option linter.unusedVariables false

theorem own : ownKnob Try.prog.godebug = none := by kernel_rfl
theorem laidOut : laidOutB Try.prog = true := by kernel_rfl

/-- WHAT THE WALK IS TOLD OF A SLICE OF INTEGERS THAT CAME IN: it is nil; or it leads to a row of 'cap' cells, the numbers 'zs' (the first 'len' are its elements, the rest its spare room), each fitting its kind. -/
def IsRow (k : IntKind) (w : World) (a : Option Addr) (len cap : Nat) (zs : List Int) : Prop :=
  (a = none ∧ len = 0 ∧ cap = 0 ∧ zs = []) ∨
  ∃ x, a = some x ∧ len ≤ cap ∧ cap ≤ 140737488351232 ∧ zs.length = cap ∧ (∀ i, i < zs.length → w.cell? (x.add i) = some (.int k (zs.getD i 0))) ∧ ∀ n ∈ zs, (Lit.int k n).wf = true


/-! ### STEP 1: THE WALK: the Go text returns true, AND WRITES NOTHING THAT WAS THERE: 'Below w.heap.size w w'' (Derived/Below.lean: '.refl', '.alloc', '.drew', '.setCell' at a new block, '.trans'). Open each 'IsRow' by 'rcases' AHEAD of 'go_enter'; part every test ahead of the walk. -/
set_option maxHeartbeats 3200000 in
set_option maxRecDepth 20000 in
theorem walk (a0 : Option Addr) (len0 cap0 : Nat) (z0 : List Int) (w : World) (w0 : IsRow .u8 w a0 len0 cap0 z0) :
    Calls Try.prog 5 #[.slice a0 len0 cap0] w fun e w' => e = .returned (.bool true) ∧ Below w.heap.size w w' := by
  obtain ⟨f, hA⟩ := lk_of_row w a0 len0 cap0 z0 w0
  clear w0
  by_cases hn : len0 ≤ 511
  · obtain ⟨i0, hi, hz0, hz1, hz2⟩ := info_parts info8
    obtain ⟨zs, HZ⟩ : ∃ zs, Hid (zs = brow 256 fun _ => false) := ⟨_, rfl⟩
    have z : ∀ w, Sem.run Try.prog (zeroValue 36) w = .ok (.agg zs) w := by rw [HZ.out]; exact zero46
    have HVf : Hid (∀ i, i < len0 → f i < 256) := hA.1.1
    have HOK := fr_ok f len0
    have HVr : Hid (∀ i, i < len0 + 1 → fr f len0 i < 256) := fun i _ => HOK.1 i
    have HT : Hid (tlen (fr f len0) (len0 + 1) = len0 + 1) := tlen_of_top _ _ (by rw [HOK.2.2]; decide)
    obtain ⟨LL, HLL⟩ : ∃ l, Hid (inTo f len0 256 = l) := ⟨_, rfl⟩
    have HRo : Hid (rootsTo (fr f len0) (len0 + 1) 256 = LL) := (inTo_roots f len0 HVf.out).trans HLL.out
    have g1 : ((len0 + 1 : Nat) : Int) - 1 = (len0 : Int) := by omega
    clear HOK
    go_enter Try.func5, Try.ntmps5
    go_wp2_with (go_at_call 17; refine (fromroots_any _ _ _ _ f hA hn).mono ?_; rintro e w1 ⟨s1, k1, rfl, ho1, hb1⟩; have HL1 : Hid (Lk w1 s1 (len0 + 1) k1 (fr f len0)) := ho1.lk HVr.out (by omega); have HA1 : Hid (Lk w1 a0 len0 cap0 f) := hA.later hb1; have HB1 : Hid (Below w.heap.size w w1) := hb1; clear ho1 hb1)
    clear z hA
    go_loopw [6] (fun i wr => ∃ k : Nat, k ≤ len0 ∧ i = .int .i64 (k : Int) ∧ BAt wr w1.heap.size 36 256 (seenB f k) ∧ Below w1.heap.size w1 wr) (fun i _ => len0 - (intOf i).toNat)
    case atStart =>
      refine ⟨0, by omega, rfl, ?_, alloc_below _ _⟩
      unfold BAt
      rw [new_at, HZ.out]
      rfl
    case round =>
      obtain ⟨k, hk, rfl, hs, hbr⟩ := hrel
      by_cases hlt : k < len0
      · obtain ⟨ba, oa, ea, hca⟩ := (HA1.out.1.later hbr).2 k hlt
        obtain ⟨x, HX⟩ : ∃ x, Hid (f k = x) := ⟨_, rfl⟩
        rw [HX.out] at hca
        have hx : x < 256 := by rw [← HX.out]; exact HVf.out k hlt
        have hc := hs.cell x hx
        have hf := hs.free x
        have R : Hid (BAt (wr.setCell ⟨w1.heap.size, x, none⟩ (.bool true)) w1.heap.size 36 256 (seenB f (k + 1)) ∧ Below w1.heap.size w1 (wr.setCell ⟨w1.heap.size, x, none⟩ (.bool true))) := ⟨seen_step hs HX.out, hbr.setCell (Nat.le_refl _) _⟩
        clear hs hbr
        subst ea
        go_wp2
        exact ⟨⟨k + 1, by omega, by go_num, R.out.1, R.out.2⟩, by simp [intOf]; omega⟩
      · obtain rfl : k = len0 := by omega
        obtain ⟨wL, HW⟩ : ∃ v, Hid (v = wr) := ⟨_, rfl⟩
        obtain rfl := HW.out
        have HBT : Hid (BAt wL w1.heap.size 36 256 (seenB f k)) := hs
        have HBL : Hid (Below w1.heap.size w1 wL) := hbr
        have glt : w1.heap.size < wL.heap.size := lt_of_block hs
        clear hs hbr HW
        go_wp2
        go_loopw [7, 8] (fun v i wr => ∃ j : Nat, j ≤ 256 ∧ i = .int .i64 (j : Int) ∧ wr.ownsRow wL.heap.size 5 1 v (inTo f k j).length (bsl (inTo f k j)) ∧ BAt wr w1.heap.size 36 256 (seenB f k) ∧ Below wL.heap.size wL wr) (fun _ i _ => 256 - (intOf i).toNat)
        case atStart => exact ⟨0, by omega, rfl, by simpa [inTo, bsl] using World.ownsRow_nil _ _ _ _, HBT.out, Below.refl _ _⟩
        case round =>
          clear HBT
          obtain ⟨j, hj, rfl, hown, hs, hbr⟩ := hrel
          obtain ⟨l, HL⟩ : ∃ l, Hid (inTo f k j = l) := ⟨_, rfl⟩
          rw [HL.out] at hown
          have HO : Hid (wr.ownsRow wL.heap.size 5 1 u7 l.length (bsl l)) := hown
          have HB : Hid (Below wL.heap.size wL wr) := hbr
          have HS : Hid (BAt wr w1.heap.size 36 256 (seenB f k)) := hs
          by_cases hlt2 : j < 256
          · have hc := hs.cell j hlt2
            have hsz := hbr.size
            have hll : l.length ≤ j := by rw [← HL.out]; exact inTo_len f k j
            have hml : l.length + 1 ≤ maxLen := by unfold maxLen; omega
            clear hown hbr hs
            cases hb : seenB f k j with
            | true =>
              rw [hb] at hc
              have HN : Hid (inTo f k (j + 1) = l ++ [j]) := by show _ = _; rw [inTo_succ, HL.out, if_pos hb]
              clear hb
              go_wp2_with (at_builtin; refine wpList_append_own _ rfl _ _ 22 rfl wL.heap.size 5 i0 (.int .u8 0) 1 1 Try.underlying22 hi hz0 hz1 hz2 rfl (by decide) _ l.length _ rfl (HO.out.alloc _) ⟨wr.heap.size, 0, none⟩ 1 1 [.int .u8 (j : Int)] rfl rfl (one_new _ _ _) (one_one _) hml (by omega) (by simp; omega) ?_; intro v' w3 hown' hgrow' _; have HO3 : Hid (w3.ownsRow wL.heap.size 5 1 v' (l.length + 1) (bsl l ++ [.int .u8 (j : Int)])) := hown'; have HB3 : Hid (Below wL.heap.size wL w3) := grow_step HB.out HO.out hgrow' rfl; have HS3 : Hid (BAt w3 w1.heap.size 36 256 (seenB f k)) := (HS.out.later (alloc_below _ _)).kept hgrow' (own_ge HO.out glt); clear hown' hgrow')
              exact ⟨⟨j + 1, by omega, by go_num, by rw [HN.out]; simpa [bsl] using HO3.out, HS3.out, HB3.out⟩, by simp [intOf]; omega⟩
            | false =>
              rw [hb] at hc
              have HN : Hid (inTo f k (j + 1) = l) := by show _ = _; rw [inTo_succ, HL.out, if_neg (by rw [hb]; decide), List.append_nil]
              clear hb
              go_wp2
              exact ⟨⟨j + 1, by omega, by go_num, by rw [HN.out]; exact HO.out, HS.out, HB.out⟩, by simp [intOf]; omega⟩
          · obtain rfl : j = 256 := by omega
            have hlen : l.length ≤ 256 := by rw [← HL.out]; exact inTo_len f k 256
            have hel : ∀ x ∈ l, x < 256 := by
              rw [← HL.out]; intro x hx
              unfold inTo at hx
              rw [List.mem_filter] at hx
              simpa using hx.1
            obtain ⟨s2, k2, e3, hs2, _⟩ := lk_list hown hel (by omega)
            subst e3
            obtain rfl : l = LL := HL.out.symm.trans HLL.out
            have hs2' := hs2.1
            have hb0 : Below w1.heap.size w1 wr := two_below HBL.out HB.out
            have hL := HL1.out.later hb0
            have hw := two_below HB1.out hb0
            clear hown hbr hs hs2 hb0
            go_wp2_with (first
              | (go_at_call 11; refine (anchor_any _).mono ?_; rintro e w5 ⟨rfl, hb5⟩; replace hL := hL.later hb5; replace hs2' := hs2'.later hb5; replace hw := two_below hw hb5)
              | (go_at_call 14; refine (degree_any _ _ _ _ (k + 1) _ hL HT).mono ?_; rw [g1]; rintro e w' ⟨rfl, rfl⟩)
              | (go_at_call 18; refine (proots_list _ _ _ _ (k + 1) _ l hL HT (by omega) HRo).mono ?_; rintro e w6 ⟨s6, k6, rfl, hs6, hb6⟩; replace hs2' := hs2'.later hb6; replace hw := two_below hw hb6)
              | (go_at_call 16; refine (same_at _ s6 s2 _ _ _ _ hs6 hs2').mono ?_; rintro e w' ⟨rfl, rfl⟩))
            go_ret
            exact ⟨rfl, by assumption⟩
  · replace hn : 511 < len0 := by omega
    have hw := Below.refl w.heap.size w
    go_enter Try.func5, Try.ntmps5
    go_wp2_with (first
      | (go_at_call 17; refine (fromroots_long _ _ _ _ hn).mono ?_; rintro e w' ⟨rfl, rfl⟩)
      | (go_at_call 11; refine (anchor_any _).mono ?_; rintro e w5 ⟨rfl, hb5⟩; replace hw := two_below hw hb5))
    go_ret
    exact ⟨rfl, by assumption⟩

/-! ### THE ROW's STEP: WRITTEN OUT: LEAVE IT -/
set_option maxRecDepth 100000 in
theorem lifted (os : Os) (started : os.Started) (H : Type) (enc : TypeId × Value → H) :
    ReturnsInHanded {} Try.checked os 5 .any (Rows.polyFactorsSpec.pre6 enc Try.prog Try.f5 Rows.polyFactorsRow.domain false) (Rows.polyFactorsSpec.post enc Try.prog Try.f5 false true false false) := by
  refine returnsInHanded_of_change_sized (C := Try.checked) own started (by kernel_rfl) Try.func5
    (ChangeSpec.witness6 (enc := enc) (C := Try.checked) false ⟨#[], #[.slice none 0 0], []⟩ 8 (by kernel_rfl) (by kernel_rfl) (by kernel_rfl) (by kernel_rfl)) ?_
  intro W base args ds gs before hval0 hW hcnd hsz0 _
  have hsz : (DataW.weightsEach Try.prog (Try.f5.params.toList ++ Rows.polyFactorsSpec.plain.varTypes Try.prog) (ds ++ gs)).all (· ≤ reachBytes) = true := hsz0
  clear hsz0
  have hval : ∀ (j : Nat) t v, Try.f5.params[j]? = some t → args[j]? = some v → Value.okWide Try.prog W .any base t v := hval0
  have hW' := hW
  obtain ⟨p, q, hA0, hV, rfl, hfz, hnd⟩ := hW
  have hA : DataW.TrodAll enc Try.prog W 0 (fun _ => true) true Try.f5.params.toList args.toList ds p := hA0
  rw [Try.params5] at hA hval hsz
  obtain ⟨v0, vs0, d0, ds0, p0, q0, hargs, rfl, rfl, h0, r0⟩ := trodAll_cons hA
  obtain ⟨rfl, rfl, rfl⟩ := trodAll_nil r0
  obtain rfl : args = #[v0] := by cases args; simp_all
  obtain ⟨rfl, rfl⟩ := trodVars_none hV
  obtain ⟨a0, len0, cap0, rfl⟩ := okWide_slice Try.underlying22 (hval 0 22 v0 rfl rfl)
  have k0 := h0
  have lt0 : ∀ x ∈ p0, x.block < W.heap.size := by obtain ⟨m, hm⟩ := k0; exact DataW.trod_lt m _ _ _ hm
  obtain ⟨z0, w0⟩ : ∃ zs, IsRow .u8 W a0 len0 cap0 zs := by
    obtain ⟨fuel, hf⟩ := h0
    rcases open_ints Try.underlying22 Try.underlying5 (by kernel_rfl) hf with ⟨hcs, _⟩ | ⟨x, l, c, zs, hcs, _, hl, hm, hz, hxx, hcell, hwz⟩
    · simp [Value.cells] at hcs
      obtain ⟨rfl, rfl, rfl⟩ := hcs
      exact ⟨[], .inl ⟨rfl, rfl, rfl, rfl⟩⟩
    · simp [Value.cells] at hcs
      obtain ⟨rfl, rfl, rfl⟩ := hcs
      have hd := congrArg Prod.fst hxx
      have hs := sized_slice hsz (j := 0) (t := 22) (e := 5) rfl (congrArg some hd) Try.underlying22
      rw [show Try.prog.bytesOf 5 = 1 from by kernel_rfl] at hs
      have hzl : zs.length = cap0 := by simpa using hz
      simp only [lits, List.length_map, List.length_take, List.length_drop, reachBytes] at hs
      exact ⟨zs, .inr ⟨_, rfl, hl, by omega, by simpa using hz, hcell, hwz⟩⟩
  clear hA0 hval0
  refine (walk a0 len0 cap0 z0 W w0).mono fun e W' ⟨he, bel⟩ => ?_
  subst he
  exact ⟨_, rfl, _, _, _, [], _, [], hW', trodAll_mk1 (shut_bool Try.underlying4 _), (trodAll_cons_mk (Below.trod laidOut (by kernel_rfl) (of_decide_eq_true (by kernel_rfl)) k0 bel lt0) trodAll_mk0), rfl, bel.frame _, fun h => by cases h⟩

theorem over : Rows.polyFactorsRow.holds Try.pinned (OpenSpec.ofChange Rows.polyFactorsSpec) :=
  OpenClaim.holds_of_wide 5 Try.f5 rfl rfl rfl rfl rfl rfl rfl ⟨rfl, rfl, rfl, rfl, rfl⟩ rfl rfl rfl rfl rfl (by kernel_rfl) Try.func5 (by kernel_rfl)
    (of_decide_eq_true (by kernel_rfl)) (by unfold Func.isWrapper; first | (rw [if_pos (by decide +kernel)]; kernel_rfl) | (rw [if_neg (by decide +kernel)]; exact ⟨rfl, rfl⟩))
    (fun os started H enc _ => lifted os started H enc)

/-- ████ THE STATEMENT ████ -/
theorem proved : Rows.PolyFactorsSaid := over
#print axioms proved
end Go.Proofs.Ythpjedoolbfjfab.polyFactors
