/-
  Proved: for all lists p, q and c of bytes: the greatest common divisor of p times c and q times c is 0 only if both are, else has the highest coefficient 1, divides both and is divided by c; where a product fails the lists are long (P2.5); no condition.
-/
import Derived.Test.YthpjedoolbfjfabQo
import Derived.Deep.Cut
import Derived.WalkKit
import Derived.SizedLaws
import Derived.ProofKit
import Derived.OpenShut
import Derived.ShutString
import Derived.ChangeOld
import Derived.Below
namespace Go.Proofs.Ythpjedoolbfjfab.polyCommon
open Go.ChangeShapes Go.WideShapes Go.ChangeAt Go.RowKit
open Go.ChangeMaps (open_string shut_string)
set_option linter.unusedVariables false

theorem own : ownKnob Try.prog.godebug = none := by kernel_rfl
theorem laidOut : laidOutB Try.prog = true := by kernel_rfl

/-- WHAT THE WALK IS TOLD OF A SLICE OF INTEGERS THAT CAME IN: it is nil; or it leads to a row of 'cap' cells, the numbers 'zs' (the first 'len' are its elements, the rest its spare room), each fitting its kind. -/
def IsRow (k : IntKind) (w : World) (a : Option Addr) (len cap : Nat) (zs : List Int) : Prop :=
  (a = none ∧ len = 0 ∧ cap = 0 ∧ zs = []) ∨
  ∃ x, a = some x ∧ len ≤ cap ∧ cap ≤ 140737488351232 ∧ zs.length = cap ∧ (∀ i, i < zs.length → w.cell? (x.add i) = some (.int k (zs.getD i 0))) ∧ ∀ n ∈ zs, (Lit.int k n).wf = true


/-! ### STEP 1: THE WALK: the Go text returns true, AND WRITES NOTHING THAT WAS THERE: 'Below w.heap.size w w'' (Derived/Below.lean: '.refl', '.alloc', '.drew', '.setCell' at a new block, '.trans'). Open each 'IsRow' by 'rcases' AHEAD of 'go_enter'; part every test ahead of the walk. -/
set_option maxHeartbeats 6400000 in
set_option maxRecDepth 20000 in
theorem walk (a0 : Option Addr) (len0 cap0 : Nat) (z0 : List Int) (a1 : Option Addr) (len1 cap1 : Nat) (z1 : List Int) (a2 : Option Addr) (len2 cap2 : Nat) (z2 : List Int) (w : World) (w0 : IsRow .u8 w a0 len0 cap0 z0) (w1 : IsRow .u8 w a1 len1 cap1 z1) (w2 : IsRow .u8 w a2 len2 cap2 z2) :
    Calls Try.prog 6 #[.slice a0 len0 cap0, .slice a1 len1 cap1, .slice a2 len2 cap2] w fun e w' => e = .returned (.bool true) ∧ Below w.heap.size w w' := by
  obtain ⟨f, hA⟩ := lk_of_row w a0 len0 cap0 z0 w0
  obtain ⟨h, hB⟩ := lk_of_row w a1 len1 cap1 z1 w1
  obtain ⟨c, hC⟩ := lk_of_row w a2 len2 cap2 z2 w2
  clear w0 w1 w2
  obtain ⟨t0, H0⟩ : ∃ t, Hid (tlen f len0 = t) := ⟨_, rfl⟩
  obtain ⟨t1, H1⟩ : ∃ t, Hid (tlen h len1 = t) := ⟨_, rfl⟩
  obtain ⟨t2, H2⟩ : ∃ t, Hid (tlen c len2 = t) := ⟨_, rfl⟩
  have t0n : t0 ≤ len0 := by rw [← H0.out]; exact tlen_le _ _
  have t1n : t1 ≤ len1 := by rw [← H1.out]; exact tlen_le _ _
  have t2n : t2 ≤ len2 := by rw [← H2.out]; exact tlen_le _ _
  have hn0 := hA.2.2.2
  have hn1 := hB.2.2.2
  have hn2 := hC.2.2.2
  have g2 : IntKind.i64.wrap ((len0 : Int) + (len2 : Int)) = (len0 : Int) + (len2 : Int) := by rw [IntKind.wrap_i64]; omega
  have g3 : IntKind.i64.wrap ((len1 : Int) + (len2 : Int)) = (len1 : Int) + (len2 : Int) := by rw [IntKind.wrap_i64]; omega
  by_cases bad0 : 512 < t0 ∨ 512 < t2 ∨ (0 < t0 ∧ 0 < t2 ∧ 513 < t0 + t2)
  · have B0 : Hid (512 < t0 ∨ 512 < t2 ∨ (0 < t0 ∧ 0 < t2 ∧ 513 < t0 + t2)) := bad0
    have g1 : decide ((512 : Int) < (len0 : Int) + (len2 : Int)) = true := by simp; omega
    clear bad0
    go_enter Try.func6, Try.ntmps6
    go_wp2_with (first
      | (go_at_call 9; have _x := n1; refine (pmul_all _ _ _ _ _ _ _ h c hB hC).mono ?_; rintro e w2 ⟨s2, T2, k2, r2, rfl, hb2⟩; replace hw := two_below hw hb2)
      | (go_at_call 9; refine (pmul_bad _ _ _ _ _ _ _ t0 t2 f c hA hC H0 H2 B0.out).mono ?_; rintro e w1 ⟨rfl, hb1⟩; replace hB := hB.later hb1; replace hC := hC.later hb1; have hw := hb1; have n1 := t0n)
      | (go_at_call 11;  refine (anchor_any _).mono ?_; rintro e w9 ⟨rfl, hb9⟩;  replace hw := two_below hw hb9))
    go_ret
    exact ⟨rfl, by assumption⟩
  · have ok0 : t0 = 0 ∨ t2 = 0 ∨ t0 + t2 ≤ 513 := by omega
    have OK0 : Hid (t0 = 0 ∨ t2 = 0 ∨ t0 + t2 ≤ 513) := ok0
    have l0 : t0 ≤ 512 := by omega
    have l2 : t2 ≤ 512 := by omega
    obtain ⟨TA, HTA⟩ : ∃ T, Hid (tlen (pm (zx f len0) (zx c len2)) (t0 + t2) = T) := ⟨_, rfl⟩
    obtain ⟨A, HA⟩ : ∃ A, Hid (pm (zx f len0) (zx c len2) = A) := ⟨_, rfl⟩
    have VA : Hid (∀ i, i < TA → A i < 256) := fun i _ => by rw [← HA.out]; exact pm_lt _ hA.1.1 i
    have lA : TA ≤ 512 := mul_le H0.out H2.out hA.1.1 hC.1.1 ok0 HTA.out
    have IA : Hid (tlen A TA = TA) := by show _ = _; rw [← HA.out, ← HTA.out, tlen_idem]
    have DA : Hid (Dv (zx c len2) (zx A TA)) := by have := mul_dv H0.out H2.out hA.1.1 hC.1.1 HTA.out; rw [HA.out] at this; exact this
    clear ok0 bad0
    by_cases bad1 : 512 < t1 ∨ 512 < t2 ∨ (0 < t1 ∧ 0 < t2 ∧ 513 < t1 + t2)
    · have B1 : Hid (512 < t1 ∨ 512 < t2 ∨ (0 < t1 ∧ 0 < t2 ∧ 513 < t1 + t2)) := bad1
      have g1 : decide ((512 : Int) < (len1 : Int) + (len2 : Int)) = true := by simp; omega
      clear bad1
      by_cases hq : 512 < len0 + len2
      · have g4 : decide ((512 : Int) < (len0 : Int) + (len2 : Int)) = true := by simp; omega
        go_enter Try.func6, Try.ntmps6
        go_wp2_with (first
          | (go_at_call 9; have _x := n1; refine (pmul_bad _ _ _ _ _ _ _ t1 t2 h c hB hC H1 H2 B1.out).mono ?_; rintro e w2 ⟨rfl, hb2⟩; replace hw := two_below hw hb2)
          | (go_at_call 9; refine (pmul_any _ _ _ _ _ _ _ t0 t2 TA f c hA hC H0 H2 l0 l2 OK0.out HTA).mono ?_; rintro e w1 ⟨s1, k1, rfl, _, hb1⟩; replace hB := hB.later hb1; replace hC := hC.later hb1; have hw := hb1; have n1 := t0n)
          | (go_at_call 11;  refine (anchor_any _).mono ?_; rintro e w9 ⟨rfl, hb9⟩;  replace hw := two_below hw hb9))
        go_ret
        exact ⟨rfl, by assumption⟩
      · have g4 : decide ((512 : Int) < (len0 : Int) + (len2 : Int)) = false := by simp; omega
        go_enter Try.func6, Try.ntmps6
        go_wp2_with (first
          | (go_at_call 9; have _x := n1; refine (pmul_bad _ _ _ _ _ _ _ t1 t2 h c hB hC H1 H2 B1.out).mono ?_; rintro e w2 ⟨rfl, hb2⟩; replace hw := two_below hw hb2)
          | (go_at_call 9; refine (pmul_any _ _ _ _ _ _ _ t0 t2 TA f c hA hC H0 H2 l0 l2 OK0.out HTA).mono ?_; rintro e w1 ⟨s1, k1, rfl, _, hb1⟩; replace hB := hB.later hb1; replace hC := hC.later hb1; have hw := hb1; have n1 := t0n)
          | (go_at_call 11;  refine (anchor_any _).mono ?_; rintro e w9 ⟨rfl, hb9⟩;  replace hw := two_below hw hb9))
        go_ret
        exact ⟨rfl, by assumption⟩
    · have ok1 : t1 = 0 ∨ t2 = 0 ∨ t1 + t2 ≤ 513 := by omega
      have OK1 : Hid (t1 = 0 ∨ t2 = 0 ∨ t1 + t2 ≤ 513) := ok1
      have l1 : t1 ≤ 512 := by omega
      obtain ⟨TB, HTB⟩ : ∃ T, Hid (tlen (pm (zx h len1) (zx c len2)) (t1 + t2) = T) := ⟨_, rfl⟩
      obtain ⟨B, HB⟩ : ∃ A, Hid (pm (zx h len1) (zx c len2) = A) := ⟨_, rfl⟩
      have VB : Hid (∀ i, i < TB → B i < 256) := fun i _ => by rw [← HB.out]; exact pm_lt _ hB.1.1 i
      have lB : TB ≤ 512 := mul_le H1.out H2.out hB.1.1 hC.1.1 ok1 HTB.out
      have IB : Hid (tlen B TB = TB) := by show _ = _; rw [← HB.out, ← HTB.out, tlen_idem]
      have DB : Hid (Dv (zx c len2) (zx B TB)) := by have := mul_dv H1.out H2.out hB.1.1 hC.1.1 HTB.out; rw [HB.out] at this; exact this
      have VC : Hid (El (zx c len2)) := zx_el hC.1.1
      clear ok1 bad1
      go_enter Try.func6, Try.ntmps6
      go_upto_region 6 with (first
        | (go_at_call 9; have _x := n1; refine (pmul_any _ _ _ _ _ _ _ t1 t2 TB h c hB hC H1 H2 l1 l2 OK1.out HTB).mono ?_; rintro e w2 ⟨s2, k2, rfl, ho2, hb2⟩; rw [HB.out] at ho2; have hb := ho2.lk VB.out (by omega); clear ho2; replace ha := ha.later hb2; replace hC := hC.later hb2; replace hw := two_below hw hb2)
        | (go_at_call 9; refine (pmul_any _ _ _ _ _ _ _ t0 t2 TA f c hA hC H0 H2 l0 l2 OK0.out HTA).mono ?_; rintro e w1 ⟨s1, k1, rfl, ho1, hb1⟩; rw [HA.out] at ho1; have ha := ho1.lk VA.out (by omega); clear ho1; replace hB := hB.later hb1; replace hC := hC.later hb1; have hw := hb1; have n1 := t0n)
        | (go_at_call 19; refine (pgcd_any _ _ _ _ _ _ _ TA TB A B ha hb IA IB lA lB).mono ?_; rintro e w3 ⟨D, g, s3, k3, rfl, ho3, hd3, hk3, hg3, hb3⟩; have HD : Hid (Lk w3 s3 g k3 D) := ho3.lk hd3 (by omega); have HK : Hid (GcdOk (zx A TA) (zx B TB) (zx D g) g) := hk3; clear ho3 hd3 hk3; replace ha := ha.later hb3; replace hb := hb.later hb3; replace hC := hC.later hb3; replace hw := two_below hw hb3))
      by_cases h0 : g = 0
      · subst h0
        obtain rfl : TA = 0 := zero_len IA.out (HK.out.zero rfl).1
        obtain rfl : TB = 0 := zero_len IB.out (HK.out.zero rfl).2
        have hd := HD.out
        have HT0 : Hid (tlen D 0 = 0) := rfl
        have g5 : decide ((0 : Int) < 0) = false := by decide
        go_wp2_with (first
          | (go_at_call 14; refine (degree_any _ _ _ _ 0 D hd HT0).mono ?_; rintro e w' ⟨rfl, rfl⟩)
          | (go_at_call 11;  refine (anchor_any _).mono ?_; rintro e w9 ⟨rfl, hb9⟩;  replace hw := two_below hw hb9))
        go_ret
        exact ⟨rfl, by assumption⟩
      · obtain ⟨v, rfl⟩ : ∃ v, g = v + 1 := ⟨g - 1, by omega⟩
        have D1 : D v = 1 := by
          have := HK.out.top (by omega)
          rw [show v + 1 - 1 = v by omega] at this
          unfold zx at this
          rw [if_pos (by omega)] at this
          exact this
        have HTD : Hid (tlen D (v + 1) = v + 1) := tlen_of_top _ _ (by rw [D1]; decide)
        obtain ⟨bd, od, ed, hcd⟩ := HD.out.1.2 v (by omega)
        rw [D1] at hcd
        subst ed
        have hd := HD.out
        have g6 : ((v + 1 : Nat) : Int) - 1 = (v : Int) := by omega
        clear h0
        by_cases hc0 : t2 = 0
        · subst hc0
          go_wp2_with (first
            | (go_at_call 14; have _x := n6; refine (degree_any _ _ _ _ 0 c hC H2).mono ?_; rintro e w' ⟨rfl, rfl⟩)
            | (go_at_call 14; refine (degree_any _ _ _ _ (v + 1) D hd HTD).mono ?_; rw [g6]; rintro e w' ⟨rfl, rfl⟩; have n6 := l0)
            | (go_at_call 13; have _x := n7; refine (pdiv_exact _ _ _ _ _ _ _ TB v B D hb hd IB HTD lB hg3 HK.out.right).mono ?_; rintro e w5 ⟨nq5, s5, k5, p5, q5, rfl, hb5⟩; replace hC := hC.later hb5; replace hw := two_below hw hb5)
            | (go_at_call 13; refine (pdiv_exact _ _ _ _ _ _ _ TA v A D ha hd IA HTD lA hg3 HK.out.left).mono ?_; rintro e w4 ⟨nq4, s4, k4, p4, q4, rfl, hb4⟩; replace hb := hb.later hb4; replace hd := hd.later hb4; replace hC := hC.later hb4; replace hw := two_below hw hb4; have n7 := l0)
            | (go_at_call 11;  refine (anchor_any _).mono ?_; rintro e w9 ⟨rfl, hb9⟩; replace hC := hC.later hb9;  replace hw := two_below hw hb9))
          go_ret
          exact ⟨rfl, by assumption⟩
        · obtain ⟨u, rfl⟩ : ∃ u, t2 = u + 1 := ⟨t2 - 1, by omega⟩
          have g7 : ((u + 1 : Nat) : Int) - 1 = (u : Int) := by omega
          have HCD : Hid (Dv (zx c len2) (zx D (v + 1))) := HK.out.most _ VC.out DA.out DB.out
          clear hc0
          go_wp2_with (first
            | (go_at_call 14; have _x := n6; refine (degree_any _ _ _ _ (u + 1) c hC H2).mono ?_; rw [g7]; rintro e w' ⟨rfl, rfl⟩; have n8 := l0)
            | (go_at_call 14; refine (degree_any _ _ _ _ (v + 1) D hd HTD).mono ?_; rw [g6]; rintro e w' ⟨rfl, rfl⟩; have n6 := l0)
            | (go_at_call 13; have _x := n8; refine (pdiv_exact _ _ _ _ _ _ _ (v + 1) u D c hd hC HTD H2 hg3 l2 HCD.out).mono ?_; rintro e w6 ⟨nq6, s6, k6, p6, q6, rfl, hb6⟩; replace hw := two_below hw hb6)
            | (go_at_call 13; have _x := n7; refine (pdiv_exact _ _ _ _ _ _ _ TB v B D hb hd IB HTD lB hg3 HK.out.right).mono ?_; rintro e w5 ⟨nq5, s5, k5, p5, q5, rfl, hb5⟩; replace hd := hd.later hb5; replace hC := hC.later hb5; replace hw := two_below hw hb5)
            | (go_at_call 13; refine (pdiv_exact _ _ _ _ _ _ _ TA v A D ha hd IA HTD lA hg3 HK.out.left).mono ?_; rintro e w4 ⟨nq4, s4, k4, p4, q4, rfl, hb4⟩; replace hb := hb.later hb4; replace hd := hd.later hb4; replace hC := hC.later hb4; replace hw := two_below hw hb4; have n7 := l0)
            | (go_at_call 11;  refine (anchor_any _).mono ?_; rintro e w9 ⟨rfl, hb9⟩; replace hd := hd.later hb9; replace hC := hC.later hb9;  replace hw := two_below hw hb9))
          go_ret
          exact ⟨rfl, by assumption⟩

/-! ### THE ROW's STEP: WRITTEN OUT: LEAVE IT -/
set_option maxRecDepth 100000 in
theorem lifted (os : Os) (started : os.Started) (H : Type) (enc : TypeId × Value → H) :
    ReturnsInHanded {} Try.checked os 6 .any (Rows.polyCommonSpec.pre6 enc Try.prog Try.f6 Rows.polyCommonRow.domain false) (Rows.polyCommonSpec.post enc Try.prog Try.f6 false true false false) := by
  refine returnsInHanded_of_change_sized (C := Try.checked) own started (by kernel_rfl) Try.func6
    (ChangeSpec.witness6 (enc := enc) (C := Try.checked) false ⟨#[], #[.slice none 0 0, .slice none 0 0, .slice none 0 0], []⟩ 8 (by kernel_rfl) (by kernel_rfl) (by kernel_rfl) (by kernel_rfl)) ?_
  intro W base args ds gs before hval0 hW hcnd hsz0 _
  have hsz : (DataW.weightsEach Try.prog (Try.f6.params.toList ++ Rows.polyCommonSpec.plain.varTypes Try.prog) (ds ++ gs)).all (· ≤ reachBytes) = true := hsz0
  clear hsz0
  have hval : ∀ (j : Nat) t v, Try.f6.params[j]? = some t → args[j]? = some v → Value.okWide Try.prog W .any base t v := hval0
  have hW' := hW
  obtain ⟨p, q, hA0, hV, rfl, hfz, hnd⟩ := hW
  have hA : DataW.TrodAll enc Try.prog W 0 (fun _ => true) true Try.f6.params.toList args.toList ds p := hA0
  rw [Try.params6] at hA hval hsz
  obtain ⟨v0, vs0, d0, ds0, p0, q0, hargs, rfl, rfl, h0, r0⟩ := trodAll_cons hA
  obtain ⟨v1, vs1, d1, ds1, p1, q1, rfl, rfl, rfl, h1, r1⟩ := trodAll_cons r0
  obtain ⟨v2, vs2, d2, ds2, p2, q2, rfl, rfl, rfl, h2, r2⟩ := trodAll_cons r1
  obtain ⟨rfl, rfl, rfl⟩ := trodAll_nil r2
  obtain rfl : args = #[v0, v1, v2] := by cases args; simp_all
  obtain ⟨rfl, rfl⟩ := trodVars_none hV
  obtain ⟨a0, len0, cap0, rfl⟩ := okWide_slice Try.underlying22 (hval 0 22 v0 rfl rfl)
  have k0 := h0
  have lt0 : ∀ x ∈ p0, x.block < W.heap.size := by obtain ⟨m, hm⟩ := k0; exact DataW.trod_lt m _ _ _ hm
  obtain ⟨z0, w0⟩ : ∃ zs, IsRow .u8 W a0 len0 cap0 zs := by
    obtain ⟨fuel, hf⟩ := h0
    rcases open_ints Try.underlying22 Try.underlying5 (by kernel_rfl) hf with ⟨hcs, _⟩ | ⟨x, l, c, zs, hcs, _, hl, hm, hz, hxx, hcell, hwz⟩
    · simp [Value.cells] at hcs
      obtain ⟨rfl, rfl, rfl⟩ := hcs
      exact ⟨[], .inl ⟨rfl, rfl, rfl, rfl⟩⟩
    · simp [Value.cells] at hcs
      obtain ⟨rfl, rfl, rfl⟩ := hcs
      have hd := congrArg Prod.fst hxx
      have hs := sized_slice hsz (j := 0) (t := 22) (e := 5) rfl (congrArg some hd) Try.underlying22
      rw [show Try.prog.bytesOf 5 = 1 from by kernel_rfl] at hs
      have hzl : zs.length = cap0 := by simpa using hz
      simp only [lits, List.length_map, List.length_take, List.length_drop, reachBytes] at hs
      exact ⟨zs, .inr ⟨_, rfl, hl, by omega, by simpa using hz, hcell, hwz⟩⟩
  obtain ⟨a1, len1, cap1, rfl⟩ := okWide_slice Try.underlying22 (hval 1 22 v1 rfl rfl)
  have k1 := h1
  have lt1 : ∀ x ∈ p1, x.block < W.heap.size := by obtain ⟨m, hm⟩ := k1; exact DataW.trod_lt m _ _ _ hm
  obtain ⟨z1, w1⟩ : ∃ zs, IsRow .u8 W a1 len1 cap1 zs := by
    obtain ⟨fuel, hf⟩ := h1
    rcases open_ints Try.underlying22 Try.underlying5 (by kernel_rfl) hf with ⟨hcs, _⟩ | ⟨x, l, c, zs, hcs, _, hl, hm, hz, hxx, hcell, hwz⟩
    · simp [Value.cells] at hcs
      obtain ⟨rfl, rfl, rfl⟩ := hcs
      exact ⟨[], .inl ⟨rfl, rfl, rfl, rfl⟩⟩
    · simp [Value.cells] at hcs
      obtain ⟨rfl, rfl, rfl⟩ := hcs
      have hd := congrArg Prod.fst hxx
      have hs := sized_slice hsz (j := 1) (t := 22) (e := 5) rfl (congrArg some hd) Try.underlying22
      rw [show Try.prog.bytesOf 5 = 1 from by kernel_rfl] at hs
      have hzl : zs.length = cap1 := by simpa using hz
      simp only [lits, List.length_map, List.length_take, List.length_drop, reachBytes] at hs
      exact ⟨zs, .inr ⟨_, rfl, hl, by omega, by simpa using hz, hcell, hwz⟩⟩
  obtain ⟨a2, len2, cap2, rfl⟩ := okWide_slice Try.underlying22 (hval 2 22 v2 rfl rfl)
  have k2 := h2
  have lt2 : ∀ x ∈ p2, x.block < W.heap.size := by obtain ⟨m, hm⟩ := k2; exact DataW.trod_lt m _ _ _ hm
  obtain ⟨z2, w2⟩ : ∃ zs, IsRow .u8 W a2 len2 cap2 zs := by
    obtain ⟨fuel, hf⟩ := h2
    rcases open_ints Try.underlying22 Try.underlying5 (by kernel_rfl) hf with ⟨hcs, _⟩ | ⟨x, l, c, zs, hcs, _, hl, hm, hz, hxx, hcell, hwz⟩
    · simp [Value.cells] at hcs
      obtain ⟨rfl, rfl, rfl⟩ := hcs
      exact ⟨[], .inl ⟨rfl, rfl, rfl, rfl⟩⟩
    · simp [Value.cells] at hcs
      obtain ⟨rfl, rfl, rfl⟩ := hcs
      have hd := congrArg Prod.fst hxx
      have hs := sized_slice hsz (j := 2) (t := 22) (e := 5) rfl (congrArg some hd) Try.underlying22
      rw [show Try.prog.bytesOf 5 = 1 from by kernel_rfl] at hs
      have hzl : zs.length = cap2 := by simpa using hz
      simp only [lits, List.length_map, List.length_take, List.length_drop, reachBytes] at hs
      exact ⟨zs, .inr ⟨_, rfl, hl, by omega, by simpa using hz, hcell, hwz⟩⟩
  clear hA0 hval0
  refine (walk a0 len0 cap0 z0 a1 len1 cap1 z1 a2 len2 cap2 z2 W w0 w1 w2).mono fun e W' ⟨he, bel⟩ => ?_
  subst he
  exact ⟨_, rfl, _, _, _, [], _, [], hW', trodAll_mk1 (shut_bool Try.underlying4 _), (trodAll_cons_mk (Below.trod laidOut (by kernel_rfl) (of_decide_eq_true (by kernel_rfl)) k0 bel lt0) (trodAll_cons_mk (Below.trod laidOut (by kernel_rfl) (of_decide_eq_true (by kernel_rfl)) k1 bel lt1) (trodAll_cons_mk (Below.trod laidOut (by kernel_rfl) (of_decide_eq_true (by kernel_rfl)) k2 bel lt2) trodAll_mk0))), rfl, bel.frame _, fun h => by cases h⟩

theorem over : Rows.polyCommonRow.holds Try.pinned (OpenSpec.ofChange Rows.polyCommonSpec) :=
  OpenClaim.holds_of_wide 6 Try.f6 rfl rfl rfl rfl rfl rfl rfl ⟨rfl, rfl, rfl, rfl, rfl⟩ rfl rfl rfl rfl rfl (by kernel_rfl) Try.func6 (by kernel_rfl)
    (of_decide_eq_true (by kernel_rfl)) (by unfold Func.isWrapper; first | (rw [if_pos (by decide +kernel)]; kernel_rfl) | (rw [if_neg (by decide +kernel)]; exact ⟨rfl, rfl⟩))
    (fun os started H enc _ => lifted os started H enc)

/-- ████ THE STATEMENT ████ -/
theorem proved : Rows.PolyCommonSaid := over
#print axioms proved
end Go.Proofs.Ythpjedoolbfjfab.polyCommon
