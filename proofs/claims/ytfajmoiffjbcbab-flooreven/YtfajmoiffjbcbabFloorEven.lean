/-
  Proved: for everything that Homes can be asked each block is in its home's Blocks alone, all domains together have all blocks, and rows and spreads are even (P15.6); no condition.
-/
import Derived.Test.YtfajmoiffjbcbabK1q
import Derived.Test.YtfajmoiffjbcbabK1o
import Derived.Test.YtfajmoiffjbcbabK1p
import Derived.Test.YtfajmoiffjbcbabJl
import Derived.WalkKit
import Derived.SizedLaws
import Derived.ProofKit
import Derived.OpenShut
import Derived.ShutString
import Derived.ChangeOld
import Derived.Below
import Derived.Lib.SmallJoins
import Derived.Deep.Matrix
namespace Go.Proofs.Ytfajmoiffjbcbab.floorEven
open Go.ChangeShapes Go.WideShapes Go.ChangeAt Go.RowKit Go.Joins
set_option linter.unusedVariables false
theorem own : ownKnob Try.prog.godebug = none := by kernel_rfl
theorem laidOut : laidOutB Try.prog = true := by kernel_rfl
/-- A slice of integers that came in. -/
def IsRow (k : IntKind) (w : World) (a : Option Addr) (len cap : Nat) (zs : List Int) : Prop :=
  (a = none ∧ len = 0 ∧ cap = 0 ∧ zs = []) ∨
  ∃ x, a = some x ∧ len ≤ cap ∧ cap ≤ 140737488351232 ∧ zs.length = cap ∧ (∀ i, i < zs.length → w.cell? (x.add i) = some (.int k (zs.getD i 0))) ∧ ∀ n ∈ zs, (Lit.int k n).wf = true
/-- A slice of slices of bytes that came in. -/
def IsRows (w : World) (a : Option Addr) (len cap : Nat) : Prop :=
  (a = none ∧ len = 0 ∧ cap = 0) ∨
  ∃ x, a = some x ∧ len ≤ cap ∧ cap ≤ 140737488351232 ∧ ∀ r, r < cap → ∃ b l c zs, w.cell? (x.add r) = some (.slice b l c) ∧ IsRow .u8 w b l c zs
theorem sized_in {H : Type} {P : Program} {ts : List TypeId} {ds : List (DataW H)} (h : (DataW.weightsEach P ts ds).all (· ≤ reachBytes) = true) {j : Nat} {t : TypeId} {d : DataW H} (ht : ts[j]? = some t) (hd : ds[j]? = some d) : (d.weights P t).all (· ≤ reachBytes) = true :=
  List.all_eq_true.2 fun n hn => List.all_eq_true.1 h n (DataW.weights_mem_each ht hd n hn)
theorem sized_all {H : Type} {P : Program} {e : TypeId} : ∀ {ds : List (DataW H)}, (DataW.weightsAll P e ds).all (· ≤ reachBytes) = true → ∀ d ∈ ds, (d.weights P e).all (· ≤ reachBytes) = true
  | [], _, d, hd => by simp at hd
  | d0 :: r, h, d, hd => by
    simp only [DataW.weightsAll, List.all_append, Bool.and_eq_true] at h
    rcases List.mem_cons.1 hd with rfl | hd
    · exact h.1
    · exact sized_all h.2 d hd
theorem cellsPl : Try.prog.cellsOf 36 = 5 := by kernel_rfl
theorem jl_of_row (w : World) (a : Option Addr) (len cap : Nat) (zs : List Int) (h : IsRow .i64 w a len cap zs) : Jl w a .i64 len (fun i => zs.getD i 0) ∧ len ≤ 9223372036854775807 := by
  rcases h with ⟨rfl, rfl, rfl, rfl⟩ | ⟨x, rfl, hl, hm, hz, hcell, _⟩
  · exact ⟨fun i hi => by omega, by omega⟩
  · refine ⟨?_, by have : maxLen = 9223372036854775807 := rfl; omega⟩
    intro i hi
    have hc := hcell i (by omega)
    obtain ⟨b, off, spot⟩ := x
    have hspot : spot = none := by
      have h0 := hcell 0 (by omega)
      simpa [Addr.add] using World.cell?_spot h0
    subst hspot
    refine ⟨b, off, rfl, ?_⟩
    have hplain : (⟨b, off, none⟩ : Addr).add i = ⟨b, off + i, none⟩ := by unfold Addr.add; split <;> simp_all
    rw [hplain] at hc
    exact hc
theorem u8_of_wf15 {n : Int} (h : (Lit.int .u8 n).wf = true) : ∃ x : Nat, n = (x : Int) ∧ x < 256 := by
  simp [Lit.wf, IntKind.min, IntKind.max, IntKind.signed, IntKind.bits] at h
  exact ⟨n.toNat, by omega, by omega⟩
theorem cells5 {w : World} {g : Nat} {T : TypeId} {v0 v1 v2 v3 v4 : Value} (h : w.heap[g]? = some (.cells #[v0, v1, v2, v3, v4] T (0, 0))) : w.cell? ⟨g, 0, none⟩ = some v0 ∧ w.cell? ⟨g, 1, none⟩ = some v1 ∧ w.cell? ⟨g, 2, none⟩ = some v2 ∧ w.cell? ⟨g, 3, none⟩ = some v3 ∧ w.cell? ⟨g, 4, none⟩ = some v4 := by
  refine ⟨?_, ?_, ?_, ?_, ?_⟩ <;> (rw [cell_of_row _ _ _ _ _ _ h]; rfl)
theorem dcast (a b : Nat) : decide ((a : Int) = (b : Int)) = decide (a = b) := by
  rw [decide_eq_decide]
  omega

set_option maxRecDepth 20000 in
set_option maxHeartbeats 4000000 in
theorem walk (p0 b0 d0 s0 : Int) (a0 : Option Addr) (len0 cap0 : Nat) (z0 : List Int) (w : World) (e0 : (Lit.int .u8 p0).wf = true) (u0 : (Lit.int .i64 b0).wf = true) (v0 : (Lit.int .i64 d0).wf = true) (y0 : (Lit.int .i64 s0).wf = true) (w0 : IsRow .i64 w a0 len0 cap0 z0) :
    Calls Try.prog 4 #[.agg #[.int .u8 p0, .int .i64 b0, .int .i64 d0, .int .i64 s0, .slice a0 len0 cap0]] w fun e w' => e = .returned (.bool true) ∧ Below w.heap.size w w' := by
  obtain ⟨P, rfl, hP⟩ := u8_of_wf15 e0
  obtain ⟨hI, hm⟩ := jl_of_row w a0 len0 cap0 z0 w0
  obtain ⟨q, hq⟩ : ∃ q : Nat → Int, (fun i => z0.getD i 0) = q := ⟨_, rfl⟩
  rw [hq] at hI
  obtain ⟨wb, HW⟩ : ∃ wb, Hid (wb = w.alloc (.cells #[.int .u8 (P : Int), .int .i64 b0, .int .i64 d0, .int .i64 s0, .slice a0 len0 cap0] 36)) := ⟨_, rfl⟩
  have HB0 : Hid (Below w.heap.size w wb) := by rw [HW.out]; exact jlow _ _
  have hbx : wb.heap[w.heap.size]? = some (.cells #[.int .u8 (P : Int), .int .i64 b0, .int .i64 d0, .int .i64 s0, .slice a0 len0 cap0] 36 (0, 0)) := by rw [HW.out]; exact World.alloc_heap_new w _
  have hlt : w.heap.size < wb.heap.size := lt_of_block hbx
  obtain ⟨x0, x1, x2, x3, x4⟩ := cells5 hbx
  have HI : Hid (Jl wb a0 .i64 len0 q) := hI.later HB0.out
  cases ok : okH P b0 d0 s0 len0 q with
  | false =>
    have HK1 : Hid (Calls Try.prog 11 #[.int .u8 (P : Int), .int .i64 b0, .int .i64 d0, .int .i64 s0, .slice a0 len0 cap0] wb fun e w' => e = .returned (.tuple #[.slice none 0 0, .int .i64 2]) ∧ Below wb.heap.size wb w') := phomes_bad P b0 d0 s0 len0 cap0 a0 q wb HI.out hm ok
    clear hbx hI hq w0 e0 u0 v0 y0 hP hm ok
    go_enter Try.func4, Try.ntmps4
    go_wp2_with (first
      | rw [← HW.out]
      | (go_at_call 11; refine HK1.out.mono ?_; rintro e w1 ⟨rfl, hb1⟩; have HB1 : Hid (Below w.heap.size w w1) := jtwo HB0.out hb1; clear hb1)
      | (go_at_call 10; refine (anch15 _).mono ?_; rintro e w6 ⟨rfl, hb⟩; have HB6 : Hid (Below w.heap.size w w6) := jtwo HB1.out hb; clear hb))
    go_ret
    exact ⟨rfl, HB6.out⟩
  | true =>
    have ok' := ok
    unfold okH at ok'
    simp only [Bool.and_eq_true, decide_eq_true_eq] at ok'
    have hB := sideB_iff.1 ok'.1
    have hD := sideB_iff.1 ok'.2.1
    obtain ⟨B, rfl⟩ := Int.eq_ofNat_of_zero_le (show 0 ≤ b0 by omega)
    obtain ⟨D, rfl⟩ := Int.eq_ofNat_of_zero_le (show 0 ≤ d0 by omega)
    have hB1 : 1 ≤ B ∧ B ≤ 64 := by omega
    have hD1 : 1 ≤ D ∧ D ≤ 64 := by omega
    have hp14 := ok'.2.2.2.2
    obtain ⟨h, Hh⟩ : ∃ h : Nat → Nat, Hid (hmv P B D s0 q = h) := ⟨_, rfl⟩
    have HK1 : Hid (Calls Try.prog 11 #[.int .u8 (P : Int), .int .i64 (B : Int), .int .i64 (D : Int), .int .i64 s0, .slice a0 len0 cap0] wb fun e w' => ∃ g, e = .returned (.tuple #[.slice (some ⟨g, 0, none⟩) B B, .int .i64 0]) ∧ JAt w' g 3 .i64 B h ∧ wb.heap.size ≤ g ∧ Below wb.heap.size wb w') := by rw [← Hh.out]; exact phomes_ok P B D s0 len0 cap0 a0 q wb HI.out hm ok
    obtain ⟨c, Hc⟩ : ∃ c : Nat → Nat, Hid (∀ d, cnp (fun b => decide (h b = d)) B = c d) := ⟨_, fun _ => rfl⟩
    have HSum : Hid (smm c D = B) := by
      show smm c D = B
      have := smm_all h D B (fun b hb => by rw [← Hh.out]; exact hmv_lt ok hb)
      rw [← smm_congr (fun d _ => Hc.out d)]
      exact this
    have HEv : Hid (P ≤ 2 → ∀ d, d < D → B / D ≤ c d ∧ c d ≤ B / D + 1) := fun hp d hd => by
      rw [← Hc.out d, ← Hh.out]
      exact hm_even (by omega) (by omega) (by omega) hd
    have HC6 : Hid (∀ d, c d ≤ 64) := fun d => by
      rw [← Hc.out d]
      exact Nat.le_trans (cnp_le _ _) hB1.2
    have HBX : Hid (wb.heap[w.heap.size]? = some (.cells #[.int .u8 (P : Int), .int .i64 (B : Int), .int .i64 (D : Int), .int .i64 s0, .slice a0 len0 cap0] 36 (0, 0))) := hbx
    have g1 : decide ((D : Int) < 1) = false := decide_eq_false (by omega)
    have g2 : decide ((64 : Int) < (D : Int)) = false := decide_eq_false (by omega)
    clear hbx hI hq w0 e0 u0 v0 y0 hP hm ok ok' hB hD Hh HI
    go_enter Try.func4, Try.ntmps4
    go_wp2_with (first
      | rw [← HW.out]
      | (go_at_call 11; refine HK1.out.mono ?_; rintro e w1 ⟨g, rfl, hj1, hg1, hb1⟩; have HJ1 : Hid (JAt w1 g 3 .i64 B h) := hj1; have HB1 : Hid (Below wb.heap.size wb w1) := hb1; obtain ⟨t0, t1, t2, t3, t4⟩ := cells5 ((hb1.block _ hlt).trans HBX.out); clear hj1 hb1))
    clear HK1
    go_loopw [5, 6, 7, 8] (fun vs vl vm vd wr => ∃ (d s l m : Nat), d ≤ D ∧ vd = .int .i64 (d : Int) ∧ vs = .int .i64 (s : Int) ∧ vl = .int .i64 (l : Int) ∧ vm = .int .i64 (m : Int) ∧ Hid (smm c d = s) ∧ s ≤ 64 * d ∧ (l ≤ 64 ∧ m ≤ 64) ∧ Hid (P ≤ 2 → (B / D ≤ l ∧ m ≤ B / D + 1)) ∧ Below w1.heap.size w1 wr) (fun _ _ _ vd _ => D - (intOf vd).toNat)
    case atStart =>
      have := Nat.div_le_self B D
      exact ⟨0, 0, 64, 0, by omega, rfl, rfl, rfl, rfl, rfl, by omega, by omega, fun _ => ⟨Nat.le_trans this hB1.2, Nat.zero_le _⟩, Below.refl _ _⟩
    case round =>
      obtain ⟨d, s, l, m, hdD, rfl, rfl, rfl, rfl, HS, hs6, hlm, HE, hb⟩ := hrel
      have HB : Hid (Below w1.heap.size w1 wr) := hb
      obtain ⟨r0, r1, r2, r3, r4⟩ := cells5 ((hb.block _ (Nat.lt_of_lt_of_le hlt HB1.out.size)).trans ((HB1.out.block _ hlt).trans HBX.out))
      clear hb t0 t1 t2 t3 t4
      by_cases hd : d < D
      · have d1 : decide ((d : Int) < (D : Int)) = true := decide_eq_true (by omega)
        obtain ⟨S, HSS⟩ : ∃ S : Nat, Hid (gst (fun i => decide ((h i : Int) = (d : Int))) B = S) := ⟨_, rfl⟩
        have hS6 : S < 18446744073709551616 := by rw [← HSS.out]; exact gst_64 _ hB1.2
        have HBl : Hid (Calls Try.prog 12 #[.slice (some ⟨g, 0, none⟩) B B, .int .i64 (d : Int)] wr fun e w' => e = .returned (.tuple #[.int .u64 (S : Int), .int .i64 0]) ∧ wr = w') := by
          have := pblocks B B (some ⟨g, 0, none⟩) (fun i => (h i : Int)) (d : Int) wr (by omega) (HJ1.out.later HB.out).jl
          rw [show blkA (fun i => (h i : Int)) (d : Int) B = _ from if_pos hB1.2, HSS.out] at this
          exact this
        obtain ⟨n, HN⟩ : ∃ n, Hid (c d = n) := ⟨_, rfl⟩
        have hn6 : n ≤ 64 := by rw [← HN.out]; exact HC6.out d
        have hcn : cn S 64 = n := by
          rw [← HSS.out, cn_gst, Nat.min_eq_right hB1.2, ← HN.out, ← Hc.out d]
          exact cnp_congr (fun i _ => dcast _ _)
        have HLi : Hid (∀ w, Calls Try.prog 8 #[.int .u64 (S : Int)] w fun e w' => ∃ x k, e = .returned (.slice x n k) ∧ Below w.heap.size w w') := fun w => by
          have := rlist_ok S w hS6
          rw [hcn] at this
          refine this.mono ?_
          rintro e w' ⟨v, rfl, hj, hb⟩
          obtain ⟨x, k, rfl, -⟩ := hj.form
          exact ⟨x, k, rfl, hb⟩
        have HHas : Hid (∀ (i : Nat) (b : Bool), i < B → decide (h i = d) = b → ∀ w, Calls Try.prog 7 #[.int .u64 (S : Int), .int .i64 (i : Int)] w fun e w' => e = .returned (.bool b) ∧ w' = w) := fun i b hi e w => by
          have := jrhas_ok S i w hS6 (by omega)
          rw [← HSS.out, bt_gst, HSS.out] at this
          have e2 : decide ((if i < B ∧ decide ((h i : Int) = (d : Int)) = true then 1 else 0) = 1) = b := by
            rw [← e]
            rw [dcast]
            by_cases e3 : h i = d <;> simp [e3, hi]
          rw [e2] at this
          refine this.mono ?_
          rintro e w' ⟨rfl, rfl⟩
          exact ⟨rfl, rfl⟩
        have HS2 : Hid (smm c (d + 1) = s + n) := by
          show smm c d + c d = s + n
          rw [HS.out, HN.out]
        have HE2 : Hid (P ≤ 2 → (B / D ≤ min l n ∧ max m n ≤ B / D + 1)) := fun hp => by
          have h1 := HE.out hp
          have h2 := HEv.out hp d hd
          rw [HN.out] at h2
          omega
        clear HSS hcn HS HE HN Hc HSum HEv HC6
        go_wp2_with (first
          | (go_at_call 12; refine HBl.out.mono ?_; rintro e w2 ⟨rfl, rfl⟩)
          | (go_at_call 8; refine (HLi.out _).mono ?_; rintro e w3 ⟨x, k, rfl, hb⟩; have HB3 : Hid (Below w1.heap.size w1 w3) := jtwo HB.out hb; clear hb))
        clear HBl HLi
        go_loopw [12] (fun vi wq => ∃ i : Nat, i ≤ B ∧ vi = .int .i64 (i : Int) ∧ Below w1.heap.size w1 wq) (fun vi _ => B - (intOf vi).toNat)
        case atStart => exact ⟨0, by omega, rfl, HB3.out⟩
        case round =>
          obtain ⟨i, hi, rfl, hb⟩ := hrel
          have HQ : Hid (Below w1.heap.size w1 wr) := hb
          clear hb HB3
          by_cases hiB : i < B
          · have d2 : decide ((i : Int) < (B : Int)) = true := decide_eq_true (by omega)
            have hc := (HJ1.out.later HQ.out).cell i hiB
            have p0 : (0 : Int) ≤ (i : Int) := by omega
            have p1 : (i : Int) < (B : Int) := by omega
            obtain ⟨y, HY⟩ : ∃ y, Hid (h i = y) := ⟨_, rfl⟩
            rw [HY.out] at hc
            by_cases hy : y = d
            · have HA : Hid (∀ w, Calls Try.prog 7 #[.int .u64 (S : Int), .int .i64 (i : Int)] w fun e w' => e = .returned (.bool true) ∧ w' = w) := HHas.out i true hiB (by rw [HY.out]; exact decide_eq_true hy)
              have c1 : decide ((y : Int) = (d : Int)) = true := decide_eq_true (by omega)
              subst hy
              clear HY HHas
              go_wp2
              go_quiet ((go_at_call 7; exact Calls.quiet_of_same (HA.out _)))
              go_wp2
              exact ⟨⟨i + 1, by omega, by go_num, below_drewN HQ.out _⟩, by simp [intOf]; omega⟩
            · have HA : Hid (∀ w, Calls Try.prog 7 #[.int .u64 (S : Int), .int .i64 (i : Int)] w fun e w' => e = .returned (.bool false) ∧ w' = w) := HHas.out i false hiB (by rw [HY.out]; exact decide_eq_false hy)
              have c0 : ¬ ((y : Int) = (d : Int)) := by omega
              have c1 : decide ((y : Int) = (d : Int)) = false := decide_eq_false c0
              clear HY HHas
              go_wp2
              go_quiet ((go_at_call 7; exact Calls.quiet_of_same (HA.out _)))
              go_wp2
              exact ⟨⟨i + 1, by omega, by go_num, below_drewN HQ.out _⟩, by simp [intOf]; omega⟩
          · obtain rfl : i = B := by omega
            have d2 : decide ((i : Int) < (i : Int)) = false := decide_eq_false (by omega)
            have wsum : IntKind.i64.wrap ((s : Int) + (n : Int)) = ((s + n : Nat) : Int) := by rw [IntKind.wrap_i64]; omega
            clear HHas
            go_wp2
            exact ⟨⟨d + 1, s + n, min l n, max m n, by omega, by go_num, by go_num, by congr 1; omega, by congr 1; omega, HS2, by omega, by omega, HE2, HQ.out⟩, by simp [intOf]; omega⟩
      · obtain rfl : d = D := by omega
        have d1 : decide ((d : Int) < (d : Int)) = false := decide_eq_false (by omega)
        have es : s = B := by rw [← HS.out, HSum.out]
        subst es
        clear HS HSum Hc HC6 HEv
        by_cases hP2 : P ≤ 2
        · have hE := HE.out hP2
          have c1 : decide ((2 : Int) < (P : Int)) = false := decide_eq_false (by omega)
          have c2 : decide (2 < P) = false := decide_eq_false (by omega)
          have wml : IntKind.i64.wrap ((m : Int) - (l : Int)) = (m : Int) - (l : Int) := by rw [IntKind.wrap_i64]; omega
          have hml : m ≤ l + 1 := by
            generalize s / d = z at hE
            omega
          have c3 : decide ((m : Int) - (l : Int) ≤ 1) = true := decide_eq_true (by omega)
          clear hE HE
          go_wp2_with (go_at_call 10; refine (anch15 _).mono ?_; rintro e w6 ⟨rfl, hb⟩; have HB6 : Hid (Below w.heap.size w w6) := jtwo HB0.out (jtwo HB1.out (jtwo HB.out hb)); obtain ⟨k0, k1, k2, k3, k4⟩ := cells5 (((jtwo HB.out hb).block _ (Nat.lt_of_lt_of_le hlt HB1.out.size)).trans ((HB1.out.block _ hlt).trans HBX.out)); clear hb)
          go_ret
          exact ⟨rfl, HB6.out⟩
        · have c1 : decide ((2 : Int) < (P : Int)) = true := decide_eq_true (by omega)
          have c2 : decide (2 < P) = true := decide_eq_true (by omega)
          clear HE
          go_wp2_with (go_at_call 10; refine (anch15 _).mono ?_; rintro e w6 ⟨rfl, hb⟩; have HB6 : Hid (Below w.heap.size w w6) := jtwo HB0.out (jtwo HB1.out (jtwo HB.out hb)); obtain ⟨k0, k1, k2, k3, k4⟩ := cells5 (((jtwo HB.out hb).block _ (Nat.lt_of_lt_of_le hlt HB1.out.size)).trans ((HB1.out.block _ hlt).trans HBX.out)); clear hb)
          go_ret
          exact ⟨rfl, HB6.out⟩
set_option maxRecDepth 100000 in
set_option maxHeartbeats 2000000 in
theorem lifted (os : Os) (started : os.Started) (H : Type) (enc : TypeId × Value → H) :
    ReturnsInHanded {} Try.checked os 4 .any (Rows.floorEvenSpec.pre6 enc Try.prog Try.f4 Rows.floorEvenRow.domain false) (Rows.floorEvenSpec.post enc Try.prog Try.f4 false true false false) := by
  refine returnsInHanded_of_change_sized (C := Try.checked) own started (by kernel_rfl) Try.func4
    (ChangeSpec.witness6 (enc := enc) (C := Try.checked) false ⟨#[], #[.agg #[.int .u8 0, .int .i64 0, .int .i64 0, .int .i64 0, .slice none 0 0]], []⟩ 8 (by kernel_rfl) (by kernel_rfl) (by kernel_rfl) (by kernel_rfl)) ?_
  intro W base args ds gs before hval0 hW hcnd hsz0 _
  have hsz : (DataW.weightsEach Try.prog (Try.f4.params.toList ++ Rows.floorEvenSpec.plain.varTypes Try.prog) (ds ++ gs)).all (· ≤ reachBytes) = true := hsz0
  clear hsz0
  have hval : ∀ (j : Nat) t v, Try.f4.params[j]? = some t → args[j]? = some v → Value.okWide Try.prog W .any base t v := hval0
  have hW' := hW
  obtain ⟨p, q, hA0, hV, rfl, hfz, hnd⟩ := hW
  have hA : DataW.TrodAll enc Try.prog W 0 (fun _ => true) true Try.f4.params.toList args.toList ds p := hA0
  rw [Try.params4] at hA hval hsz
  obtain ⟨va0, vs0, d0, ds0, p0, q0, hargs, rfl, rfl, h0, tr0⟩ := trodAll_cons hA
  obtain ⟨rfl, rfl, rfl⟩ := trodAll_nil tr0
  obtain rfl : args = #[va0] := by cases args; simp_all
  obtain ⟨rfl, rfl⟩ := trodVars_none hV
  have k0 := h0
  have lt0 : ∀ x ∈ p0, x.block < W.heap.size := by obtain ⟨m, hm⟩ := k0; exact DataW.trod_lt m _ _ _ hm
  obtain ⟨f0, g0, h0a, i0, s0x, k0a, k0b, k0c, k0d, ee0, m0, rfl, rfl, rfl, hf0, hg0, hh0, hi0, hs0⟩ := open_agg5 Try.underlying36 (by kernel_rfl) cellsPl (hval 0 36 va0 rfl rfl) h0
  obtain ⟨p0, ep0, rfl, e0⟩ := DataW.trod_int Try.underlying5 hf0
  simp only [List.cons.injEq, and_true] at ep0
  subst ep0
  obtain ⟨b0, eb0, rfl, u0⟩ := DataW.trod_int Try.underlying3 hg0
  simp only [List.cons.injEq, and_true] at eb0
  subst eb0
  obtain ⟨d0, ed0, rfl, v0⟩ := DataW.trod_int Try.underlying3 hh0
  simp only [List.cons.injEq, and_true] at ed0
  subst ed0
  obtain ⟨s0, es0, rfl, y0⟩ := DataW.trod_int Try.underlying3 hi0
  simp only [List.cons.injEq, and_true] at es0
  subst es0
  obtain ⟨a0, len0, cap0, rfl⟩ : ∃ a l c, s0x = .slice a l c := by
    rcases open_ints Try.underlying30 Try.underlying3 (by kernel_rfl) hs0 with ⟨hcs, _⟩ | ⟨x, l, c, zs, hcs, _⟩
    · simp only [List.cons.injEq, and_true] at hcs; exact ⟨_, _, _, hcs⟩
    · simp only [List.cons.injEq, and_true] at hcs; exact ⟨_, _, _, hcs⟩
  obtain ⟨z0, w0⟩ : ∃ zs, IsRow .i64 W a0 len0 cap0 zs := by
    obtain ⟨fuel, hf⟩ := (⟨m0, hs0⟩ : ∃ fuel, DataW.trod enc Try.prog W 0 (fun _ => true) true fuel 30 [.slice a0 len0 cap0] = some ee0)
    rcases open_ints Try.underlying30 Try.underlying3 (by kernel_rfl) hf with ⟨hcs, _⟩ | ⟨x, l, c, zs, hcs, _, hl, hm, hz, hxx, hcell, hwz⟩
    · simp at hcs
      obtain ⟨rfl, rfl, rfl⟩ := hcs
      exact ⟨[], .inl ⟨rfl, rfl, rfl, rfl⟩⟩
    · simp at hcs
      obtain ⟨rfl, rfl, rfl⟩ := hcs
      have hd := congrArg Prod.fst hxx
      have hs := sized_slice (sized_in hsz (j := 0) (t := 36) rfl rfl) (j := 4) (t := 30) (e := 3) rfl (congrArg some hd) Try.underlying30
      rw [show Try.prog.bytesOf 3 = 8 from by kernel_rfl] at hs
      have hzl : zs.length = cap0 := by simpa using hz
      simp only [lits, List.length_map, List.length_take, List.length_drop, reachBytes] at hs
      exact ⟨zs, .inr ⟨_, rfl, hl, by omega, by simpa using hz, hcell, hwz⟩⟩
  clear hA0 hval0
  refine (walk p0 b0 d0 s0 a0 len0 cap0 z0 W e0 u0 v0 y0 w0).mono fun e W' ⟨he, bel⟩ => ?_
  subst he
  exact ⟨_, rfl, _, _, _, [], _, [], hW', trodAll_mk1 (shut_bool Try.underlying4 _), (trodAll_cons_mk (Below.trod laidOut (by kernel_rfl) (of_decide_eq_true (by kernel_rfl)) k0 bel lt0) trodAll_mk0), rfl, bel.frame _, fun h => by cases h⟩
theorem over : Rows.floorEvenRow.holds Try.pinned (OpenSpec.ofChange Rows.floorEvenSpec) :=
  OpenClaim.holds_of_wide 4 Try.f4 rfl rfl rfl rfl rfl rfl rfl ⟨rfl, rfl, rfl, rfl, rfl⟩ rfl rfl rfl rfl rfl (by kernel_rfl) Try.func4 (by kernel_rfl)
    (of_decide_eq_true (by kernel_rfl)) (by unfold Func.isWrapper; first | (rw [if_pos (by decide +kernel)]; kernel_rfl) | (rw [if_neg (by decide +kernel)]; exact ⟨rfl, rfl⟩))
    (fun os started H enc _ => lifted os started H enc)
theorem proved : Rows.FloorEvenSaid := over
#print axioms proved
end Go.Proofs.Ytfajmoiffjbcbab.floorEven
