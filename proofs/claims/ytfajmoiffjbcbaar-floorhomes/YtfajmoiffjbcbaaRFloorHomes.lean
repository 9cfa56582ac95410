/-
  Proved: for everything that Homes can be asked, and every list of homes and every d, the program's Homes and Blocks answer what the document's answers are, or their errors (P15.4); no condition.
-/
import Derived.Test.YtfajmoiffjbcbaaRK1n
import Derived.Test.YtfajmoiffjbcbaaRK1o
import Derived.Test.YtfajmoiffjbcbaaRK1p
import Derived.WalkKit
import Derived.SizedLaws
import Derived.ProofKit
import Derived.OpenShut
import Derived.ShutString
import Derived.ChangeOld
import Derived.Below
import Derived.Lib.SmallJoins
import Derived.Deep.Matrix
namespace Go.Proofs.YtfajmoiffjbcbaaR.floorHomes
open Go.ChangeShapes Go.WideShapes Go.ChangeAt Go.RowKit Go.Joins
set_option linter.unusedVariables false
theorem own : ownKnob Try.prog.godebug = none := by kernel_rfl
theorem laidOut : laidOutB Try.prog = true := by kernel_rfl
/-- A slice of integers that came in. -/
def IsRow (k : IntKind) (w : World) (a : Option Addr) (len cap : Nat) (zs : List Int) : Prop :=
  (a = none ∧ len = 0 ∧ cap = 0 ∧ zs = []) ∨
  ∃ x, a = some x ∧ len ≤ cap ∧ cap ≤ 140737488351232 ∧ zs.length = cap ∧ (∀ i, i < zs.length → w.cell? (x.add i) = some (.int k (zs.getD i 0))) ∧ ∀ n ∈ zs, (Lit.int k n).wf = true
/-- A slice of slices of bytes that came in. -/
def IsRows (w : World) (a : Option Addr) (len cap : Nat) : Prop :=
  (a = none ∧ len = 0 ∧ cap = 0) ∨
  ∃ x, a = some x ∧ len ≤ cap ∧ cap ≤ 140737488351232 ∧ ∀ r, r < cap → ∃ b l c zs, w.cell? (x.add r) = some (.slice b l c) ∧ IsRow .u8 w b l c zs
theorem sized_in {H : Type} {P : Program} {ts : List TypeId} {ds : List (DataW H)} (h : (DataW.weightsEach P ts ds).all (· ≤ reachBytes) = true) {j : Nat} {t : TypeId} {d : DataW H} (ht : ts[j]? = some t) (hd : ds[j]? = some d) : (d.weights P t).all (· ≤ reachBytes) = true :=
  List.all_eq_true.2 fun n hn => List.all_eq_true.1 h n (DataW.weights_mem_each ht hd n hn)
theorem sized_all {H : Type} {P : Program} {e : TypeId} : ∀ {ds : List (DataW H)}, (DataW.weightsAll P e ds).all (· ≤ reachBytes) = true → ∀ d ∈ ds, (d.weights P e).all (· ≤ reachBytes) = true
  | [], _, d, hd => by simp at hd
  | d0 :: r, h, d, hd => by
    simp only [DataW.weightsAll, List.all_append, Bool.and_eq_true] at h
    rcases List.mem_cons.1 hd with rfl | hd
    · exact h.1
    · exact sized_all h.2 d hd
theorem cellsPl : Try.prog.cellsOf 34 = 5 := by kernel_rfl
theorem jl_of_row (w : World) (a : Option Addr) (len cap : Nat) (zs : List Int) (h : IsRow .i64 w a len cap zs) : Jl w a .i64 len (fun i => zs.getD i 0) ∧ len ≤ 9223372036854775807 := by
  rcases h with ⟨rfl, rfl, rfl, rfl⟩ | ⟨x, rfl, hl, hm, hz, hcell, _⟩
  · exact ⟨fun i hi => by omega, by omega⟩
  · refine ⟨?_, by have : maxLen = 9223372036854775807 := rfl; omega⟩
    intro i hi
    have hc := hcell i (by omega)
    obtain ⟨b, off, spot⟩ := x
    have hspot : spot = none := by
      have h0 := hcell 0 (by omega)
      simpa [Addr.add] using World.cell?_spot h0
    subst hspot
    refine ⟨b, off, rfl, ?_⟩
    have hplain : (⟨b, off, none⟩ : Addr).add i = ⟨b, off + i, none⟩ := by unfold Addr.add; split <;> simp_all
    rw [hplain] at hc
    exact hc
theorem u8_of_wf15 {n : Int} (h : (Lit.int .u8 n).wf = true) : ∃ x : Nat, n = (x : Int) ∧ x < 256 := by
  simp [Lit.wf, IntKind.min, IntKind.max, IntKind.signed, IntKind.bits] at h
  exact ⟨n.toNat, by omega, by omega⟩
theorem cells5 {w : World} {g : Nat} {T : TypeId} {v0 v1 v2 v3 v4 : Value} (h : w.heap[g]? = some (.cells #[v0, v1, v2, v3, v4] T (0, 0))) : w.cell? ⟨g, 0, none⟩ = some v0 ∧ w.cell? ⟨g, 1, none⟩ = some v1 ∧ w.cell? ⟨g, 2, none⟩ = some v2 ∧ w.cell? ⟨g, 3, none⟩ = some v3 ∧ w.cell? ⟨g, 4, none⟩ = some v4 := by
  refine ⟨?_, ?_, ?_, ?_, ?_⟩ <;> (rw [cell_of_row _ _ _ _ _ _ h]; rfl)
theorem homes_pair (p : Nat) (hp : p < 256) (B D s : Int) (m cap : Nat) (q : Nat → Int) (hm : m ≤ 9223372036854775807) : ∃ (N : Nat) (E : Int) (f : Nat → Int), N ≤ 64 ∧
    (∀ (a : Option Addr) (w : World), Jl w a .i64 m q → Calls Try.prog 10 #[.int .u8 (p : Int), .int .i64 B, .int .i64 D, .int .i64 s, .slice a m cap] w fun e w' => ∃ x c, e = .returned (.tuple #[.slice x N c, .int .i64 E]) ∧ Jl w' x .i64 N f ∧ Below w.heap.size w w') ∧
    (∀ (a : Option Addr) (w : World), Jl w a .i64 m q → Calls Try.prog 11 #[.int .u8 (p : Int), .int .i64 B, .int .i64 D, .int .i64 s, .slice a m cap] w fun e w' => ∃ x c, e = .returned (.tuple #[.slice x N c, .int .i64 E]) ∧ Jl w' x .i64 N f ∧ Below w.heap.size w w') := by
  cases ok : okH p B D s m q with
  | false =>
    refine ⟨0, 2, fun _ => 0, by omega, fun a w ha => ?_, fun a w ha => ?_⟩
    · refine (phomes_bad p B D s m cap a q w ha hm ok).mono ?_
      rintro e w' ⟨rfl, hb⟩
      exact ⟨none, 0, rfl, fun i hi => by omega, hb⟩
    · refine (rhomes_bad p B D s m cap a q w hp ha ok).mono ?_
      rintro e w' ⟨rfl, hb⟩
      exact ⟨none, 0, rfl, fun i hi => by omega, hb⟩
  | true =>
    have ok' := ok
    unfold okH at ok'
    simp only [Bool.and_eq_true] at ok'
    have hB := sideB_iff.1 ok'.1
    have hD := sideB_iff.1 ok'.2.1
    obtain ⟨B, rfl⟩ := Int.eq_ofNat_of_zero_le (show 0 ≤ B by omega)
    obtain ⟨D, rfl⟩ := Int.eq_ofNat_of_zero_le (show 0 ≤ D by omega)
    refine ⟨B, 0, fun i => ((hmv p B D s q i : Nat) : Int), by omega, fun a w ha => ?_, fun a w ha => ?_⟩
    · refine (phomes_ok p B D s m cap a q w ha hm ok).mono ?_
      rintro e w' ⟨g, rfl, hj, -, hb⟩
      exact ⟨_, _, rfl, hj.jl, hb⟩
    · refine (rhomes_ok p B D s m cap a q w ha ok).mono ?_
      rintro e w' ⟨v, rfl, hj, hb⟩
      obtain ⟨x, c, rfl, -⟩ := hj.form
      exact ⟨_, _, rfl, hj.jl, hb⟩
theorem blk_form (q : Nat → Int) (d : Int) (m : Nat) : ∃ u v : Int, blkA q d m = #[.int .u64 u, .int .i64 v] := by
  unfold blkA
  split
  · exact ⟨_, _, rfl⟩
  · exact ⟨_, _, rfl⟩

set_option maxRecDepth 20000 in
set_option maxHeartbeats 2000000 in
theorem walk (p0 b0 d0 s0 : Int) (a0 : Option Addr) (len0 cap0 : Nat) (z0 : List Int) (a1 : Option Addr) (len1 cap1 : Nat) (z1 : List Int) (n2 : Int) (w : World) (e0 : (Lit.int .u8 p0).wf = true) (u0 : (Lit.int .i64 b0).wf = true) (v0 : (Lit.int .i64 d0).wf = true) (y0 : (Lit.int .i64 s0).wf = true) (w0 : IsRow .i64 w a0 len0 cap0 z0) (w1 : IsRow .i64 w a1 len1 cap1 z1) (w2 : (Lit.int .i64 n2).wf = true) :
    Calls Try.prog 4 #[.agg #[.int .u8 p0, .int .i64 b0, .int .i64 d0, .int .i64 s0, .slice a0 len0 cap0], .slice a1 len1 cap1, .int .i64 n2] w fun e w' => e = .returned (.bool true) ∧ Below w.heap.size w w' := by
  obtain ⟨P, rfl, hP⟩ := u8_of_wf15 e0
  obtain ⟨hI, hm⟩ := jl_of_row w a0 len0 cap0 z0 w0
  obtain ⟨hJ, hm1⟩ := jl_of_row w a1 len1 cap1 z1 w1
  obtain ⟨q, hq⟩ : ∃ q : Nat → Int, (fun i => z0.getD i 0) = q := ⟨_, rfl⟩
  obtain ⟨q1, hq1⟩ : ∃ q : Nat → Int, (fun i => z1.getD i 0) = q := ⟨_, rfl⟩
  rw [hq] at hI
  rw [hq1] at hJ
  obtain ⟨N, E, f, hN, K1, K2⟩ := homes_pair P hP b0 d0 s0 len0 cap0 q hm
  obtain ⟨x, y, hF⟩ := blk_form q1 n2 len1
  obtain ⟨wb, HW⟩ : ∃ wb, Hid (wb = w.alloc (.cells #[.int .u8 (P : Int), .int .i64 b0, .int .i64 d0, .int .i64 s0, .slice a0 len0 cap0] 34)) := ⟨_, rfl⟩
  have HB0 : Hid (Below w.heap.size w wb) := by rw [HW.out]; exact jlow _ _
  have hbx : wb.heap[w.heap.size]? = some (.cells #[.int .u8 (P : Int), .int .i64 b0, .int .i64 d0, .int .i64 s0, .slice a0 len0 cap0] 34 (0, 0)) := by rw [HW.out]; exact World.alloc_heap_new w _
  have hlt : w.heap.size < wb.heap.size := lt_of_block hbx
  obtain ⟨x0, x1, x2, x3, x4⟩ := cells5 hbx
  have HI : Hid (Jl wb a0 .i64 len0 q) := hI.later HB0.out
  have HJ : Hid (Jl wb a1 .i64 len1 q1) := hJ.later HB0.out
  have HK1 : Hid (Calls Try.prog 10 #[.int .u8 (P : Int), .int .i64 b0, .int .i64 d0, .int .i64 s0, .slice a0 len0 cap0] wb fun e w' => ∃ x c, e = .returned (.tuple #[.slice x N c, .int .i64 E]) ∧ Jl w' x .i64 N f ∧ Below wb.heap.size wb w') := K1 _ _ HI.out
  have HK2 : Hid (∀ (a : Option Addr) (w : World), Jl w a .i64 len0 q → Calls Try.prog 11 #[.int .u8 (P : Int), .int .i64 b0, .int .i64 d0, .int .i64 s0, .slice a len0 cap0] w fun e w' => ∃ x c, e = .returned (.tuple #[.slice x N c, .int .i64 E]) ∧ Jl w' x .i64 N f ∧ Below w.heap.size w w') := K2
  have HP1 : Hid (∀ w, Jl w a1 .i64 len1 q1 → Calls Try.prog 12 #[.slice a1 len1 cap1, .int .i64 n2] w fun e w' => e = .returned (.tuple #[.int .u64 x, .int .i64 y]) ∧ w = w') := fun w h => hF ▸ pblocks len1 cap1 a1 q1 n2 w hm1 h
  have HP2 : Hid (∀ w, Jl w a1 .i64 len1 q1 → Calls Try.prog 13 #[.slice a1 len1 cap1, .int .i64 n2] w fun e w' => e = .returned (.tuple #[.int .u64 x, .int .i64 y]) ∧ w = w') := fun w h => hF ▸ rblocks len1 cap1 a1 q1 n2 w hm1 h
  have HBX : Hid (wb.heap[w.heap.size]? = some (.cells #[.int .u8 (P : Int), .int .i64 b0, .int .i64 d0, .int .i64 s0, .slice a0 len0 cap0] 34 (0, 0))) := hbx
  clear hbx hI hJ K1 K2 hF hq hq1 w0 w1 w2 e0 u0 v0 y0 hP hm hm1
  go_enter Try.func4, Try.ntmps4
  go_wp2_with (first
    | rw [← HW.out]
    | (go_at_call 10; refine HK1.out.mono ?_; rintro e w1 ⟨p1, c1, rfl, hj1, hb1⟩; have HJ1 : Hid (Jl w1 p1 .i64 N f) := hj1; have HB1 : Hid (Below wb.heap.size wb w1) := hb1; obtain ⟨t0, t1, t2, t3, t4⟩ := cells5 ((hb1.block _ hlt).trans HBX.out); clear hj1 hb1)
    | (go_at_call 11; refine (HK2.out _ _ (HI.out.later HB1.out)).mono ?_; rintro e w2 ⟨p2, c2, rfl, hj2, hb2⟩; have HJ2 : Hid (Jl w2 p2 .i64 N f) := hj2; have HJ3 : Hid (Jl w2 p1 .i64 N f) := HJ1.out.later hb2; have HB2 : Hid (Below wb.heap.size wb w2) := jtwo HB1.out hb2; have HJ4 : Hid (Jl w2 a1 .i64 len1 q1) := HJ.out.later (jtwo HB1.out hb2); clear hj2 hb2)
    | (go_at_call 12; refine (HP1.out _ HJ4.out).mono ?_; rintro e w3 ⟨rfl, rfl⟩)
    | (go_at_call 13; refine (HP2.out _ HJ4.out).mono ?_; rintro e w4 ⟨rfl, rfl⟩)
    | (go_at_call 14; refine (rints_same N c1 c2 _ _ _ _ (by omega) HJ3.out HJ2.out).mono ?_; rintro e w5 ⟨rfl, hb⟩; have HB5 : Hid (Below w.heap.size w w5) := jtwo HB0.out (jtwo HB2.out hb); clear hb)
    | (go_at_call 15; refine (anch15 _).mono ?_; rintro e w6 ⟨rfl, hb⟩; have HB6 : Hid (Below w.heap.size w w6) := jtwo HB5.out hb; clear hb))
  go_ret
  exact ⟨rfl, HB6.out⟩
set_option maxRecDepth 100000 in
set_option maxHeartbeats 2000000 in
theorem lifted (os : Os) (started : os.Started) (H : Type) (enc : TypeId × Value → H) :
    ReturnsInHanded {} Try.checked os 4 .any (Rows.floorHomesSpec.pre6 enc Try.prog Try.f4 Rows.floorHomesRow.domain false) (Rows.floorHomesSpec.post enc Try.prog Try.f4 false true false false) := by
  refine returnsInHanded_of_change_sized (C := Try.checked) own started (by kernel_rfl) Try.func4
    (ChangeSpec.witness6 (enc := enc) (C := Try.checked) false ⟨#[], #[.agg #[.int .u8 0, .int .i64 0, .int .i64 0, .int .i64 0, .slice none 0 0], .slice none 0 0, .int .i64 0], []⟩ 8 (by kernel_rfl) (by kernel_rfl) (by kernel_rfl) (by kernel_rfl)) ?_
  intro W base args ds gs before hval0 hW hcnd hsz0 _
  have hsz : (DataW.weightsEach Try.prog (Try.f4.params.toList ++ Rows.floorHomesSpec.plain.varTypes Try.prog) (ds ++ gs)).all (· ≤ reachBytes) = true := hsz0
  clear hsz0
  have hval : ∀ (j : Nat) t v, Try.f4.params[j]? = some t → args[j]? = some v → Value.okWide Try.prog W .any base t v := hval0
  have hW' := hW
  obtain ⟨p, q, hA0, hV, rfl, hfz, hnd⟩ := hW
  have hA : DataW.TrodAll enc Try.prog W 0 (fun _ => true) true Try.f4.params.toList args.toList ds p := hA0
  rw [Try.params4] at hA hval hsz
  obtain ⟨va0, vs0, d0, ds0, p0, q0, hargs, rfl, rfl, h0, tr0⟩ := trodAll_cons hA
  obtain ⟨va1, vs1, d1, ds1, p1, q1, rfl, rfl, rfl, h1, tr1⟩ := trodAll_cons tr0
  obtain ⟨va2, vs2, d2, ds2, p2, q2, rfl, rfl, rfl, h2, tr2⟩ := trodAll_cons tr1
  obtain ⟨rfl, rfl, rfl⟩ := trodAll_nil tr2
  obtain rfl : args = #[va0, va1, va2] := by cases args; simp_all
  obtain ⟨rfl, rfl⟩ := trodVars_none hV
  have k0 := h0
  have lt0 : ∀ x ∈ p0, x.block < W.heap.size := by obtain ⟨m, hm⟩ := k0; exact DataW.trod_lt m _ _ _ hm
  obtain ⟨f0, g0, h0a, i0, s0x, k0a, k0b, k0c, k0d, ee0, m0, rfl, rfl, rfl, hf0, hg0, hh0, hi0, hs0⟩ := open_agg5 Try.underlying34 (by kernel_rfl) cellsPl (hval 0 34 va0 rfl rfl) h0
  obtain ⟨p0, ep0, rfl, e0⟩ := DataW.trod_int Try.underlying5 hf0
  simp only [List.cons.injEq, and_true] at ep0
  subst ep0
  obtain ⟨b0, eb0, rfl, u0⟩ := DataW.trod_int Try.underlying3 hg0
  simp only [List.cons.injEq, and_true] at eb0
  subst eb0
  obtain ⟨d0, ed0, rfl, v0⟩ := DataW.trod_int Try.underlying3 hh0
  simp only [List.cons.injEq, and_true] at ed0
  subst ed0
  obtain ⟨s0, es0, rfl, y0⟩ := DataW.trod_int Try.underlying3 hi0
  simp only [List.cons.injEq, and_true] at es0
  subst es0
  obtain ⟨a0, len0, cap0, rfl⟩ : ∃ a l c, s0x = .slice a l c := by
    rcases open_ints Try.underlying32 Try.underlying3 (by kernel_rfl) hs0 with ⟨hcs, _⟩ | ⟨x, l, c, zs, hcs, _⟩
    · simp only [List.cons.injEq, and_true] at hcs; exact ⟨_, _, _, hcs⟩
    · simp only [List.cons.injEq, and_true] at hcs; exact ⟨_, _, _, hcs⟩
  obtain ⟨z0, w0⟩ : ∃ zs, IsRow .i64 W a0 len0 cap0 zs := by
    obtain ⟨fuel, hf⟩ := (⟨m0, hs0⟩ : ∃ fuel, DataW.trod enc Try.prog W 0 (fun _ => true) true fuel 32 [.slice a0 len0 cap0] = some ee0)
    rcases open_ints Try.underlying32 Try.underlying3 (by kernel_rfl) hf with ⟨hcs, _⟩ | ⟨x, l, c, zs, hcs, _, hl, hm, hz, hxx, hcell, hwz⟩
    · simp at hcs
      obtain ⟨rfl, rfl, rfl⟩ := hcs
      exact ⟨[], .inl ⟨rfl, rfl, rfl, rfl⟩⟩
    · simp at hcs
      obtain ⟨rfl, rfl, rfl⟩ := hcs
      have hd := congrArg Prod.fst hxx
      have hs := sized_slice (sized_in hsz (j := 0) (t := 34) rfl rfl) (j := 4) (t := 32) (e := 3) rfl (congrArg some hd) Try.underlying32
      rw [show Try.prog.bytesOf 3 = 8 from by kernel_rfl] at hs
      have hzl : zs.length = cap0 := by simpa using hz
      simp only [lits, List.length_map, List.length_take, List.length_drop, reachBytes] at hs
      exact ⟨zs, .inr ⟨_, rfl, hl, by omega, by simpa using hz, hcell, hwz⟩⟩
  have k1 := h1
  have lt1 : ∀ x ∈ p1, x.block < W.heap.size := by obtain ⟨m, hm⟩ := k1; exact DataW.trod_lt m _ _ _ hm
  obtain ⟨a1, len1, cap1, rfl⟩ := okWide_slice Try.underlying32 (hval 1 32 va1 rfl rfl)
  obtain ⟨z1, w1⟩ : ∃ zs, IsRow .i64 W a1 len1 cap1 zs := by
    obtain ⟨fuel, hf⟩ := h1
    rcases open_ints Try.underlying32 Try.underlying3 (by kernel_rfl) hf with ⟨hcs, _⟩ | ⟨x, l, c, zs, hcs, _, hl, hm, hz, hxx, hcell, hwz⟩
    · simp [Value.cells] at hcs
      obtain ⟨rfl, rfl, rfl⟩ := hcs
      exact ⟨[], .inl ⟨rfl, rfl, rfl, rfl⟩⟩
    · simp [Value.cells] at hcs
      obtain ⟨rfl, rfl, rfl⟩ := hcs
      have hd := congrArg Prod.fst hxx
      have hs := sized_slice hsz (j := 1) (t := 32) (e := 3) rfl (congrArg some hd) Try.underlying32
      rw [show Try.prog.bytesOf 3 = 8 from by kernel_rfl] at hs
      have hzl : zs.length = cap1 := by simpa using hz
      simp only [lits, List.length_map, List.length_take, List.length_drop, reachBytes] at hs
      exact ⟨zs, .inr ⟨_, rfl, hl, by omega, by simpa using hz, hcell, hwz⟩⟩
  have k2 := h2
  have lt2 : ∀ x ∈ p2, x.block < W.heap.size := by obtain ⟨m, hm⟩ := k2; exact DataW.trod_lt m _ _ _ hm
  obtain ⟨n2, rfl, w2⟩ : ∃ n, va2 = .int .i64 n ∧ (Lit.int .i64 n).wf = true := by
    obtain ⟨n, rfl, _, _, hw⟩ := open_int Try.underlying3 (hval 2 3 va2 rfl rfl) h2
    exact ⟨n, rfl, hw⟩
  clear hA0 hval0
  refine (walk p0 b0 d0 s0 a0 len0 cap0 z0 a1 len1 cap1 z1 n2 W e0 u0 v0 y0 w0 w1 w2).mono fun e W' ⟨he, bel⟩ => ?_
  subst he
  exact ⟨_, rfl, _, _, _, [], _, [], hW', trodAll_mk1 (shut_bool Try.underlying4 _), (trodAll_cons_mk (Below.trod laidOut (by kernel_rfl) (of_decide_eq_true (by kernel_rfl)) k0 bel lt0) (trodAll_cons_mk (Below.trod laidOut (by kernel_rfl) (of_decide_eq_true (by kernel_rfl)) k1 bel lt1) (trodAll_cons_mk (Below.trod laidOut (by kernel_rfl) (of_decide_eq_true (by kernel_rfl)) k2 bel lt2) trodAll_mk0))), rfl, bel.frame _, fun h => by cases h⟩
theorem over : Rows.floorHomesRow.holds Try.pinned (OpenSpec.ofChange Rows.floorHomesSpec) :=
  OpenClaim.holds_of_wide 4 Try.f4 rfl rfl rfl rfl rfl rfl rfl ⟨rfl, rfl, rfl, rfl, rfl⟩ rfl rfl rfl rfl rfl (by kernel_rfl) Try.func4 (by kernel_rfl)
    (of_decide_eq_true (by kernel_rfl)) (by unfold Func.isWrapper; first | (rw [if_pos (by decide +kernel)]; kernel_rfl) | (rw [if_neg (by decide +kernel)]; exact ⟨rfl, rfl⟩))
    (fun os started H enc _ => lifted os started H enc)
theorem proved : Rows.FloorHomesSaid := over
#print axioms proved
end Go.Proofs.YtfajmoiffjbcbaaR.floorHomes
