/-
  Proved: for all codes a and b and all data, the blocks of their Product (if there is one, and there are as many data as it wants) are what a makes of what b makes of each row of the data (P16.7); no condition.
-/
import Derived.Test.YtmgfeepnkahkmaaGreatQggid00
import Derived.Test.YtmgfeepnkahkmaaGreatQggid50
import Derived.WalkKit
import Derived.SizedLaws
import Derived.ProofKit
import Derived.OpenShut
import Derived.ShutString
import Derived.ChangeOld
import Derived.Below
import Derived.Lib.SmallJoins
import Derived.Deep.Matrix
set_option maxRecDepth 100000
set_option maxHeartbeats 16000000
namespace Go.Proofs.YtmgfeepnkahkmaaGreat.shapeGrid
open Go.ChangeShapes Go.WideShapes Go.ChangeAt Go.RowKit Go.Joins
set_option linter.unusedVariables false
theorem own : ownKnob Tryz.prog.godebug = none := by kernel_rfl
theorem laidOut : laidOutB Tryz.prog = true := by kernel_rfl
/-- A slice of integers that came in. -/
def IsRow (k : IntKind) (w : World) (a : Option Addr) (len cap : Nat) (zs : List Int) : Prop :=
 (a = none ∧ len = 0 ∧ cap = 0 ∧ zs = []) ∨
 ∃ x, a = some x ∧ len ≤ cap ∧ cap ≤ 140737488351232 ∧ zs.length = cap ∧ (∀ i, i < zs.length → w.cell? (x.add i) = some (.int k (zs.getD i 0))) ∧ ∀ n ∈ zs, (Lit.int k n).wf = true
/-- A slice of slices of bytes that came in. -/
def IsRows (w : World) (a : Option Addr) (len cap : Nat) : Prop :=
 (a = none ∧ len = 0 ∧ cap = 0) ∨
 ∃ x, a = some x ∧ len ≤ cap ∧ cap ≤ 140737488351232 ∧ ∀ r, r < cap → ∃ b l c zs, w.cell? (x.add r) = some (.slice b l c) ∧ IsRow .u8 w b l c zs
theorem sized_in {H : Type} {P : Program} {ts : List TypeId} {ds : List (DataW H)} (h : (DataW.weightsEach P ts ds).all (· ≤ reachBytes) = true) {j : Nat} {t : TypeId} {d : DataW H} (ht : ts[j]? = some t) (hd : ds[j]? = some d) : (d.weights P t).all (· ≤ reachBytes) = true :=
 List.all_eq_true.2 fun n hn => List.all_eq_true.1 h n (DataW.weights_mem_each ht hd n hn)
theorem sized_all {H : Type} {P : Program} {e : TypeId} : ∀ {ds : List (DataW H)}, (DataW.weightsAll P e ds).all (· ≤ reachBytes) = true → ∀ d ∈ ds, (d.weights P e).all (· ≤ reachBytes) = true
 | [], _, d, hd => by simp at hd
 | d0 :: r, h, d, hd => by
  simp only [DataW.weightsAll, List.all_append, Bool.and_eq_true] at h
  rcases List.mem_cons.1 hd with rfl | hd
  ·exact h.1
  ·exact sized_all h.2 d hd
theorem jl_none {k : IntKind} {w : World} {a : Option Addr} {len cap : Nat} {zs : List Int} (h : IsRow k w a len cap zs) : a = none → len = 0 ∧ cap = 0 := by
 intro e
 rcases h with ⟨_, h1, h2, _⟩ | ⟨x, h1, _⟩
 ·exact ⟨h1, h2⟩
 ·rw [e] at h1; cases h1
theorem walk (r0 c0 : Int) (a0 : Option Addr) (len0 cap0 : Nat) (z0 : List Int) (b0 : Option Addr) (gl0 gc0 : Nat) (y0 : List Int) (r1 c1 : Int) (a1 : Option Addr) (len1 cap1 : Nat) (z1 : List Int) (b1 : Option Addr) (gl1 gc1 : Nat) (y1 : List Int) (a2 : Option Addr) (len2 cap2 : Nat) (z2 : List Int) (w : World) (u0 : (Lit.int .i64 r0).wf = true) (v0 : (Lit.int .i64 c0).wf = true) (w0 : IsRow .u8 w a0 len0 cap0 z0) (x0 : IsRow .u64 w b0 gl0 gc0 y0) (t0 : gl0 ≤ 17592186044416) (u1 : (Lit.int .i64 r1).wf = true) (v1 : (Lit.int .i64 c1).wf = true) (w1 : IsRow .u8 w a1 len1 cap1 z1) (x1 : IsRow .u64 w b1 gl1 gc1 y1) (t1 : gl1 ≤ 17592186044416) (w2 : IsRow .u8 w a2 len2 cap2 z2) :
  Calls Tryz.prog 6 #[.agg #[.int .i64 r0, .int .i64 c0, .slice a0 len0 cap0, .slice b0 gl0 gc0], .agg #[.int .i64 r1, .int .i64 c1, .slice a1 len1 cap1, .slice b1 gl1 gc1], .slice a2 len2 cap2] w fun e w' => e = .returned (.bool true) ∧ Below w.heap.size w w' := by
 obtain ⟨F, hf, _⟩ := qe0 w a0 len0 cap0 z0 w0
 obtain ⟨F', hf', _⟩ := qe0 w a1 len1 cap1 z1 w1
 obtain ⟨X, hX, _⟩ := qe0 w a2 len2 cap2 z2 w2
 obtain ⟨q, hq, hq2⟩ := qg1 w b0 gl0 gc0 y0 x0
 obtain ⟨q', hq', hq2'⟩ := qg1 w b1 gl1 gc1 y1 x1
 have hn0 := jl_none x0
 by_cases hM : MayP F r0 c0 len0 gl0 q ∧ MayP F' r1 c1 len1 gl1 q'
 ·obtain ⟨⟨G1, hg1⟩, G2, hg2⟩ := hM
  obtain ⟨ra, ca, rfl, rfl, RA, h1, h2⟩ := G1.nat
  obtain ⟨rb, cb, rfl, rfl, RB, h3, h4⟩ := G2.nat
  rw [Int.toNat_natCast, Int.toNat_natCast] at hg1 hg2
  by_cases hl : 64 < ra * rb ∨ 16384 < gl0 * rb + gl1 * ra
  ·exact qhr w _ _ _ _ 4 a0 b0 a1 b1 a2 len0 cap0 gl0 gc0 len1 cap1 gl1 gc1 len2 cap2 rfl (fun w' h => ql0 w' ra ca len0 cap0 gl0 gc0 rb cb len1 cap1 gl1 gc1 a0 b0 a1 b1 F F' q q' (hf.later h) (hf'.later h) (hq.later h) (hq'.later h) RA RB h1 h2 h3 h4 t0 t1 hg1 hg2 hl)
  ·by_cases hL : len2 = ca * cb
   ·exact ql6 w ra ca len0 cap0 gl0 gc0 rb cb len1 cap1 gl1 gc1 _ len2 _ cap2 a0 b0 a1 b1 a2 F F' q q' X hf hf' hX hq hq' RA RB h1 h2 h3 h4 hg1 hg2 rfl hL.symm rfl (by omega) (by rw [Nat.mul_comm ra gl1]; omega)
   ·exact grid_len w ra ca len0 cap0 gl0 gc0 rb cb len1 cap1 gl1 gc1 _ _ _ len2 cap2 a0 b0 a1 b1 a2 F F' q q' hf hf' hq hq' RA RB h1 h2 h3 h4 hg1 hg2 rfl rfl rfl (by omega) (by rw [Nat.mul_comm ra gl1]; omega) hL
 ·exact qhr w r0 c0 r1 c1 3 a0 b0 a1 b1 a2 len0 cap0 gl0 gc0 len1 cap1 gl1 gc1 len2 cap2 rfl (fun w' h => qkz w' r0 c0 r1 c1 a0 b0 a1 b1 len0 cap0 gl0 gc0 len1 cap1 gl1 gc1 F F' q q' (hf.later h) (hf'.later h) (hq.later h) (hq'.later h) t0 t1 hq2 hq2' hM)
theorem lifted (os : Os) (started : os.Started) (H : Type) (enc : TypeId × Value → H) :
  ReturnsInHanded {} Tryz.checked os 6 .any (Rows.shapeGridSpec.pre6 enc Tryz.prog Tryz.f6 Rows.shapeGridRow.domain false) (Rows.shapeGridSpec.post enc Tryz.prog Tryz.f6 false true false false) := by
 refine returnsInHanded_of_change_sized (C := Tryz.checked) own started (by kernel_rfl) Tryz.func6
  (ChangeSpec.witness6 (enc := enc) (C := Tryz.checked) false ⟨#[], #[.agg #[.int .i64 0, .int .i64 0, .slice none 0 0, .slice none 0 0], .agg #[.int .i64 0, .int .i64 0, .slice none 0 0, .slice none 0 0], .slice none 0 0], []⟩ 8 (by kernel_rfl) (by kernel_rfl) (by kernel_rfl) (by kernel_rfl)) ?_
 intro W base args ds gs before hval0 hW hcnd hsz0 _
 have hsz : (DataW.weightsEach Tryz.prog (Tryz.f6.params.toList ++ Rows.shapeGridSpec.plain.varTypes Tryz.prog) (ds ++ gs)).all (· ≤ reachBytes) = true := hsz0
 clear hsz0
 have hval : ∀ (j : Nat) t v, Tryz.f6.params[j]? = some t → args[j]? = some v → Value.okWide Tryz.prog W .any base t v := hval0
 have hW' := hW
 obtain ⟨p, q, hA0, hV, rfl, hfz, hnd⟩ := hW
 have hA : DataW.TrodAll enc Tryz.prog W 0 (fun _ => true) true Tryz.f6.params.toList args.toList ds p := hA0
 rw [Tryz.params6] at hA hval hsz
 obtain ⟨va0, vs0, d0, ds0, p0, q0, hargs, rfl, rfl, h0, tr0⟩ := trodAll_cons hA
 obtain ⟨va1, vs1, d1, ds1, p1, q1, rfl, rfl, rfl, h1, tr1⟩ := trodAll_cons tr0
 obtain ⟨va2, vs2, d2, ds2, p2, q2, rfl, rfl, rfl, h2, tr2⟩ := trodAll_cons tr1
 obtain ⟨rfl, rfl, rfl⟩ := trodAll_nil tr2
 obtain rfl : args = #[va0, va1, va2] := by cases args; simp_all
 obtain ⟨rfl, rfl⟩ := trodVars_none hV
 have k0 := h0
 have lt0 : ∀ x ∈ p0, x.block < W.heap.size := by obtain ⟨m, hm⟩ := k0; exact DataW.trod_lt m _ _ _ hm
 obtain ⟨f0, g0, s0, q0v, k0a, k0b, k0c, k0d, mm0, m0, rfl, rfl, rfl, hf0, hg0, hs0, hq0⟩ := qfz Tryz.underlying27 Tryz.underlying24 (by kernel_rfl) rfl rfl (by kernel_rfl) (by kernel_rfl) (by kernel_rfl) (hval 0 27 va0 rfl rfl) h0
 obtain ⟨r0, er0, rfl, u0⟩ := DataW.trod_int Tryz.underlying3 hf0
 simp only [List.cons.injEq, and_true] at er0
 subst er0
 obtain ⟨c0, ec0, rfl, v0⟩ := DataW.trod_int Tryz.underlying3 hg0
 simp only [List.cons.injEq, and_true] at ec0
 subst ec0
 obtain ⟨a0, len0, cap0, rfl⟩ : ∃ a l c, s0 = .slice a l c := by
  rcases open_ints Tryz.underlying22 Tryz.underlying5 (by kernel_rfl) hs0 with ⟨hcs, _⟩ | ⟨x, l, c, zs, hcs, _⟩
  ·simp only [List.cons.injEq, and_true] at hcs; exact ⟨_, _, _, hcs⟩
  ·simp only [List.cons.injEq, and_true] at hcs; exact ⟨_, _, _, hcs⟩
 obtain ⟨z0, w0⟩ : ∃ zs, IsRow .u8 W a0 len0 cap0 zs := by
  obtain ⟨fuel, hf⟩ := (⟨m0, hs0⟩ : ∃ fuel, DataW.trod enc Tryz.prog W 0 (fun _ => true) true fuel 22 [.slice a0 len0 cap0] = some k0c)
  rcases open_ints Tryz.underlying22 Tryz.underlying5 (by kernel_rfl) hf with ⟨hcs, _⟩ | ⟨x, l, c, zs, hcs, _, hl, hm, hz, hxx, hcell, hwz⟩
  ·simp at hcs
   obtain ⟨rfl, rfl, rfl⟩ := hcs
   exact ⟨[], .inl ⟨rfl, rfl, rfl, rfl⟩⟩
  ·simp at hcs
   obtain ⟨rfl, rfl, rfl⟩ := hcs
   have hd := congrArg Prod.fst hxx
   have hs := sized_slice (sized_in (sized_in hsz (j := 0) (t := 27) rfl rfl) (j := 0) (t := 24) rfl rfl) (j := 2) (t := 22) (e := 5) rfl (congrArg some hd) Tryz.underlying22
   rw [show Tryz.prog.bytesOf 5 = 1 from by kernel_rfl] at hs
   have hzl : zs.length = cap0 := by simpa using hz
   simp only [lits, List.length_map, List.length_take, List.length_drop, reachBytes] at hs
   exact ⟨zs, .inr ⟨_, rfl, hl, by omega, by simpa using hz, hcell, hwz⟩⟩
 obtain ⟨b0, gl0, gc0, rfl⟩ : ∃ a l c, q0v = .slice a l c := by
  rcases open_ints Tryz.underlying25 Tryz.underlying52 (by kernel_rfl) hq0 with ⟨hcs, _⟩ | ⟨x, l, c, zs, hcs, _⟩
  ·simp only [List.cons.injEq, and_true] at hcs; exact ⟨_, _, _, hcs⟩
  ·simp only [List.cons.injEq, and_true] at hcs; exact ⟨_, _, _, hcs⟩
 obtain ⟨y0, x0, t0⟩ : ∃ zs, IsRow .u64 W b0 gl0 gc0 zs ∧ gl0 ≤ 17592186044416 := by
  obtain ⟨fuel, hf⟩ := (⟨mm0, hq0⟩ : ∃ fuel, DataW.trod enc Tryz.prog W 0 (fun _ => true) true fuel 25 [.slice b0 gl0 gc0] = some k0d)
  rcases open_ints Tryz.underlying25 Tryz.underlying52 (by kernel_rfl) hf with ⟨hcs, _⟩ | ⟨x, l, c, zs, hcs, _, hl, hm, hz, hxx, hcell, hwz⟩
  ·simp at hcs
   obtain ⟨rfl, rfl, rfl⟩ := hcs
   exact ⟨[], .inl ⟨rfl, rfl, rfl, rfl⟩, by omega⟩
  ·simp at hcs
   obtain ⟨rfl, rfl, rfl⟩ := hcs
   have hd := congrArg Prod.fst hxx
   have hs := sized_slice (sized_in hsz (j := 0) (t := 27) rfl rfl) (j := 1) (t := 25) (e := 52) rfl (congrArg some hd) Tryz.underlying25
   rw [show Tryz.prog.bytesOf 52 = 8 from by kernel_rfl] at hs
   have hzl : zs.length = gc0 := by simpa using hz
   simp only [lits, List.length_map, List.length_take, List.length_drop, reachBytes] at hs
   exact ⟨zs, .inr ⟨_, rfl, hl, by omega, by simpa using hz, hcell, hwz⟩, by omega⟩
 have k1 := h1
 have lt1 : ∀ x ∈ p1, x.block < W.heap.size := by obtain ⟨m, hm⟩ := k1; exact DataW.trod_lt m _ _ _ hm
 obtain ⟨f1, g1, s1, q1v, k1a, k1b, k1c, k1d, mm1, m1, rfl, rfl, rfl, hf1, hg1, hs1, hq1⟩ := qfz Tryz.underlying27 Tryz.underlying24 (by kernel_rfl) rfl rfl (by kernel_rfl) (by kernel_rfl) (by kernel_rfl) (hval 1 27 va1 rfl rfl) h1
 obtain ⟨r1, er1, rfl, u1⟩ := DataW.trod_int Tryz.underlying3 hf1
 simp only [List.cons.injEq, and_true] at er1
 subst er1
 obtain ⟨c1, ec1, rfl, v1⟩ := DataW.trod_int Tryz.underlying3 hg1
 simp only [List.cons.injEq, and_true] at ec1
 subst ec1
 obtain ⟨a1, len1, cap1, rfl⟩ : ∃ a l c, s1 = .slice a l c := by
  rcases open_ints Tryz.underlying22 Tryz.underlying5 (by kernel_rfl) hs1 with ⟨hcs, _⟩ | ⟨x, l, c, zs, hcs, _⟩
  ·simp only [List.cons.injEq, and_true] at hcs; exact ⟨_, _, _, hcs⟩
  ·simp only [List.cons.injEq, and_true] at hcs; exact ⟨_, _, _, hcs⟩
 obtain ⟨z1, w1⟩ : ∃ zs, IsRow .u8 W a1 len1 cap1 zs := by
  obtain ⟨fuel, hf⟩ := (⟨m1, hs1⟩ : ∃ fuel, DataW.trod enc Tryz.prog W 0 (fun _ => true) true fuel 22 [.slice a1 len1 cap1] = some k1c)
  rcases open_ints Tryz.underlying22 Tryz.underlying5 (by kernel_rfl) hf with ⟨hcs, _⟩ | ⟨x, l, c, zs, hcs, _, hl, hm, hz, hxx, hcell, hwz⟩
  ·simp at hcs
   obtain ⟨rfl, rfl, rfl⟩ := hcs
   exact ⟨[], .inl ⟨rfl, rfl, rfl, rfl⟩⟩
  ·simp at hcs
   obtain ⟨rfl, rfl, rfl⟩ := hcs
   have hd := congrArg Prod.fst hxx
   have hs := sized_slice (sized_in (sized_in hsz (j := 1) (t := 27) rfl rfl) (j := 0) (t := 24) rfl rfl) (j := 2) (t := 22) (e := 5) rfl (congrArg some hd) Tryz.underlying22
   rw [show Tryz.prog.bytesOf 5 = 1 from by kernel_rfl] at hs
   have hzl : zs.length = cap1 := by simpa using hz
   simp only [lits, List.length_map, List.length_take, List.length_drop, reachBytes] at hs
   exact ⟨zs, .inr ⟨_, rfl, hl, by omega, by simpa using hz, hcell, hwz⟩⟩
 obtain ⟨b1, gl1, gc1, rfl⟩ : ∃ a l c, q1v = .slice a l c := by
  rcases open_ints Tryz.underlying25 Tryz.underlying52 (by kernel_rfl) hq1 with ⟨hcs, _⟩ | ⟨x, l, c, zs, hcs, _⟩
  ·simp only [List.cons.injEq, and_true] at hcs; exact ⟨_, _, _, hcs⟩
  ·simp only [List.cons.injEq, and_true] at hcs; exact ⟨_, _, _, hcs⟩
 obtain ⟨y1, x1, t1⟩ : ∃ zs, IsRow .u64 W b1 gl1 gc1 zs ∧ gl1 ≤ 17592186044416 := by
  obtain ⟨fuel, hf⟩ := (⟨mm1, hq1⟩ : ∃ fuel, DataW.trod enc Tryz.prog W 0 (fun _ => true) true fuel 25 [.slice b1 gl1 gc1] = some k1d)
  rcases open_ints Tryz.underlying25 Tryz.underlying52 (by kernel_rfl) hf with ⟨hcs, _⟩ | ⟨x, l, c, zs, hcs, _, hl, hm, hz, hxx, hcell, hwz⟩
  ·simp at hcs
   obtain ⟨rfl, rfl, rfl⟩ := hcs
   exact ⟨[], .inl ⟨rfl, rfl, rfl, rfl⟩, by omega⟩
  ·simp at hcs
   obtain ⟨rfl, rfl, rfl⟩ := hcs
   have hd := congrArg Prod.fst hxx
   have hs := sized_slice (sized_in hsz (j := 1) (t := 27) rfl rfl) (j := 1) (t := 25) (e := 52) rfl (congrArg some hd) Tryz.underlying25
   rw [show Tryz.prog.bytesOf 52 = 8 from by kernel_rfl] at hs
   have hzl : zs.length = gc1 := by simpa using hz
   simp only [lits, List.length_map, List.length_take, List.length_drop, reachBytes] at hs
   exact ⟨zs, .inr ⟨_, rfl, hl, by omega, by simpa using hz, hcell, hwz⟩, by omega⟩
 have k2 := h2
 have lt2 : ∀ x ∈ p2, x.block < W.heap.size := by obtain ⟨m, hm⟩ := k2; exact DataW.trod_lt m _ _ _ hm
 obtain ⟨a2, len2, cap2, rfl⟩ := okWide_slice Tryz.underlying22 (hval 2 22 va2 rfl rfl)
 obtain ⟨z2, w2⟩ : ∃ zs, IsRow .u8 W a2 len2 cap2 zs := by
  obtain ⟨fuel, hf⟩ := h2
  rcases open_ints Tryz.underlying22 Tryz.underlying5 (by kernel_rfl) hf with ⟨hcs, _⟩ | ⟨x, l, c, zs, hcs, _, hl, hm, hz, hxx, hcell, hwz⟩
  ·simp [Value.cells] at hcs
   obtain ⟨rfl, rfl, rfl⟩ := hcs
   exact ⟨[], .inl ⟨rfl, rfl, rfl, rfl⟩⟩
  ·simp [Value.cells] at hcs
   obtain ⟨rfl, rfl, rfl⟩ := hcs
   have hd := congrArg Prod.fst hxx
   have hs := sized_slice hsz (j := 2) (t := 22) (e := 5) rfl (congrArg some hd) Tryz.underlying22
   rw [show Tryz.prog.bytesOf 5 = 1 from by kernel_rfl] at hs
   have hzl : zs.length = cap2 := by simpa using hz
   simp only [lits, List.length_map, List.length_take, List.length_drop, reachBytes] at hs
   exact ⟨zs, .inr ⟨_, rfl, hl, by omega, by simpa using hz, hcell, hwz⟩⟩
 clear hA0 hval0
 refine (walk r0 c0 a0 len0 cap0 z0 b0 gl0 gc0 y0 r1 c1 a1 len1 cap1 z1 b1 gl1 gc1 y1 a2 len2 cap2 z2 W u0 v0 w0 x0 t0 u1 v1 w1 x1 t1 w2).mono fun e W' ⟨he, bel⟩ => ?_
 subst he
 exact ⟨_, rfl, _, _, _, [], _, [], hW', trodAll_mk1 (shut_bool Tryz.underlying4 _), (trodAll_cons_mk (Below.trod laidOut (by kernel_rfl) (of_decide_eq_true (by kernel_rfl)) k0 bel lt0) (trodAll_cons_mk (Below.trod laidOut (by kernel_rfl) (of_decide_eq_true (by kernel_rfl)) k1 bel lt1) (trodAll_cons_mk (Below.trod laidOut (by kernel_rfl) (of_decide_eq_true (by kernel_rfl)) k2 bel lt2) trodAll_mk0))), rfl, bel.frame _, fun h => by cases h⟩
theorem over : Rows.shapeGridRow.holds Tryz.pinned (OpenSpec.ofChange Rows.shapeGridSpec) :=
 OpenClaim.holds_of_wide 6 Tryz.f6 rfl rfl rfl rfl rfl rfl rfl ⟨rfl, rfl, rfl, rfl, rfl⟩ rfl rfl rfl rfl rfl (by kernel_rfl) Tryz.func6 (by kernel_rfl)
  (of_decide_eq_true (by kernel_rfl)) (by unfold Func.isWrapper; first | (rw [if_pos (by decide +kernel)]; kernel_rfl) | (rw [if_neg (by decide +kernel)]; exact ⟨rfl, rfl⟩))
  (fun os started H enc _ => lifted os started H enc)
theorem proved : Rows.ShapeGridSaid := over
#print axioms proved
end Go.Proofs.YtmgfeepnkahkmaaGreat.shapeGrid
