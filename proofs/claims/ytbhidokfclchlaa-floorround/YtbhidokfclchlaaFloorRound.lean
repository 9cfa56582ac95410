/-
  Proved: for all cells whose parts are int16 and every number of quarters that is an int8: turned back, and by four times as many quarters, a cell is itself; turned alike two cells are as far apart as before; over a third cell it is no nearer; only the cell itself is 0 apart (P15.5); no condition.
-/
import Derived.Test.YtbhidokfclchlaaK2b
import Derived.Test.YtbhidokfclchlaaK1o
import Derived.WalkKit
import Derived.SizedLaws
import Derived.ProofKit
import Derived.OpenShut
import Derived.ShutString
import Derived.ChangeOld
import Derived.Below
import Derived.Lib.SmallJoins
import Derived.Deep.Matrix
namespace Go.Proofs.Ytbhidokfclchlaa.floorRound
open Go.ChangeShapes Go.WideShapes Go.ChangeAt Go.RowKit Go.Joins
set_option linter.unusedVariables false
theorem own : ownKnob Try.prog.godebug = none := by kernel_rfl
theorem laidOut : laidOutB Try.prog = true := by kernel_rfl
/-- A slice of integers that came in. -/
def IsRow (k : IntKind) (w : World) (a : Option Addr) (len cap : Nat) (zs : List Int) : Prop :=
  (a = none ∧ len = 0 ∧ cap = 0 ∧ zs = []) ∨
  ∃ x, a = some x ∧ len ≤ cap ∧ cap ≤ 140737488351232 ∧ zs.length = cap ∧ (∀ i, i < zs.length → w.cell? (x.add i) = some (.int k (zs.getD i 0))) ∧ ∀ n ∈ zs, (Lit.int k n).wf = true
/-- A slice of slices of bytes that came in. -/
def IsRows (w : World) (a : Option Addr) (len cap : Nat) : Prop :=
  (a = none ∧ len = 0 ∧ cap = 0) ∨
  ∃ x, a = some x ∧ len ≤ cap ∧ cap ≤ 140737488351232 ∧ ∀ r, r < cap → ∃ b l c zs, w.cell? (x.add r) = some (.slice b l c) ∧ IsRow .u8 w b l c zs
theorem sized_in {H : Type} {P : Program} {ts : List TypeId} {ds : List (DataW H)} (h : (DataW.weightsEach P ts ds).all (· ≤ reachBytes) = true) {j : Nat} {t : TypeId} {d : DataW H} (ht : ts[j]? = some t) (hd : ds[j]? = some d) : (d.weights P t).all (· ≤ reachBytes) = true :=
  List.all_eq_true.2 fun n hn => List.all_eq_true.1 h n (DataW.weights_mem_each ht hd n hn)
theorem sized_all {H : Type} {P : Program} {e : TypeId} : ∀ {ds : List (DataW H)}, (DataW.weightsAll P e ds).all (· ≤ reachBytes) = true → ∀ d ∈ ds, (d.weights P e).all (· ≤ reachBytes) = true
  | [], _, d, hd => by simp at hd
  | d0 :: r, h, d, hd => by
    simp only [DataW.weightsAll, List.all_append, Bool.and_eq_true] at h
    rcases List.mem_cons.1 hd with rfl | hd
    · exact h.1
    · exact sized_all h.2 d hd
theorem i16_of_wf {n : Int} (h : (Lit.int .i16 n).wf = true) : -32768 ≤ n ∧ n ≤ 32767 := by
  simp [Lit.wf, IntKind.min, IntKind.max, IntKind.signed, IntKind.bits] at h
  omega
theorem i8_of_wf {n : Int} (h : (Lit.int .i8 n).wf = true) : -128 ≤ n ∧ n ≤ 127 := by
  simp [Lit.wf, IntKind.min, IntKind.max, IntKind.signed, IntKind.bits] at h
  omega
theorem jhid15 {p : Prop} (h : p) : Hid p := h
theorem cells2 {w : World} {g : Nat} {T : TypeId} {v0 v1 : Value} (h : w.heap[g]? = some (.cells #[v0, v1] T (0, 0))) : w.cell? ⟨g, 0, none⟩ = some v0 ∧ w.cell? ⟨g, 1, none⟩ = some v1 := by
  refine ⟨?_, ?_⟩ <;> (rw [cell_of_row _ _ _ _ _ _ h]; rfl)
theorem gx_eq {x y u v : Nat} {a b c d : Int} (hx : Gw x a) (hy : Gw y b) (hu : Gw u c) (hv : Gw v d) {r : Bool} (hr : (decide (a = c) && decide (b = d)) = r) (t : TypeId) (w : World) :
    (binOp .eql t (.complex .f64 x y) (.complex .f64 u v)).run Try.prog w = .ok (.bool r) w := by
  have e : ∀ {x y : Nat} {a b : Int}, Gw x a → Gw y b → (FloatKind.f64.format.order x y == some .eq) = decide (a = b) := fun {x y a b} h1 h2 => by
    rw [gw_order h1 h2]
    by_cases e : a = b
    · subst e; simp
    · simp [e]
  rw [run_eql_complex, e hx hu, e hy hv, hr]
theorem turn4 (q a b : Int) : ∃ k : Nat, k < 4 ∧ (q % 4).toNat = k ∧ rtx ((-q) % 4).toNat (rtx k a b).1 (rtx k a b).2 = (a, b) ∧ rtx ((4 * q) % 4).toNat a b = (a, b) := by
  have h0 : ((4 * q) % 4).toNat = 0 := by omega
  rcases (show q % 4 = 0 ∨ q % 4 = 1 ∨ q % 4 = 2 ∨ q % 4 = 3 by omega) with h | h | h | h
  · exact ⟨0, by omega, by omega, by rw [show ((-q) % 4).toNat = 0 by omega]; rfl, by rw [h0]; rfl⟩
  · exact ⟨1, by omega, by omega, by rw [show ((-q) % 4).toNat = 3 by omega]; simp [rtx], by rw [h0]; rfl⟩
  · exact ⟨2, by omega, by omega, by rw [show ((-q) % 4).toNat = 2 by omega]; simp [rtx], by rw [h0]; rfl⟩
  · exact ⟨3, by omega, by omega, by rw [show ((-q) % 4).toNat = 1 by omega]; simp [rtx], by rw [h0]; rfl⟩
theorem turn_apart (k : Nat) (hk : k < 4) (a b c d : Int) : ((rtx k c d).1 - (rtx k a b).1).natAbs + ((rtx k c d).2 - (rtx k a b).2).natAbs = (a - c).natAbs + (b - d).natAbs := by
  rcases (show k = 0 ∨ k = 1 ∨ k = 2 ∨ k = 3 by omega) with rfl | rfl | rfl | rfl <;> simp only [rtx] <;> omega

set_option maxRecDepth 20000 in
set_option maxHeartbeats 4000000 in
theorem walk (n0 m0 : Int) (n1 m1 : Int) (n2 : Int) (w : World) (w0 : (Lit.int .i16 n0).wf = true) (x0 : (Lit.int .i16 m0).wf = true) (w1 : (Lit.int .i16 n1).wf = true) (x1 : (Lit.int .i16 m1).wf = true) (w2 : (Lit.int .i8 n2).wf = true) :
    Calls Try.prog 3 #[.agg #[.int .i16 n0, .int .i16 m0], .agg #[.int .i16 n1, .int .i16 m1], .int .i8 n2] w fun e w' => e = .returned (.bool true) ∧ Below w.heap.size w w' := by
  have lx0 := i16_of_wf w0
  have lx1 := i16_of_wf x0
  have ly0 := i16_of_wf w1
  have ly1 := i16_of_wf x1
  have lq := i8_of_wf w2
  obtain ⟨fi, Hfi, HMa⟩ : ∃ fi : Int → Nat, Hid (∀ n : Int, n.natAbs < 2 ^ 53 → Gw (fi n) n) ∧ Hid (∀ (u v : Int) (w : World), Calls Try.prog 4 #[.int .i64 u, .int .i64 v] w fun e w' => e = .returned (.complex .f64 (fi u) (fi v)) ∧ w' = w) := ⟨floatOfInt .f64, fun n h => gw_of n h, rmade⟩
  have ga0 := Hfi.out n0 (by omega)
  have ga1 := Hfi.out m0 (by omega)
  have gb0 := Hfi.out n1 (by omega)
  have gb1 := Hfi.out m1 (by omega)
  obtain ⟨k, hk, hkq, hback, hfour⟩ := turn4 n2 n0 m0
  obtain ⟨c1, c2, gc1, gc2, HT1⟩ := gturn (fi n0) (fi m0) n0 m0 n2 ga0 ga1 (by omega) (by omega) (by omega)
  obtain ⟨e1, e2, ge1, ge2, HT2⟩ := gturn (fi n1) (fi m1) n1 m1 n2 gb0 gb1 (by omega) (by omega) (by omega)
  rw [hkq] at gc1 gc2 ge1 ge2
  have lc := rtx_fit n0 m0 (by omega) (by omega) k
  have le := rtx_fit n1 m1 (by omega) (by omega) k
  obtain ⟨z1, z2, gz1, gz2, HT3⟩ := gturn c1 c2 _ _ (-n2) gc1 gc2 lc.1 lc.2 (by omega)
  rw [hback] at gz1 gz2
  obtain ⟨t1, t2, gt1, gt2, HT4⟩ := gturn (fi n0) (fi m0) n0 m0 (4 * n2) ga0 ga1 (by omega) (by omega) (by omega)
  rw [hfour] at gt1 gt2
  have HA1 := fun w => gapart2 _ _ _ _ n0 m0 n1 m1 w ga0 ga1 gb0 gb1 (by omega) (by omega) (by omega) (by omega)
  have HA2 := fun w => gapart2 _ _ _ _ _ _ _ _ w ge1 ge2 gc1 gc2 le.1 le.2 lc.1 lc.2
  have HA3 := fun w => gapart2 _ _ _ _ _ _ _ _ w ga0 ga1 gc1 gc2 (by omega) (by omega) lc.1 lc.2
  have HA4 := fun w => gapart2 _ _ _ _ _ _ _ _ w gc1 gc2 gb0 gb1 lc.1 lc.2 (by omega) (by omega)
  rw [turn_apart k hk n0 m0 n1 m1] at HA2
  obtain ⟨M, hM⟩ : ∃ M : Nat, (n0 - n1).natAbs + (m0 - m1).natAbs = M := ⟨_, rfl⟩
  obtain ⟨P, hP⟩ : ∃ P : Nat, (n0 - (rtx k n0 m0).1).natAbs + (m0 - (rtx k n0 m0).2).natAbs = P := ⟨_, rfl⟩
  obtain ⟨Q, hQ⟩ : ∃ Q : Nat, ((rtx k n0 m0).1 - n1).natAbs + ((rtx k n0 m0).2 - m1).natAbs = Q := ⟨_, rfl⟩
  have hMPQ : M ≤ P + Q := by omega
  have hPQ : P + Q ≤ 100000000 := by omega
  rw [hM] at HA1 HA2
  rw [hP] at HA3
  rw [hQ] at HA4
  have q1 := fun t w => gx_eq gz1 gz2 ga0 ga1 (r := true) (by simp) t w
  have q2 := fun t w => gx_eq gt1 gt2 ga0 ga1 (r := true) (by simp) t w
  obtain ⟨r, hr⟩ : ∃ r, (decide (n0 = n1) && decide (m0 = m1)) = r := ⟨_, rfl⟩
  have q3 := fun t w => gx_eq ga0 ga1 gb0 gb1 (r := r) hr t w
  have hr2 : decide ((M : Int) = 0) = r := by
    rw [← hr]
    by_cases e : n0 = n1 ∧ m0 = m1
    · rw [decide_eq_true (show (M : Int) = 0 by omega), decide_eq_true e.1, decide_eq_true e.2]; rfl
    · rw [decide_eq_false (show ¬ (M : Int) = 0 by omega), ← Bool.decide_and, decide_eq_false e]
  have hfin : (((M : Int) == 0) == r) = true := by
    rw [← hr2]
    by_cases e : (M : Int) = 0
    · rw [e]; rfl
    · rw [decide_eq_false e, beq_eq_false_iff_ne.2 e]; rfl
  have w4 : IntKind.i64.wrap (4 * n2) = 4 * n2 := by rw [IntKind.wrap_i64]; omega
  have wn : IntKind.i64.wrap (-n2) = -n2 := by rw [IntKind.wrap_i64]; omega
  have c3 : decide ((M : Int) ≤ (P : Int) + (Q : Int)) = true := decide_eq_true (by omega)
  have H1 := jhid15 HT1
  have H2 := jhid15 HT2
  have H3 := jhid15 HT3
  have H4 := jhid15 HT4
  have K1 := jhid15 HA1
  have K2 := jhid15 HA2
  have K3 := jhid15 HA3
  have K4 := jhid15 HA4
  clear HT1 HT2 HT3 HT4 HA1 HA2 HA3 HA4 ga0 ga1 gb0 gb1 gc1 gc2 ge1 ge2 gz1 gz2 gt1 gt2 hM hP hQ lc le hr hback hfour hkq hk Hfi w0 x0 w1 x1 w2
  have v0 : IntKind.i64.wrap n0 = n0 := by rw [IntKind.wrap_i64]; omega
  have v1 : IntKind.i64.wrap m0 = m0 := by rw [IntKind.wrap_i64]; omega
  have v2 : IntKind.i64.wrap n1 = n1 := by rw [IntKind.wrap_i64]; omega
  have v3 : IntKind.i64.wrap m1 = m1 := by rw [IntKind.wrap_i64]; omega
  have v4 : IntKind.i64.wrap n2 = n2 := by rw [IntKind.wrap_i64]; omega
  obtain ⟨wb, HW⟩ : ∃ wb, Hid (wb = (w.alloc (.cells #[.int .i16 n0, .int .i16 m0] 23)).alloc (.cells #[.int .i16 n1, .int .i16 m1] 23)) := ⟨_, rfl⟩
  have HB0 : Hid (Below w.heap.size w wb) := by rw [HW.out]; exact jtwo (jlow _ _) (jlow _ _)
  have hx0 := cells2 (w := (w.alloc (.cells #[.int .i16 n0, .int .i16 m0] 23)).alloc (.cells #[.int .i16 n1, .int .i16 m1] 23)) (g := w.heap.size) (T := 23) (v0 := .int .i16 n0) (v1 := .int .i16 m0) (by rw [(jlow _ _).block _ (by simp)]; exact World.alloc_heap_new w _)
  have hx1 := cells2 (w := (w.alloc (.cells #[.int .i16 n0, .int .i16 m0] 23)).alloc (.cells #[.int .i16 n1, .int .i16 m1] 23)) (g := w.heap.size + 1) (T := 23) (v0 := .int .i16 n1) (v1 := .int .i16 m1) (by have := World.alloc_heap_new (w.alloc (.cells #[.int .i16 n0, .int .i16 m0] 23)) (.cells #[.int .i16 n1, .int .i16 m1] 23); simpa using this)
  rw [← HW.out] at hx0 hx1
  obtain ⟨y0, y1⟩ := hx0
  obtain ⟨y2, y3⟩ := hx1
  go_enter Try.func3, Try.ntmps3
  go_wp2_with (rw [← HW.out])
  go_quiet ((go_at_call 4; exact Calls.quiet_of_same (HMa.out _ _ _)))
  obtain ⟨v, HV⟩ : ∃ v, Hid (v = wb.drewN nq) := ⟨_, rfl⟩
  rw [← HV.out]
  have HBv : Hid (Below w.heap.size w v) := by rw [HV.out]; exact below_drewN HB0.out _
  clear y0 y1 y2 y3 HMa HW HV HB0
  go_wp2_with (first
    | (have _m := m3; go_at_call 5; refine (H4.out _).mono ?_; rintro e w' ⟨rfl, rfl⟩)
    | (have _m := m2; go_at_call 5; refine (H3.out _).mono ?_; rintro e w' ⟨rfl, rfl⟩; have m3 : True := trivial)
    | (have _m := m1'; go_at_call 5; refine (H2.out _).mono ?_; rintro e w' ⟨rfl, rfl⟩; have m2 : True := trivial)
    | (go_at_call 5; refine (H1.out _).mono ?_; rintro e w' ⟨rfl, rfl⟩; have m1' : True := trivial)
    | (have _m := k3; go_at_call 6; refine (K4.out _).mono ?_; rintro e w' ⟨rfl, rfl⟩)
    | (have _m := k2; go_at_call 6; refine (K3.out _).mono ?_; rintro e w' ⟨rfl, rfl⟩; have k3 : True := trivial)
    | (have _m := k1; go_at_call 6; refine (K2.out _).mono ?_; rintro e w' ⟨rfl, rfl⟩; have k2 : True := trivial)
    | (go_at_call 6; refine (K1.out _).mono ?_; rintro e w' ⟨rfl, rfl⟩; have k1 : True := trivial)
    | (go_at_call 7; refine (anch15 _).mono ?_; rintro e w6 ⟨rfl, hb⟩; have HB6 : Hid (Below w.heap.size w w6) := jtwo HBv.out hb; clear hb))
  go_ret
  exact ⟨rfl, HB6.out⟩
set_option maxRecDepth 100000 in
set_option maxHeartbeats 2000000 in
theorem lifted (os : Os) (started : os.Started) (H : Type) (enc : TypeId × Value → H) :
    ReturnsInHanded {} Try.checked os 3 .any (Rows.floorRoundSpec.pre6 enc Try.prog Try.f3 Rows.floorRoundRow.domain false) (Rows.floorRoundSpec.post enc Try.prog Try.f3 false true false false) := by
  refine returnsInHanded_of_change_sized (C := Try.checked) own started (by kernel_rfl) Try.func3
    (ChangeSpec.witness6 (enc := enc) (C := Try.checked) false ⟨#[], #[.agg #[.int .i16 0, .int .i16 0], .agg #[.int .i16 0, .int .i16 0], .int .i8 0], []⟩ 8 (by kernel_rfl) (by kernel_rfl) (by kernel_rfl) (by kernel_rfl)) ?_
  intro W base args ds gs before hval0 hW hcnd hsz0 _
  have hsz : (DataW.weightsEach Try.prog (Try.f3.params.toList ++ Rows.floorRoundSpec.plain.varTypes Try.prog) (ds ++ gs)).all (· ≤ reachBytes) = true := hsz0
  clear hsz0
  have hval : ∀ (j : Nat) t v, Try.f3.params[j]? = some t → args[j]? = some v → Value.okWide Try.prog W .any base t v := hval0
  have hW' := hW
  obtain ⟨p, q, hA0, hV, rfl, hfz, hnd⟩ := hW
  have hA : DataW.TrodAll enc Try.prog W 0 (fun _ => true) true Try.f3.params.toList args.toList ds p := hA0
  rw [Try.params3] at hA hval hsz
  obtain ⟨va0, vs0, d0, ds0, p0, q0, hargs, rfl, rfl, h0, tr0⟩ := trodAll_cons hA
  obtain ⟨va1, vs1, d1, ds1, p1, q1, rfl, rfl, rfl, h1, tr1⟩ := trodAll_cons tr0
  obtain ⟨va2, vs2, d2, ds2, p2, q2, rfl, rfl, rfl, h2, tr2⟩ := trodAll_cons tr1
  obtain ⟨rfl, rfl, rfl⟩ := trodAll_nil tr2
  obtain rfl : args = #[va0, va1, va2] := by cases args; simp_all
  obtain ⟨rfl, rfl⟩ := trodVars_none hV
  have k0 := h0
  have lt0 : ∀ x ∈ p0, x.block < W.heap.size := by obtain ⟨m, hm⟩ := k0; exact DataW.trod_lt m _ _ _ hm
  obtain ⟨cs0, rfl, hsz0, _⟩ : ∃ cs, va0 = .agg cs ∧ cs.size = Try.prog.cellsOf 23 ∧ Row.okWide Try.prog W .any base 23 cs := by
    have := hval 0 23 va0 rfl rfl
    simpa [Value.okWide, Try.underlying23] using this
  obtain ⟨qa0, qb0, rfl⟩ := array2 (hsz0.trans (show Try.prog.cellsOf 23 = 2 from by kernel_rfl))
  obtain ⟨n0, m0, ⟨rfl, w0⟩, rfl, x0⟩ : ∃ n m : Int, (qa0 = .int .i16 n ∧ (Lit.int .i16 n).wf = true) ∧ qb0 = .int .i16 m ∧ (Lit.int .i16 m).wf = true := by
    obtain ⟨fuel, hf⟩ := h0
    obtain ⟨xs, mm, _, _, _, hlen, hel⟩ := DataW.trod_array Try.underlying23 hf
    have hce : Try.prog.cellsOf 22 = 1 := by kernel_rfl
    have e0 := hel 0 (by omega)
    have e1 := hel 1 (by omega)
    match xs, hlen with
    | [y0, y1], _ =>
      simp [Value.cells, hce] at e0 e1
      obtain ⟨n, en, _, wn⟩ := DataW.trod_int Try.underlying22 e0
      obtain ⟨m, em, _, wm⟩ := DataW.trod_int Try.underlying22 e1
      simp only [List.cons.injEq, and_true] at en em
      exact ⟨n, m, ⟨en, wn⟩, em, wm⟩
  have k1 := h1
  have lt1 : ∀ x ∈ p1, x.block < W.heap.size := by obtain ⟨m, hm⟩ := k1; exact DataW.trod_lt m _ _ _ hm
  obtain ⟨cs1, rfl, hsz1, _⟩ : ∃ cs, va1 = .agg cs ∧ cs.size = Try.prog.cellsOf 23 ∧ Row.okWide Try.prog W .any base 23 cs := by
    have := hval 1 23 va1 rfl rfl
    simpa [Value.okWide, Try.underlying23] using this
  obtain ⟨qa1, qb1, rfl⟩ := array2 (hsz1.trans (show Try.prog.cellsOf 23 = 2 from by kernel_rfl))
  obtain ⟨n1, m1, ⟨rfl, w1⟩, rfl, x1⟩ : ∃ n m : Int, (qa1 = .int .i16 n ∧ (Lit.int .i16 n).wf = true) ∧ qb1 = .int .i16 m ∧ (Lit.int .i16 m).wf = true := by
    obtain ⟨fuel, hf⟩ := h1
    obtain ⟨xs, mm, _, _, _, hlen, hel⟩ := DataW.trod_array Try.underlying23 hf
    have hce : Try.prog.cellsOf 22 = 1 := by kernel_rfl
    have e0 := hel 0 (by omega)
    have e1 := hel 1 (by omega)
    match xs, hlen with
    | [y0, y1], _ =>
      simp [Value.cells, hce] at e0 e1
      obtain ⟨n, en, _, wn⟩ := DataW.trod_int Try.underlying22 e0
      obtain ⟨m, em, _, wm⟩ := DataW.trod_int Try.underlying22 e1
      simp only [List.cons.injEq, and_true] at en em
      exact ⟨n, m, ⟨en, wn⟩, em, wm⟩
  have k2 := h2
  have lt2 : ∀ x ∈ p2, x.block < W.heap.size := by obtain ⟨m, hm⟩ := k2; exact DataW.trod_lt m _ _ _ hm
  obtain ⟨n2, rfl, w2⟩ : ∃ n, va2 = .int .i8 n ∧ (Lit.int .i8 n).wf = true := by
    obtain ⟨n, rfl, _, _, hw⟩ := open_int Try.underlying24 (hval 2 24 va2 rfl rfl) h2
    exact ⟨n, rfl, hw⟩
  clear hA0 hval0
  refine (walk n0 m0 n1 m1 n2 W w0 x0 w1 x1 w2).mono fun e W' ⟨he, bel⟩ => ?_
  subst he
  exact ⟨_, rfl, _, _, _, [], _, [], hW', trodAll_mk1 (shut_bool Try.underlying4 _), (trodAll_cons_mk (Below.trod laidOut (by kernel_rfl) (of_decide_eq_true (by kernel_rfl)) k0 bel lt0) (trodAll_cons_mk (Below.trod laidOut (by kernel_rfl) (of_decide_eq_true (by kernel_rfl)) k1 bel lt1) (trodAll_cons_mk (Below.trod laidOut (by kernel_rfl) (of_decide_eq_true (by kernel_rfl)) k2 bel lt2) trodAll_mk0))), rfl, bel.frame _, fun h => by cases h⟩
theorem over : Rows.floorRoundRow.holds Try.pinned (OpenSpec.ofChange Rows.floorRoundSpec) :=
  OpenClaim.holds_of_wide 3 Try.f3 rfl rfl rfl rfl rfl rfl rfl ⟨rfl, rfl, rfl, rfl, rfl⟩ rfl rfl rfl rfl rfl (by kernel_rfl) Try.func3 (by kernel_rfl)
    (of_decide_eq_true (by kernel_rfl)) (by unfold Func.isWrapper; first | (rw [if_pos (by decide +kernel)]; kernel_rfl) | (rw [if_neg (by decide +kernel)]; exact ⟨rfl, rfl⟩))
    (fun os started H enc _ => lifted os started H enc)
theorem proved : Rows.FloorRoundSaid := over
#print axioms proved
end Go.Proofs.Ytbhidokfclchlaa.floorRound
