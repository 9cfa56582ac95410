/-
  Proved: for every flow, every list of blocks and every matrix: what is handed to Trim, Of and Run stays as it is, and what they answer is new memory: written over, it changes neither what was handed in nor one another nor what Run answers once more, which is the document's answer (the rules); no condition.
-/
import Derived.Test.YtkfnedpnkeacpaaQffsh00
import Derived.Test.YtkfnedpnkeacpaaQffsh50
import Derived.WalkKit
import Derived.SizedLaws
import Derived.ProofKit
import Derived.OpenShut
import Derived.ShutString
import Derived.ChangeOld
import Derived.Below
import Derived.Lib.SmallJoins
import Derived.Deep.Matrix
set_option maxRecDepth 100000
set_option maxHeartbeats 16000000
namespace Go.Proofs.Ytkfnedpnkeacpaa.flowFresh
open Go.ChangeShapes Go.WideShapes Go.ChangeAt Go.RowKit Go.Joins
set_option linter.unusedVariables false
theorem own : ownKnob Try.prog.godebug = none := by kernel_rfl
theorem laidOut : laidOutB Try.prog = true := by kernel_rfl
/-- A slice of integers that came in. -/
def IsRow (k : IntKind) (w : World) (a : Option Addr) (len cap : Nat) (zs : List Int) : Prop :=
 (a = none ∧ len = 0 ∧ cap = 0 ∧ zs = []) ∨
 ∃ x, a = some x ∧ len ≤ cap ∧ cap ≤ 140737488351232 ∧ zs.length = cap ∧ (∀ i, i < zs.length → w.cell? (x.add i) = some (.int k (zs.getD i 0))) ∧ ∀ n ∈ zs, (Lit.int k n).wf = true
/-- A slice of slices of bytes that came in. -/
def IsRows (w : World) (a : Option Addr) (len cap : Nat) : Prop :=
 (a = none ∧ len = 0 ∧ cap = 0) ∨
 ∃ x, a = some x ∧ len ≤ cap ∧ cap * 24 ≤ 140737488351232 ∧ ∀ r, r < cap → ∃ b l c zs, w.cell? (x.add r) = some (.slice b l c) ∧ IsRow .u8 w b l c zs
theorem sized_in {H : Type} {P : Program} {ts : List TypeId} {ds : List (DataW H)} (h : (DataW.weightsEach P ts ds).all (· ≤ reachBytes) = true) {j : Nat} {t : TypeId} {d : DataW H} (ht : ts[j]? = some t) (hd : ds[j]? = some d) : (d.weights P t).all (· ≤ reachBytes) = true :=
 List.all_eq_true.2 fun n hn => List.all_eq_true.1 h n (DataW.weights_mem_each ht hd n hn)
theorem sized_all {H : Type} {P : Program} {e : TypeId} : ∀ {ds : List (DataW H)}, (DataW.weightsAll P e ds).all (· ≤ reachBytes) = true → ∀ d ∈ ds, (d.weights P e).all (· ≤ reachBytes) = true
 | [], _, d, hd => by simp at hd
 | d0 :: r, h, d, hd => by
  simp only [DataW.weightsAll, List.all_append, Bool.and_eq_true] at h
  rcases List.mem_cons.1 hd with rfl | hd
  ·exact h.1
  ·exact sized_all h.2 d hd
theorem rows_in {H : Type} {P : Program} {W : World} {t e q : TypeId} {x : Addr} {l c : Nat} {A : Nat → Option Addr} {L C : Nat → Nat} {Z : Nat → List Int} {d : Option (DataW H)}
  (_hd : d = some (.slice ((List.range l).map fun r => Go.Deep.intRow .u8 (A r) (L r) (Z r)) ((List.range (c - l)).map fun j => Go.Deep.intRow .u8 (A (l + j)) (L (l + j)) (Z (l + j)))))
  (ht : P.underlying t = some (.slice e)) (he : P.underlying e = some (.slice q)) (hbe : P.bytesOf e = 24) (hbq : P.bytesOf q = 1)
  (hs : ((DataW.slice ((List.range l).map fun r => Go.Deep.intRow (H := H) .u8 (A r) (L r) (Z r)) ((List.range (c - l)).map fun j => Go.Deep.intRow .u8 (A (l + j)) (L (l + j)) (Z (l + j)))).weights P t).all (· ≤ reachBytes) = true) (hl : l ≤ c)
  (hall : ∀ r, r < c → W.cell? (x.add r) = some (.slice (A r) (L r) (C r)) ∧ L r ≤ C r ∧ C r ≤ maxLen ∧ (Z r).length = C r ∧ (∀ n ∈ Z r, (Lit.int .u8 n).wf = true) ∧ (A r = none → C r = 0) ∧
    ∀ a', A r = some a' → 0 ≤ a'.block ∧ ∀ k, k < C r → W.cell? (a'.add k) = some (.int .u8 ((Z r).getD k 0))) : IsRows W (some x) l c := by
 simp only [DataW.weights, ht, hbe, List.all_cons, List.all_append, Bool.and_eq_true, List.length_map, List.length_range] at hs
 obtain ⟨h1, h2, h3⟩ := hs
 have h1 : (l + (c - l)) * 24 ≤ reachBytes := of_decide_eq_true h1
 simp only [reachBytes] at h1
 refine .inr ⟨x, rfl, hl, by omega, fun r hr => ?_⟩
 obtain ⟨hc, hL, hm, hz, hw, h0, hcell⟩ := hall r hr
 refine ⟨A r, L r, C r, Z r, hc, ?_⟩
 cases hA : A r with
 | none =>
  have := h0 hA
  exact .inl ⟨rfl, by omega, by omega, List.eq_nil_of_length_eq_zero (by omega)⟩
 | some a' =>
  have mem : (Go.Deep.intRow (H := H) .u8 (A r) (L r) (Z r)).weights P e = (Go.Deep.intRow (H := H) .u8 (some a') (L r) (Z r)).weights P e := by rw [hA]
  have big : ((Go.Deep.intRow (H := H) .u8 (A r) (L r) (Z r)).weights P e).all (· ≤ reachBytes) = true := by
   by_cases hrl : r < l
   ·exact sized_all h2 _ (List.mem_map.2 ⟨r, by simpa using hrl, rfl⟩)
   ·exact sized_all h3 _ (List.mem_map.2 ⟨r - l, by simp; omega, by rw [show l + (r - l) = r by omega]⟩)
  rw [mem] at big
  simp only [Go.Deep.intRow, DataW.weights, he, hbq, List.all_cons, Bool.and_eq_true, lits, List.length_map, List.length_take, List.length_drop] at big
  have hb1 : (min (L r) (Z r).length + ((Z r).length - L r)) * 1 ≤ reachBytes := of_decide_eq_true big.1
  simp only [reachBytes] at hb1
  exact .inr ⟨a', rfl, hL, by omega, hz, fun i hi => (hcell a' hA).2 i (by omega), hw⟩
theorem cellsM : Try.prog.cellsOf 24 = 3 := by kernel_rfl
theorem bw_of_rows (w : World) (a : Option Addr) (len cap : Nat) (h : IsRows w a len cap) : ∃ (A : Nat → Option Addr) (L C : Nat → Nat) (f : Nat → Nat → Nat), Bw w a len A L C f ∧ len * 24 ≤ 140737488351232 := by
 rcases h with ⟨rfl, rfl, rfl⟩ | ⟨x, rfl, hl, hm, hall⟩
 ·exact ⟨fun _ => none, fun _ => 0, fun _ => 0, fun _ _ => 0, ⟨⟨fun i hi => by omega, fun i hi => by omega, fun i hi => by omega⟩, fun i hi => by omega, fun i hi => by omega⟩, by omega⟩
 ·have key : ∀ r, ∃ t : Option Addr × Nat × Nat × (Nat → Nat), r < len → w.cell? (x.add r) = some (.slice t.1 t.2.1 t.2.2.1) ∧ Sl w t.1 t.2.1 t.2.2.2 ∧ (t.1 = none → t.2.1 = 0 ∧ t.2.2.1 = 0) ∧ t.2.1 ≤ 140737488351232 ∧ t.2.1 ≤ t.2.2.1 := by
   intro r
   by_cases hr : r < len
   ·obtain ⟨b, l, c, zs, hc, hz⟩ := hall r (by omega)
    obtain ⟨g, h1, h2, h3⟩ := qcs w b l c zs hz
    exact ⟨(b, l, c, g), fun _ => ⟨hc, h1, h3, h2, by
     rcases hz with ⟨_, rfl, rfl, _⟩ | ⟨y, _, hlc, _⟩
     ·exact Nat.le_refl _
     ·exact hlc⟩⟩
   ·exact ⟨(none, 0, 0, fun _ => 0), fun h => absurd h hr⟩
  obtain ⟨T, hT⟩ := Classical.axiomOfChoice key
  refine ⟨fun r => (T r).1, fun r => (T r).2.1, fun r => (T r).2.2.1, fun r => (T r).2.2.2, ⟨⟨fun i hi => ?_, fun i hi => (hT i hi).2.1, fun i hi => (hT i hi).2.2.1⟩, fun i hi => (hT i hi).2.2.2.2, fun i hi => (hT i hi).2.2.2.1⟩, by omega⟩
  have hc := (hT i hi).1
  obtain ⟨b, o, spot⟩ := x
  have hspot : spot = none := by
   have h0 := (hT 0 (by omega)).1
   simpa [Addr.add] using World.cell?_spot h0
  subst hspot
  exact ⟨b, o, rfl, by rw [← add_plain]; exact hc⟩

theorem walk (f0 g0 s0 : Value) (a1 : Option Addr) (len1 cap1 : Nat) (r2 c2 : Int) (a2 : Option Addr) (len2 cap2 : Nat) (z2 : List Int) (w : World) (w0 : IsFx w f0 g0 s0) (w1 : IsRows w a1 len1 cap1) (u2 : (Lit.int .i64 r2).wf = true) (v2 : (Lit.int .i64 c2).wf = true) (w2 : IsRow .u8 w a2 len2 cap2 z2) :
  Calls Try.prog 8 #[.agg #[f0, g0, s0], .slice a1 len1 cap1, .agg #[.int .i64 r2, .int .i64 c2, .slice a2 len2 cap2]] w fun e w' => e = .returned (.bool true) ∧ Below w.heap.size w w' := by
 obtain ⟨a, p, b, q, c, r, F, rfl, rfl, rfl, h⟩ := w0
 obtain ⟨A, L, C, f, hB, hn⟩ := bw_of_rows w a1 len1 cap1 w1
 obtain ⟨D, hD, hn3⟩ := qf6 w a2 len2 cap2 z2 w2
 exact ffresh21 w a b c a1 a2 p q r len1 cap1 len2 cap2 r2 c2 F A L C f D h hB hn hD hn3
theorem lifted (os : Os) (started : os.Started) (H : Type) (enc : TypeId × Value → H) :
  ReturnsInHanded {} Try.checked os 8 .any (Rows.flowFreshSpec.pre6 enc Try.prog Try.f8 Rows.flowFreshRow.domain false) (Rows.flowFreshSpec.post enc Try.prog Try.f8 false true false false) := by
 refine returnsInHanded_of_change_sized (C := Try.checked) own started (by kernel_rfl) Try.func8
  (ChangeSpec.witness6 (enc := enc) (C := Try.checked) false ⟨#[], #[.agg #[.slice none 0 0, .slice none 0 0, .slice none 0 0], .slice none 0 0, .agg #[.int .i64 0, .int .i64 0, .slice none 0 0]], []⟩ 8 (by kernel_rfl) (by kernel_rfl) (by kernel_rfl) (by kernel_rfl)) ?_
 intro W base args ds gs before hval0 hW hcnd hsz0 _
 have hsz : (DataW.weightsEach Try.prog (Try.f8.params.toList ++ Rows.flowFreshSpec.plain.varTypes Try.prog) (ds ++ gs)).all (· ≤ reachBytes) = true := hsz0
 clear hsz0
 have hval : ∀ (j : Nat) t v, Try.f8.params[j]? = some t → args[j]? = some v → Value.okWide Try.prog W .any base t v := hval0
 have hW' := hW
 obtain ⟨p, q, hA0, hV, rfl, hfz, hnd⟩ := hW
 have hA : DataW.TrodAll enc Try.prog W 0 (fun _ => true) true Try.f8.params.toList args.toList ds p := hA0
 rw [Try.params8] at hA hval hsz
 obtain ⟨va0, vs0, d0, ds0, p0, q0, hargs, rfl, rfl, h0, tr0⟩ := trodAll_cons hA
 obtain ⟨va1, vs1, d1, ds1, p1, q1, rfl, rfl, rfl, h1, tr1⟩ := trodAll_cons tr0
 obtain ⟨va2, vs2, d2, ds2, p2, q2, rfl, rfl, rfl, h2, tr2⟩ := trodAll_cons tr1
 obtain ⟨rfl, rfl, rfl⟩ := trodAll_nil tr2
 obtain rfl : args = #[va0, va1, va2] := by cases args; simp_all
 obtain ⟨rfl, rfl⟩ := trodVars_none hV
 have k0 := h0
 have lt0 : ∀ x ∈ p0, x.block < W.heap.size := by obtain ⟨m, hm⟩ := k0; exact DataW.trod_lt m _ _ _ hm
 obtain ⟨f0, g0, s0, y0, x0, e0, m0, rfl, rfl, rfl, hf0, hg0, hs0⟩ := open_agg3 Try.underlying28 (by kernel_rfl) qfa (hval 0 28 va0 rfl rfl) h0
 have w0 : IsFx W f0 g0 s0 := flow_inx hf0 hg0 hs0 (sized_in (sized_in hsz (j := 0) (t := 28) rfl rfl) (j := 0) (t := 25) rfl rfl) (sized_in (sized_in hsz (j := 0) (t := 28) rfl rfl) (j := 1) (t := 26) rfl rfl) (sized_in (sized_in hsz (j := 0) (t := 28) rfl rfl) (j := 2) (t := 25) rfl rfl)
 have k1 := h1
 have lt1 : ∀ x ∈ p1, x.block < W.heap.size := by obtain ⟨m, hm⟩ := k1; exact DataW.trod_lt m _ _ _ hm
 obtain ⟨a1, len1, cap1, rfl⟩ := okWide_slice Try.underlying41 (hval 1 41 va1 rfl rfl)
 have w1 : IsRows W a1 len1 cap1 := by
  obtain ⟨fuel, hf⟩ := h1
  rcases Go.Deep.open_int_rows Try.underlying41 Try.underlying22 Try.underlying5 (by kernel_rfl) (by kernel_rfl) hf with ⟨hcs, _⟩ | ⟨x, l, c, A, L, C, Z, hcs, _, hl, hm, hxx, hall⟩
  ·simp [Value.cells] at hcs
   obtain ⟨rfl, rfl, rfl⟩ := hcs
   exact .inl ⟨rfl, rfl, rfl⟩
  ·simp [Value.cells] at hcs
   obtain ⟨rfl, rfl, rfl⟩ := hcs
   have hd := congrArg Prod.fst hxx
   exact rows_in (congrArg some hd) Try.underlying41 Try.underlying22 (by kernel_rfl) (by kernel_rfl) (sized_in hsz (j := 1) (t := 41) rfl (congrArg some hd)) hl hall
 have k2 := h2
 have lt2 : ∀ x ∈ p2, x.block < W.heap.size := by obtain ⟨m, hm⟩ := k2; exact DataW.trod_lt m _ _ _ hm
 obtain ⟨f2, g2, s2, y2, x2, e2, m2, rfl, rfl, rfl, hf2, hg2, hs2⟩ := open_agg3 Try.underlying24 (by kernel_rfl) cellsM (hval 2 24 va2 rfl rfl) h2
 obtain ⟨r2, er2, rfl, u2⟩ := DataW.trod_int Try.underlying3 hf2
 obtain ⟨c2, ec2, rfl, v2⟩ := DataW.trod_int Try.underlying3 hg2
 simp only [List.cons.injEq, and_true] at er2 ec2
 subst er2 ec2
 obtain ⟨a2, len2, cap2, rfl⟩ : ∃ a l c, s2 = .slice a l c := by
  rcases open_ints Try.underlying22 Try.underlying5 (by kernel_rfl) hs2 with ⟨hcs, _⟩ | ⟨x, l, c, zs, hcs, _⟩
  ·simp only [List.cons.injEq, and_true] at hcs; exact ⟨_, _, _, hcs⟩
  ·simp only [List.cons.injEq, and_true] at hcs; exact ⟨_, _, _, hcs⟩
 obtain ⟨z2, w2⟩ : ∃ zs, IsRow .u8 W a2 len2 cap2 zs := by
  obtain ⟨fuel, hf⟩ := (⟨m2, hs2⟩ : ∃ fuel, DataW.trod enc Try.prog W 0 (fun _ => true) true fuel 22 [.slice a2 len2 cap2] = some e2)
  rcases open_ints Try.underlying22 Try.underlying5 (by kernel_rfl) hf with ⟨hcs, _⟩ | ⟨x, l, c, zs, hcs, _, hl, hm, hz, hxx, hcell, hwz⟩
  ·simp at hcs
   obtain ⟨rfl, rfl, rfl⟩ := hcs
   exact ⟨[], .inl ⟨rfl, rfl, rfl, rfl⟩⟩
  ·simp at hcs
   obtain ⟨rfl, rfl, rfl⟩ := hcs
   have hd := congrArg Prod.fst hxx
   have hs := sized_slice (sized_in hsz (j := 2) (t := 24) rfl rfl) (j := 2) (t := 22) (e := 5) rfl (congrArg some hd) Try.underlying22
   rw [show Try.prog.bytesOf 5 = 1 from by kernel_rfl] at hs
   have hzl : zs.length = cap2 := by simpa using hz
   simp only [lits, List.length_map, List.length_take, List.length_drop, reachBytes] at hs
   exact ⟨zs, .inr ⟨_, rfl, hl, by omega, by simpa using hz, hcell, hwz⟩⟩
 clear hA0 hval0
 refine (walk f0 g0 s0 a1 len1 cap1 r2 c2 a2 len2 cap2 z2 W w0 w1 u2 v2 w2).mono fun e W' ⟨he, bel⟩ => ?_
 subst he
 exact ⟨_, rfl, _, _, _, [], _, [], hW', trodAll_mk1 (shut_bool Try.underlying4 _), (trodAll_cons_mk (Below.trod laidOut (by kernel_rfl) (of_decide_eq_true (by kernel_rfl)) k0 bel lt0) (trodAll_cons_mk (Below.trod laidOut (by kernel_rfl) (of_decide_eq_true (by kernel_rfl)) k1 bel lt1) (trodAll_cons_mk (Below.trod laidOut (by kernel_rfl) (of_decide_eq_true (by kernel_rfl)) k2 bel lt2) trodAll_mk0))), rfl, bel.frame _, fun h => by cases h⟩
theorem over : Rows.flowFreshRow.holds Try.pinned (OpenSpec.ofChange Rows.flowFreshSpec) :=
 OpenClaim.holds_of_wide 8 Try.f8 rfl rfl rfl rfl rfl rfl rfl ⟨rfl, rfl, rfl, rfl, rfl⟩ rfl rfl rfl rfl rfl (by kernel_rfl) Try.func8 (by kernel_rfl)
  (of_decide_eq_true (by kernel_rfl)) (by unfold Func.isWrapper; first | (rw [if_pos (by decide +kernel)]; kernel_rfl) | (rw [if_neg (by decide +kernel)]; exact ⟨rfl, rfl⟩))
  (fun os started H enc _ => lifted os started H enc)
theorem proved : Rows.FlowFreshSaid := over
#print axioms proved
end Go.Proofs.Ytkfnedpnkeacpaa.flowFresh
