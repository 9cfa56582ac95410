/-
  Proved: for all three bytes and all bytes that choose what is lost, the Local and the Pyramid code of these numbers (if there is one, and k is at most 12) have the rank k in their other rows, if any m blocks are lost, or any one block of each group (P16.7); no condition.
-/
import Derived.Test.YtnfbbddoaeofgabGreatQlles00
import Derived.Test.YtnfbbddoaeofgabGreatQlles50
import Derived.WalkKit
import Derived.SizedLaws
import Derived.ProofKit
import Derived.OpenShut
import Derived.ShutString
import Derived.ChangeOld
import Derived.Below
import Derived.Lib.SmallJoins
import Derived.Deep.Matrix
set_option maxRecDepth 100000
set_option maxHeartbeats 16000000
namespace Go.Proofs.YtnfbbddoaeofgabGreat.shapeLoses
open Go.ChangeShapes Go.WideShapes Go.ChangeAt Go.RowKit Go.Joins
set_option linter.unusedVariables false
theorem own : ownKnob Tryz.prog.godebug = none := by kernel_rfl
theorem laidOut : laidOutB Tryz.prog = true := by kernel_rfl
/-- A slice of integers that came in. -/
def IsRow (k : IntKind) (w : World) (a : Option Addr) (len cap : Nat) (zs : List Int) : Prop :=
 (a = none ∧ len = 0 ∧ cap = 0 ∧ zs = []) ∨
 ∃ x, a = some x ∧ len ≤ cap ∧ cap ≤ 140737488351232 ∧ zs.length = cap ∧ (∀ i, i < zs.length → w.cell? (x.add i) = some (.int k (zs.getD i 0))) ∧ ∀ n ∈ zs, (Lit.int k n).wf = true
/-- A slice of slices of bytes that came in. -/
def IsRows (w : World) (a : Option Addr) (len cap : Nat) : Prop :=
 (a = none ∧ len = 0 ∧ cap = 0) ∨
 ∃ x, a = some x ∧ len ≤ cap ∧ cap ≤ 140737488351232 ∧ ∀ r, r < cap → ∃ b l c zs, w.cell? (x.add r) = some (.slice b l c) ∧ IsRow .u8 w b l c zs
theorem sized_in {H : Type} {P : Program} {ts : List TypeId} {ds : List (DataW H)} (h : (DataW.weightsEach P ts ds).all (· ≤ reachBytes) = true) {j : Nat} {t : TypeId} {d : DataW H} (ht : ts[j]? = some t) (hd : ds[j]? = some d) : (d.weights P t).all (· ≤ reachBytes) = true :=
 List.all_eq_true.2 fun n hn => List.all_eq_true.1 h n (DataW.weights_mem_each ht hd n hn)
theorem sized_all {H : Type} {P : Program} {e : TypeId} : ∀ {ds : List (DataW H)}, (DataW.weightsAll P e ds).all (· ≤ reachBytes) = true → ∀ d ∈ ds, (d.weights P e).all (· ≤ reachBytes) = true
 | [], _, d, hd => by simp at hd
 | d0 :: r, h, d, hd => by
  simp only [DataW.weightsAll, List.all_append, Bool.and_eq_true] at h
  rcases List.mem_cons.1 hd with rfl | hd
  ·exact h.1
  ·exact sized_all h.2 d hd
theorem array3 {α : Type} {xs : Array α} (h : xs.size = 3) : ∃ a b c, xs = #[a, b, c] := by
 obtain ⟨l⟩ := xs
 match l, h with
 | [a, b, c], _ => exact ⟨a, b, c, rfl⟩
theorem byte_nat16 {n : Int} (h : (Lit.int .u8 n).wf = true) : ∃ k : Nat, n = (k : Int) ∧ k < 256 := by
 obtain ⟨h1, h2⟩ := byte_of_wf h
 exact ⟨n.toNat, by omega, by omega⟩
theorem walk (x0 y0 z0 : Int) (a1 : Option Addr) (len1 cap1 : Nat) (z1 : List Int) (w : World) (u0 : (Lit.int .u8 x0).wf = true) (v0 : (Lit.int .u8 y0).wf = true) (w0 : (Lit.int .u8 z0).wf = true) (w1 : IsRow .u8 w a1 len1 cap1 z1) :
  Calls Tryz.prog 4 #[.agg #[.int .u8 x0, .int .u8 y0, .int .u8 z0], .slice a1 len1 cap1] w fun e w' => e = .returned (.bool true) ∧ Below w.heap.size w w' := by
 obtain ⟨k, rfl, hk8⟩ := byte_nat16 u0
 obtain ⟨l, rfl, hl8⟩ := byte_nat16 v0
 obtain ⟨m, rfl, hm8⟩ := byte_nat16 w0
 obtain ⟨T, hT, hn1⟩ := qj0 w a1 len1 cap1 z1 w1
 obtain ⟨E, hE⟩ := pfp_ex k l m
 by_cases h0 : E = 0
 ·subst h0
  obtain ⟨hP, hs⟩ : PortP k l m ∧ (k : Int) + l + m ≤ 64 := by
   rcases hE with ⟨_, h⟩ | ⟨_, _, h⟩ | ⟨h1, h2, _⟩
   ·omega
   ·omega
   ·exact ⟨h1, h2⟩
  obtain ⟨a, b, c, s, ek, el, em, h1, h2, h3, h4, h5⟩ := port_nat hP hs
  obtain rfl : k = a := by omega
  obtain rfl : l = b := by omega
  obtain rfl : m = c := by omega
  by_cases hlen : len1 < l + m
  ·exact qkh w k l m s hk8 hl8 hm8 h1 h2 h3 h4 h5 a1 len1 cap1 hlen
  ·by_cases hk : 12 < k
   ·exact qg6 w k l m s hk8 hl8 hm8 h1 h2 h3 h4 h5 a1 len1 cap1 hlen hk
   ·exact qi8 w k l m s hk8 hl8 hm8 h1 h2 h3 h4 h5 a1 len1 cap1 hlen hk T hT hn1
 ·exact qkg w k l m hk8 hl8 hm8 E hE h0 a1 len1 cap1
theorem lifted (os : Os) (started : os.Started) (H : Type) (enc : TypeId × Value → H) :
  ReturnsInHanded {} Tryz.checked os 4 .any (Rows.shapeLosesSpec.pre6 enc Tryz.prog Tryz.f4 Rows.shapeLosesRow.domain false) (Rows.shapeLosesSpec.post enc Tryz.prog Tryz.f4 false true false false) := by
 refine returnsInHanded_of_change_sized (C := Tryz.checked) own started (by kernel_rfl) Tryz.func4
  (ChangeSpec.witness6 (enc := enc) (C := Tryz.checked) false ⟨#[], #[.agg #[.int .u8 0, .int .u8 0, .int .u8 0], .slice none 0 0], []⟩ 8 (by kernel_rfl) (by kernel_rfl) (by kernel_rfl) (by kernel_rfl)) ?_
 intro W base args ds gs before hval0 hW hcnd hsz0 _
 have hsz : (DataW.weightsEach Tryz.prog (Tryz.f4.params.toList ++ Rows.shapeLosesSpec.plain.varTypes Tryz.prog) (ds ++ gs)).all (· ≤ reachBytes) = true := hsz0
 clear hsz0
 have hval : ∀ (j : Nat) t v, Tryz.f4.params[j]? = some t → args[j]? = some v → Value.okWide Tryz.prog W .any base t v := hval0
 have hW' := hW
 obtain ⟨p, q, hA0, hV, rfl, hfz, hnd⟩ := hW
 have hA : DataW.TrodAll enc Tryz.prog W 0 (fun _ => true) true Tryz.f4.params.toList args.toList ds p := hA0
 rw [Tryz.params4] at hA hval hsz
 obtain ⟨va0, vs0, d0, ds0, p0, q0, hargs, rfl, rfl, h0, tr0⟩ := trodAll_cons hA
 obtain ⟨va1, vs1, d1, ds1, p1, q1, rfl, rfl, rfl, h1, tr1⟩ := trodAll_cons tr0
 obtain ⟨rfl, rfl, rfl⟩ := trodAll_nil tr1
 obtain rfl : args = #[va0, va1] := by cases args; simp_all
 obtain ⟨rfl, rfl⟩ := trodVars_none hV
 have k0 := h0
 have lt0 : ∀ x ∈ p0, x.block < W.heap.size := by obtain ⟨m, hm⟩ := k0; exact DataW.trod_lt m _ _ _ hm
 obtain ⟨cs0, rfl, hsz0, _⟩ : ∃ cs, va0 = .agg cs ∧ cs.size = Tryz.prog.cellsOf 37 ∧ Row.okWide Tryz.prog W .any base 37 cs := by
  have := hval 0 37 va0 rfl rfl
  simpa [Value.okWide, Tryz.underlying37] using this
 obtain ⟨qa0, qb0, qc0, rfl⟩ := array3 (hsz0.trans (show Tryz.prog.cellsOf 37 = 3 from by kernel_rfl))
 obtain ⟨x0, y0, z0, ⟨rfl, u0⟩, ⟨rfl, v0⟩, rfl, w0⟩ : ∃ x y z : Int, (qa0 = .int .u8 x ∧ (Lit.int .u8 x).wf = true) ∧ (qb0 = .int .u8 y ∧ (Lit.int .u8 y).wf = true) ∧ qc0 = .int .u8 z ∧ (Lit.int .u8 z).wf = true := by
  obtain ⟨fuel, hf⟩ := h0
  obtain ⟨xs, mm, _, _, _, hlen, hel⟩ := DataW.trod_array Tryz.underlying37 hf
  have hce : Tryz.prog.cellsOf 5 = 1 := by kernel_rfl
  have e0 := hel 0 (by omega)
  have e1 := hel 1 (by omega)
  have e2 := hel 2 (by omega)
  match xs, hlen with
  | [y0, y1, y2], _ =>
   simp [Value.cells, hce] at e0 e1 e2
   obtain ⟨n, en, _, wn⟩ := DataW.trod_int Tryz.underlying5 e0
   obtain ⟨m, em, _, wm⟩ := DataW.trod_int Tryz.underlying5 e1
   obtain ⟨l, el, _, wl⟩ := DataW.trod_int Tryz.underlying5 e2
   simp only [List.cons.injEq, and_true] at en em el
   exact ⟨n, m, l, ⟨en, wn⟩, ⟨em, wm⟩, el, wl⟩
 have k1 := h1
 have lt1 : ∀ x ∈ p1, x.block < W.heap.size := by obtain ⟨m, hm⟩ := k1; exact DataW.trod_lt m _ _ _ hm
 obtain ⟨a1, len1, cap1, rfl⟩ := okWide_slice Tryz.underlying22 (hval 1 22 va1 rfl rfl)
 obtain ⟨z1, w1⟩ : ∃ zs, IsRow .u8 W a1 len1 cap1 zs := by
  obtain ⟨fuel, hf⟩ := h1
  rcases open_ints Tryz.underlying22 Tryz.underlying5 (by kernel_rfl) hf with ⟨hcs, _⟩ | ⟨x, l, c, zs, hcs, _, hl, hm, hz, hxx, hcell, hwz⟩
  ·simp [Value.cells] at hcs
   obtain ⟨rfl, rfl, rfl⟩ := hcs
   exact ⟨[], .inl ⟨rfl, rfl, rfl, rfl⟩⟩
  ·simp [Value.cells] at hcs
   obtain ⟨rfl, rfl, rfl⟩ := hcs
   have hd := congrArg Prod.fst hxx
   have hs := sized_slice hsz (j := 1) (t := 22) (e := 5) rfl (congrArg some hd) Tryz.underlying22
   rw [show Tryz.prog.bytesOf 5 = 1 from by kernel_rfl] at hs
   have hzl : zs.length = cap1 := by simpa using hz
   simp only [lits, List.length_map, List.length_take, List.length_drop, reachBytes] at hs
   exact ⟨zs, .inr ⟨_, rfl, hl, by omega, by simpa using hz, hcell, hwz⟩⟩
 clear hA0 hval0
 refine (walk x0 y0 z0 a1 len1 cap1 z1 W u0 v0 w0 w1).mono fun e W' ⟨he, bel⟩ => ?_
 subst he
 exact ⟨_, rfl, _, _, _, [], _, [], hW', trodAll_mk1 (shut_bool Tryz.underlying4 _), (trodAll_cons_mk (Below.trod laidOut (by kernel_rfl) (of_decide_eq_true (by kernel_rfl)) k0 bel lt0) (trodAll_cons_mk (Below.trod laidOut (by kernel_rfl) (of_decide_eq_true (by kernel_rfl)) k1 bel lt1) trodAll_mk0)), rfl, bel.frame _, fun h => by cases h⟩
theorem over : Rows.shapeLosesRow.holds Tryz.pinned (OpenSpec.ofChange Rows.shapeLosesSpec) :=
 OpenClaim.holds_of_wide 4 Tryz.f4 rfl rfl rfl rfl rfl rfl rfl ⟨rfl, rfl, rfl, rfl, rfl⟩ rfl rfl rfl rfl rfl (by kernel_rfl) Tryz.func4 (by kernel_rfl)
  (of_decide_eq_true (by kernel_rfl)) (by unfold Func.isWrapper; first | (rw [if_pos (by decide +kernel)]; kernel_rfl) | (rw [if_neg (by decide +kernel)]; exact ⟨rfl, rfl⟩))
  (fun os started H enc _ => lifted os started H enc)
theorem proved : Rows.ShapeLosesSaid := over
#print axioms proved
end Go.Proofs.YtnfbbddoaeofgabGreat.shapeLoses
