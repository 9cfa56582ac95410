/-
  Proved: for every matrix g and number b what the program's Least tells is what the document's Least tells: the set, the factors, whether there is one, the error (P19.1); no condition.
-/
import Derived.Test.YtblagbghpfopcaaGreatQllst00
import Derived.Test.YtblagbghpfopcaaGreatQllst50
import Derived.Test.YtblagbghpfopcaaGreatQllst41
import Derived.WalkKit
import Derived.SizedLaws
import Derived.ProofKit
import Derived.OpenShut
import Derived.ShutString
import Derived.ChangeOld
import Derived.Below
import Derived.Lib.SmallJoins
import Derived.Deep.Matrix
set_option maxRecDepth 100000
set_option maxHeartbeats 16000000
namespace Go.Proofs.YtblagbghpfopcaaGreat.localLeast
open Go.ChangeShapes Go.WideShapes Go.ChangeAt Go.RowKit Go.Joins
set_option linter.unusedVariables false
theorem own : ownKnob Tryz.prog.godebug = none := by kernel_rfl
theorem laidOut : laidOutB Tryz.prog = true := by kernel_rfl
/-- A slice of integers that came in. -/
def IsRow (k : IntKind) (w : World) (a : Option Addr) (len cap : Nat) (zs : List Int) : Prop :=
 (a = none ∧ len = 0 ∧ cap = 0 ∧ zs = []) ∨
 ∃ x, a = some x ∧ len ≤ cap ∧ cap ≤ 140737488351232 ∧ zs.length = cap ∧ (∀ i, i < zs.length → w.cell? (x.add i) = some (.int k (zs.getD i 0))) ∧ ∀ n ∈ zs, (Lit.int k n).wf = true
/-- A slice of slices of bytes that came in. -/
def IsRows (w : World) (a : Option Addr) (len cap : Nat) : Prop :=
 (a = none ∧ len = 0 ∧ cap = 0) ∨
 ∃ x, a = some x ∧ len ≤ cap ∧ cap ≤ 140737488351232 ∧ ∀ r, r < cap → ∃ b l c zs, w.cell? (x.add r) = some (.slice b l c) ∧ IsRow .u8 w b l c zs
theorem sized_in {H : Type} {P : Program} {ts : List TypeId} {ds : List (DataW H)} (h : (DataW.weightsEach P ts ds).all (· ≤ reachBytes) = true) {j : Nat} {t : TypeId} {d : DataW H} (ht : ts[j]? = some t) (hd : ds[j]? = some d) : (d.weights P t).all (· ≤ reachBytes) = true :=
 List.all_eq_true.2 fun n hn => List.all_eq_true.1 h n (DataW.weights_mem_each ht hd n hn)
theorem sized_all {H : Type} {P : Program} {e : TypeId} : ∀ {ds : List (DataW H)}, (DataW.weightsAll P e ds).all (· ≤ reachBytes) = true → ∀ d ∈ ds, (d.weights P e).all (· ≤ reachBytes) = true
 | [], _, d, hd => by simp at hd
 | d0 :: r, h, d, hd => by
  simp only [DataW.weightsAll, List.all_append, Bool.and_eq_true] at h
  rcases List.mem_cons.1 hd with rfl | hd
  ·exact h.1
  ·exact sized_all h.2 d hd
theorem cellsM : Tryz.prog.cellsOf 24 = 3 := by kernel_rfl

theorem walk (r0 c0 : Int) (a0 : Option Addr) (len0 cap0 : Nat) (z0 : List Int) (n1 : Int) (w : World) (u0 : (Lit.int .i64 r0).wf = true) (v0 : (Lit.int .i64 c0).wf = true) (w0 : IsRow .u8 w a0 len0 cap0 z0) (w1 : (Lit.int .i64 n1).wf = true) :
  Calls Tryz.prog 3 #[.agg #[.int .i64 r0, .int .i64 c0, .slice a0 len0 cap0], .int .i64 n1] w fun e w' => e = .returned (.bool true) ∧ Below w.heap.size w w' := by
 obtain ⟨F, hF, hn0⟩ := qko w a0 len0 cap0 z0 w0
 obtain ⟨E, hE⟩ := wrg_ex r0 c0 n1 len0
 by_cases hE0 : E = 0
 ·subst hE0
  rcases hE with ⟨_, h⟩ | ⟨_, _, h⟩ | ⟨hg, hb, _⟩
  ·exact absurd h (by decide)
  ·exact absurd h (by decide)
  ·have HGq := qa5 hg
   obtain ⟨r, c, rfl, rfl, R, hc1, hcr⟩ := hg.nat
   obtain ⟨b, rfl⟩ := Int.eq_ofNat_of_zero_le hb.1
   have hbr : b < r := by omega
   have hr := R.r64
   obtain ⟨C, f, ix, G, O⟩ := ord19_ex r b hr hbr
   have HLe : Hid (∀ w' : World, Below w.heap.size w w' → Calls Tryz.prog 7 #[mv r c a0 len0 cap0, .int .i64 (b : Int)] w' fun e w'' => LeaP w' w'' e (m2 F r c) r b C G) := fun w' hb => qmh w' r c len0 cap0 b a0 F (hF.later hb) R HGq.out hbr C f ix G O
   have HRe : Hid (∀ w' : World, Below w.heap.size w w' → Calls Tryz.prog 8 #[mv r c a0 len0 cap0, .int .i64 (b : Int)] w' fun e w'' => LeaP w' w'' e (m2 F r c) r b C G) := fun w' hb => qho w' r c len0 cap0 b a0 F (hF.later hb) R HGq.out hbr C f ix G O
   have HO := qa5 O
   have HM := qa5 (qb3 hF.sl.1 R)
   clear hF hn0 w0 w1 R hg hb O HGq hc1 hcr
   go_enter Tryz.func3, Tryz.ntmps3
   go_wp2_with (go_at_call 7; refine (HLe.out _ (qa1 _ _)).mono ?_)
   rintro e w1 (⟨er, rfl, hs, hb⟩ | ⟨x, g, P, rfl, hs, hc, hrow, _, hb⟩)
   ·have HV1 : Hid (Vr w1 w.heap.size (.int .i64 (r : Int)) (.int .i64 (c : Int)) (.slice a0 len0 cap0)) := (Vr.new w _ _ _).later hb
    have l1_0 := HV1.out.c0
    have l1_1 := HV1.out.c1
    have l1_2 := HV1.out.c2
    have HB1 : Hid (Below w.heap.size w w1) := qa0 (qa1 _ _) hb
    have HS := qa5 hs
    clear hb HLe hs
    go_wp2_with (go_at_call 8; refine (HRe.out _ HB1.out).mono ?_)
    rintro e w2 (⟨er2, rfl, hs2, hb2⟩ | ⟨x2, g2, P2, rfl, hs2, hc2, hrow2, _, hb2⟩)
    ·obtain ⟨_, _, e3⟩ := HS.out.one HO.out hbr hs2
     subst e3
     have HB2 : Hid (Below w.heap.size w w2) := qa0 HB1.out hb2
     have q1 : ((er : Int) == (er : Int)) = true := by simp
     have HSa : Hid (Calls Tryz.prog 9 #[.slice none 0 0, .slice none 0 0] w2 fun e w' => e = .returned (.bool true) ∧ w' = w2) := qeg w2 none none 0 0 0 (fun _ => 0) (Sl.nil _ _ _) (Sl.nil _ _ _)
     clear hb2 hs2
     go_wp2_with (go_at_call 9; refine HSa.out.mono ?_; rintro e w3 ⟨rfl, rfl⟩)
     go_ret
     exact ⟨rfl, HB2.out⟩
    ·obtain ⟨_, e2, _⟩ := HS.out.one HO.out hbr hs2
     exact absurd e2 (by decide)
   ·have HV1 : Hid (Vr w1 w.heap.size (.int .i64 (r : Int)) (.int .i64 (c : Int)) (.slice a0 len0 cap0)) := (Vr.new w _ _ _).later hb
    have l1_0 := HV1.out.c0
    have l1_1 := HV1.out.c1
    have l1_2 := HV1.out.c2
    have HB1 : Hid (Below w.heap.size w w1) := qa0 (qa1 _ _) hb
    have HS := qa5 hs
    have HC := qa5 hc
    have HR1 := qa5 hrow
    clear hb HLe hs hc hrow
    go_wp2_with (go_at_call 8; refine (HRe.out _ HB1.out).mono ?_)
    rintro e w2 (⟨er2, rfl, hs2, hb2⟩ | ⟨x2, g2, P2, rfl, hs2, hc2, hrow2, _, hb2⟩)
    ·obtain ⟨_, e2, _⟩ := HS.out.one HO.out hbr hs2
     exact absurd e2 (by decide)
    ·obtain ⟨e1, _, _⟩ := HS.out.one HO.out hbr hs2
     subst e1
     have hl : LstS (m2 F r c) r b x := by
      rcases HS.out.lst HO.out hbr with ⟨_, h1, _⟩ | ⟨_, _, hl⟩ | ⟨_, h1, _⟩
      ·exact absurd h1 (by decide)
      ·exact hl
      ·exact absurd h1 (by decide)
     have HB2 : Hid (Below w.heap.size w w2) := qa0 HB1.out hb2
     have HS1 : Hid (Sl w2 (some ⟨g, 0, none⟩) r P) := (HR1.out.sl (fun i _ => HC.out.el i)).later hb2
     have HS2 : Hid (Sl w2 (some ⟨g2, 0, none⟩) r P) := (hrow2.congr (fun i hi => (hc2.one HM.out hr hl HC.out i hi))).sl (fun i _ => HC.out.el i)
     have q1 : ((x : Int) == (x : Int)) = true := by simp
     have HSa : Hid (Calls Tryz.prog 9 #[.slice (some ⟨g, 0, none⟩) r r, .slice (some ⟨g2, 0, none⟩) r r] w2 fun e w' => e = .returned (.bool true) ∧ w' = w2) := qeg w2 _ _ r r r P HS1.out HS2.out
     clear hb2 hs2 hc2 hrow2 hl
     go_wp2_with (go_at_call 9; refine HSa.out.mono ?_; rintro e w3 ⟨rfl, rfl⟩)
     go_ret
     exact ⟨rfl, HB2.out⟩
 ·have HL : Hid (∀ w' : World, Calls Tryz.prog 7 #[mv r0 c0 a0 len0 cap0, .int .i64 n1] w' fun e w'' => e = .returned (.tuple #[.int .u64 0, .slice none 0 0, .bool false, .int .i64 E]) ∧ Below w'.heap.size w' w'') := fun w' => qjz w' r0 c0 n1 E len0 cap0 a0 hE hE0
  have HR : Hid (∀ w' : World, Calls Tryz.prog 8 #[mv r0 c0 a0 len0 cap0, .int .i64 n1] w' fun e w'' => e = .returned (.tuple #[.int .u64 0, .slice none 0 0, .bool false, .int .i64 E]) ∧ Below w'.heap.size w' w'') := fun w' => qh2 w' r0 c0 n1 E len0 cap0 a0 hE hE0
  have HSa : Hid (∀ w' : World, Calls Tryz.prog 9 #[.slice none 0 0, .slice none 0 0] w' fun e w'' => e = .returned (.bool true) ∧ w'' = w') := fun w' => qeg w' none none 0 0 0 (fun _ => 0) (Sl.nil _ _ _) (Sl.nil _ _ _)
  have q1 : (E == E) = true := by simp
  clear hF hn0 w0 w1 hE hE0
  go_enter Tryz.func3, Tryz.ntmps3
  go_wp2_with (first
   | (go_at_call 7; refine (HL.out _).mono ?_; rintro e w1 ⟨rfl, hb⟩; have HV1 : Hid (Vr w1 w.heap.size (.int .i64 r0) (.int .i64 c0) (.slice a0 len0 cap0)) := (Vr.new w _ _ _).later hb; have l1_0 := HV1.out.c0; have l1_1 := HV1.out.c1; have l1_2 := HV1.out.c2; have HB1 : Hid (Below w.heap.size w w1) := qa0 (qa1 _ _) hb; clear hb)
   | (go_at_call 8; refine (HR.out _).mono ?_; rintro e w2 ⟨rfl, hb⟩; have HB2 : Hid (Below w.heap.size w w2) := qa0 HB1.out hb; clear hb)
   | (go_at_call 9; refine (HSa.out _).mono ?_; rintro e w3 ⟨rfl, rfl⟩))
  go_ret
  exact ⟨rfl, HB2.out⟩
theorem lifted (os : Os) (started : os.Started) (H : Type) (enc : TypeId × Value → H) :
  ReturnsInHanded {} Tryz.checked os 3 .any (Rows.localLeastSpec.pre6 enc Tryz.prog Tryz.f3 Rows.localLeastRow.domain false) (Rows.localLeastSpec.post enc Tryz.prog Tryz.f3 false true false false) := by
 refine returnsInHanded_of_change_sized (C := Tryz.checked) own started (by kernel_rfl) Tryz.func3
  (ChangeSpec.witness6 (enc := enc) (C := Tryz.checked) false ⟨#[], #[.agg #[.int .i64 0, .int .i64 0, .slice none 0 0], .int .i64 0], []⟩ 8 (by kernel_rfl) (by kernel_rfl) (by kernel_rfl) (by kernel_rfl)) ?_
 intro W base args ds gs before hval0 hW hcnd hsz0 _
 have hsz : (DataW.weightsEach Tryz.prog (Tryz.f3.params.toList ++ Rows.localLeastSpec.plain.varTypes Tryz.prog) (ds ++ gs)).all (· ≤ reachBytes) = true := hsz0
 clear hsz0
 have hval : ∀ (j : Nat) t v, Tryz.f3.params[j]? = some t → args[j]? = some v → Value.okWide Tryz.prog W .any base t v := hval0
 have hW' := hW
 obtain ⟨p, q, hA0, hV, rfl, hfz, hnd⟩ := hW
 have hA : DataW.TrodAll enc Tryz.prog W 0 (fun _ => true) true Tryz.f3.params.toList args.toList ds p := hA0
 rw [Tryz.params3] at hA hval hsz
 obtain ⟨va0, vs0, d0, ds0, p0, q0, hargs, rfl, rfl, h0, tr0⟩ := trodAll_cons hA
 obtain ⟨va1, vs1, d1, ds1, p1, q1, rfl, rfl, rfl, h1, tr1⟩ := trodAll_cons tr0
 obtain ⟨rfl, rfl, rfl⟩ := trodAll_nil tr1
 obtain rfl : args = #[va0, va1] := by cases args; simp_all
 obtain ⟨rfl, rfl⟩ := trodVars_none hV
 have k0 := h0
 have lt0 : ∀ x ∈ p0, x.block < W.heap.size := by obtain ⟨m, hm⟩ := k0; exact DataW.trod_lt m _ _ _ hm
 obtain ⟨f0, g0, s0, y0, x0, e0, m0, rfl, rfl, rfl, hf0, hg0, hs0⟩ := open_agg3 Tryz.underlying24 (by kernel_rfl) cellsM (hval 0 24 va0 rfl rfl) h0
 obtain ⟨r0, er0, rfl, u0⟩ := DataW.trod_int Tryz.underlying3 hf0
 obtain ⟨c0, ec0, rfl, v0⟩ := DataW.trod_int Tryz.underlying3 hg0
 simp only [List.cons.injEq, and_true] at er0 ec0
 subst er0 ec0
 obtain ⟨a0, len0, cap0, rfl⟩ : ∃ a l c, s0 = .slice a l c := by
  rcases open_ints Tryz.underlying22 Tryz.underlying5 (by kernel_rfl) hs0 with ⟨hcs, _⟩ | ⟨x, l, c, zs, hcs, _⟩
  ·simp only [List.cons.injEq, and_true] at hcs; exact ⟨_, _, _, hcs⟩
  ·simp only [List.cons.injEq, and_true] at hcs; exact ⟨_, _, _, hcs⟩
 obtain ⟨z0, w0⟩ : ∃ zs, IsRow .u8 W a0 len0 cap0 zs := by
  obtain ⟨fuel, hf⟩ := (⟨m0, hs0⟩ : ∃ fuel, DataW.trod enc Tryz.prog W 0 (fun _ => true) true fuel 22 [.slice a0 len0 cap0] = some e0)
  rcases open_ints Tryz.underlying22 Tryz.underlying5 (by kernel_rfl) hf with ⟨hcs, _⟩ | ⟨x, l, c, zs, hcs, _, hl, hm, hz, hxx, hcell, hwz⟩
  ·simp at hcs
   obtain ⟨rfl, rfl, rfl⟩ := hcs
   exact ⟨[], .inl ⟨rfl, rfl, rfl, rfl⟩⟩
  ·simp at hcs
   obtain ⟨rfl, rfl, rfl⟩ := hcs
   have hd := congrArg Prod.fst hxx
   have hs := sized_slice (sized_in hsz (j := 0) (t := 24) rfl rfl) (j := 2) (t := 22) (e := 5) rfl (congrArg some hd) Tryz.underlying22
   rw [show Tryz.prog.bytesOf 5 = 1 from by kernel_rfl] at hs
   have hzl : zs.length = cap0 := by simpa using hz
   simp only [lits, List.length_map, List.length_take, List.length_drop, reachBytes] at hs
   exact ⟨zs, .inr ⟨_, rfl, hl, by omega, by simpa using hz, hcell, hwz⟩⟩
 have k1 := h1
 have lt1 : ∀ x ∈ p1, x.block < W.heap.size := by obtain ⟨m, hm⟩ := k1; exact DataW.trod_lt m _ _ _ hm
 obtain ⟨n1, rfl, w1⟩ : ∃ n, va1 = .int .i64 n ∧ (Lit.int .i64 n).wf = true := by
  obtain ⟨n, rfl, _, _, hw⟩ := open_int Tryz.underlying3 (hval 1 3 va1 rfl rfl) h1
  exact ⟨n, rfl, hw⟩
 clear hA0 hval0
 refine (walk r0 c0 a0 len0 cap0 z0 n1 W u0 v0 w0 w1).mono fun e W' ⟨he, bel⟩ => ?_
 subst he
 exact ⟨_, rfl, _, _, _, [], _, [], hW', trodAll_mk1 (shut_bool Tryz.underlying4 _), (trodAll_cons_mk (Below.trod laidOut (by kernel_rfl) (of_decide_eq_true (by kernel_rfl)) k0 bel lt0) (trodAll_cons_mk (Below.trod laidOut (by kernel_rfl) (of_decide_eq_true (by kernel_rfl)) k1 bel lt1) trodAll_mk0)), rfl, bel.frame _, fun h => by cases h⟩
theorem over : Rows.localLeastRow.holds Tryz.pinned (OpenSpec.ofChange Rows.localLeastSpec) :=
 OpenClaim.holds_of_wide 3 Tryz.f3 rfl rfl rfl rfl rfl rfl rfl ⟨rfl, rfl, rfl, rfl, rfl⟩ rfl rfl rfl rfl rfl (by kernel_rfl) Tryz.func3 (by kernel_rfl)
  (of_decide_eq_true (by kernel_rfl)) (by unfold Func.isWrapper; first | (rw [if_pos (by decide +kernel)]; kernel_rfl) | (rw [if_neg (by decide +kernel)]; exact ⟨rfl, rfl⟩))
  (fun os started H enc _ => lifted os started H enc)
theorem proved : Rows.LocalLeastSaid := over
#print axioms proved
end Go.Proofs.YtblagbghpfopcaaGreat.localLeast
