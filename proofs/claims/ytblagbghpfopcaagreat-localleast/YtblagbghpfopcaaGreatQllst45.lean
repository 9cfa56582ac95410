/-
  Stage 19: local.inFewest.
  All's function, told one set after another.
  The walk through a loop over All's sets, which may be left by a break.
  What the loop over All's sets needs: of any n and k, how many sets there are and which, and that the program and the reference tell the same.
  Variables of one cell; what the loop over All's sets leaves to be done.
  Stage 19: local.others; a loop over All's sets that may be left by a break or a return.
  Stage 19: which sets local.others tells.
  Stage 19: local.others' function, told one set after another.
-/
import Derived.Test.YtblagbghpfopcaaGreatQllst00
import Derived.Test.YtblagbghpfopcaaGreatQllst44
import Derived.Test.YtblagbghpfopcaaGreatQllst37
import Derived.Test.YtblagbghpfopcaaGreatQllst43
set_option maxRecDepth 100000
set_option maxHeartbeats 16000000
namespace Go.Proofs.YtblagbghpfopcaaGreat
open Go.RowKit Go.Shelf
attribute [local go_sem] Oper.semAt_some
theorem Mt.pre {w : World} {s : Option Addr} {n k m : Nat} {F : Nat → Nat} (h : Mt w s n k F) (hm : m ≤ n) : Mt w s m k F :=
 ⟨⟨fun i hi => h.sl.1 i (by omega), fun i hi => h.sl.2 i (by omega)⟩, Nat.le_trans hm h.room, fun e => by obtain ⟨h1, h2⟩ := h.nil e; exact ⟨by omega, h2⟩⟩
/-- Rows in fewest columns are answered. -/
def FewP (w w' : World) (e : Ending) (F : Nat → Nat) (r c : Nat) : Prop := ∃ (g top N : Nat) (H : Nat → Nat), e = .returned (mv r top (some ⟨g, 0, none⟩) N N) ∧ RowAt w' g 5 N H ∧ (∀ q, q < N → H q < 256) ∧ Rt r top N ∧ KerEq (m2 F r c) (m2 H r top) r ∧ Below w.heap.size w w'
theorem lfew_ok (w : World) (r c n k : Nat) (a : Option Addr) (F : Nat → Nat) (ha : Mt w a n k F) (R : Rt r c n) :
  Calls Tryz.prog 26 #[mv r c a n k] w fun e w' => FewP w w' e F r c := by
 obtain ⟨wb, HW, HX⟩ : ∃ wb, Hid (wb = (w.alloc (.cells #[.int .i64 (r : Int), .int .i64 (c : Int), .slice a n k] 24)).alloc (.cells #[.int .i64 0, .int .i64 0, .slice none 0 0] 24)) ∧ Hid (Box2 w wb r c n k a) := ⟨_, rfl, box2 w r c n k a⟩
 have HA : Hid (Mt w a n k F) := ha
 have HR : Hid (Rt r c n) := R
 have HR2 : Hid (Rt c r n) := R.turn
 have hr := R.r64
 have hc := R.c64
 have HTe : Hid (∀ q, q < n → trf F r c q < 256) := qda ha.sl.1 R
 have HKe : Hid (∀ (G p : Nat → Nat) (top : Nat), (∀ i, i < n → G i < 256) → Rdf (m2 G c r) c top p → SpEq (m2 G c r) c (m2 (trf F r c) c r) c → KerEq (m2 F r c) (m2 (trf G top r) r top) r) := fun G p top hG h1 h2 => few_ker ha.sl.1 R hG h1 h2
 have hn : n ≤ 4096 := R.le
 have hlen := R.len
 have v0 := HX.out.va.c0
 have v1 := HX.out.va.c1
 have v2 := HX.out.va.c2
 have hwb : w.heap.size + 1 < wb.heap.size := HX.out.vr.lt
 clear ha R
 go_enter Tryz.func26, Tryz.ntmps26
 go_wp2_with (first
  | (go_at_call 57; have _x := HTe; rw [← HW.out]; refine (qem _ r c n k a F (HA.out.later HX.out.below) HR.out).mono ?_; rintro e w1 ⟨g1, rfl, hr1, _, hb⟩; have HB1 : Hid (Below wb.heap.size wb (w1.alloc (.cells #[.int .i64 (c : Int), .int .i64 (r : Int), .slice (some ⟨g1, 0, none⟩) n n] 24))) := qa0 hb (qa1 _ _); have HM1 : Hid (Mt (w1.alloc (.cells #[.int .i64 (c : Int), .int .i64 (r : Int), .slice (some ⟨g1, 0, none⟩) n n] 24)) (some ⟨g1, 0, none⟩) n n (trf F r c)) := (hr1.mt HTe.out).later (qa1 _ _); clear hr1 hb HTe _x)
  | (go_at_call 58; refine (gred_ok _ c r n n (some ⟨g1, 0, none⟩) (trf F r c) HM1.out HR2.out).mono ?_; rintro e w2 ⟨s2, d2, ps, pd, top, p, G, rfl, hm2, _, hrd, hsp, _, hb⟩; have HB2 : Hid (Below wb.heap.size wb w2) := qa0 HB1.out hb; have HM2 : Hid (Mt w2 s2 n d2 G) := hm2; have HKq : Hid (KerEq (m2 F r c) (m2 (trf G top r) r top) r) := HKe.out G p top hm2.sl.1 hrd hsp; have htc : top ≤ c := hrd.kr; have hroom : n ≤ d2 := hm2.room; have HV2 : Hid (Vr (w2.alloc (.cells #[.int .i64 (c : Int), .int .i64 (r : Int), .slice s2 n d2] 24)) w2.heap.size (.int .i64 (c : Int)) (.int .i64 (r : Int)) (.slice s2 n d2)) := Vr.new _ _ _ _; obtain ⟨P, HP⟩ : ∃ P, Hid (top * r = P) := ⟨_, rfl⟩; have hPn : P ≤ n := (by rw [← HP.out, ← hlen, Nat.mul_comm r c]; exact Nat.mul_le_mul_right r htc); have hPw : IntKind.i64.wrap ((top : Int) * (r : Int)) = (P : Int) := (by rw [show ((top : Int) * (r : Int)) = ((top * r : Nat) : Int) by simp, HP.out, IntKind.wrap_i64]; omega); have hP0 : (0 : Int) ≤ (P : Int) := (by omega); have hP1 : (P : Int) ≤ (d2 : Int) := (by omega); have RP : Hid (Rt top r P) := ⟨Nat.le_trans htc hc, hr, HP.out⟩; have HMp : Hid (Mt w2 s2 P d2 G) := hm2.pre hPn; have HTp : Hid (∀ q, q < P → trf G top r q < 256) := qda HMp.out.sl.1 RP.out; clear hm2 hrd hsp hb HP)
  | (go_at_call 57; refine (qem _ top r P d2 s2 G ((HMp.out.later (qa1 _ _)).later (qa1 _ _)) RP.out).mono ?_; rintro e w3 ⟨g3, rfl, hr3, hg3, hb⟩; have HB3 : Hid (Below wb.heap.size wb (w3.alloc (.cells #[.int .i64 (r : Int), .int .i64 (top : Int), .slice (some ⟨g3, 0, none⟩) P P] 24))) := qa0 (qa0 (qa0 (qa0 HB2.out (qa1 _ _)) (qa1 _ _)) hb) (qa1 _ _); have HR3 : Hid (RowAt (w3.alloc (.cells #[.int .i64 (r : Int), .int .i64 (top : Int), .slice (some ⟨g3, 0, none⟩) P P] 24)) g3 5 P (trf G top r)) := hr3.later (qa1 _ _); have hgb : wb.heap.size ≤ g3 := Nat.le_trans (qa0 (qa0 HB2.out (qa1 _ _)) (qa1 _ _)).size hg3; clear hr3 hg3 hb)
  | (refine qa8 rfl _ _ rfl (w.heap.size + 1) _ _ _ (.int .i64 (r : Int)) (.int .i64 (top : Int)) (.slice (some ⟨g3, 0, none⟩) P P) rfl rfl (HX.out.vr.later HB3.out) rfl rfl rfl ?_; intro w7 HV7 HG7))
 have d0 := HV7.out.c0
 have d1 := HV7.out.c1
 have d2' := HV7.out.c2
 refine bodyPost_ret (v := mv r top (some ⟨g3, 0, none⟩) P P) (by simp [results, Tryz.results26, go_sem, d0, d1, d2', mv]) rfl ?_
 exact ⟨g3, top, P, trf G top r, rfl, HR3.out.kept HG7.out (by omega), HTp.out, RP.out.turn, HKq.out, qa6 (qa0 HX.out.below HB3.out) HG7.out (by omega)⟩
open Go.RowKit Go.Shelf
attribute [local go_sem] Oper.semAt_some
theorem jhid {p : Prop} (h : p) : Hid p := h
/-- What is left to tell. -/
def amu (C : Nat) (ix : Nat → Nat) : Value → Value → Nat
 | .int _ s, .bool true => C + 1 - ix s.toNat
 | _, _ => 0
theorem qhk (C : Nat) (ix : Nat → Nat) (K : IntKind) (s : Nat) : amu C ix (.int K (s : Int)) (.bool true) = C + 1 - ix s := by simp [amu]
theorem amu_no (C : Nat) (ix : Nat → Nat) (v : Value) : amu C ix v (.bool false) = 0 := by cases v <;> rfl
theorem all_in (m l C bn bk : Nat) (n k : Int) (f ix : Nat → Nat) (W0 : World) (T : Nat → World → Prop) (Tx : World → Prop) (hm : 1 ≤ m)
  (hix : ∀ j, j < C → ix (f j) = j)
  (hA0 : C = 0 → ∀ w : World, Calls Tryz.prog 95 #[.int .i64 n, .int .i64 k, .int .i64 0] w fun e w' => e = .returned (.tuple #[.int .u64 0, .int .i64 2]) ∧ Below w.heap.size w w')
  (hA1 : 0 < C → ∀ w : World, Calls Tryz.prog 95 #[.int .i64 n, .int .i64 k, .int .i64 0] w fun e w' => e = .returned (.tuple #[.int .u64 (f 0 : Nat), .int .i64 0]) ∧ Below w.heap.size w w')
  (hN1 : ∀ j, j + 1 < C → ∀ w : World, Calls Tryz.prog 96 #[.int .i64 n, .int .u64 (f j : Nat)] w fun e w' => e = .returned (.tuple #[.int .u64 (f (j + 1) : Nat), .bool true]) ∧ Below w.heap.size w w')
  (hN0 : ∀ j, j + 1 = C → ∀ w : World, Calls Tryz.prog 96 #[.int .i64 n, .int .u64 (f j : Nat)] w fun e w' => e = .returned (.tuple #[.int .u64 0, .bool false]) ∧ Below w.heap.size w w')
  (hT : ∀ j W W', T j W → Below W.heap.size W W' → T j W')
  (hC : ∀ j W, T j W → W.cell? ⟨bn, 0, none⟩ = some (.int .i64 n) ∧ W.cell? ⟨bk, 0, none⟩ = some (.int .i64 k))
  (hY : ∀ j W, j < C → T j W → YieldAt Fence.wide (m - 1) Tryz.prog l #[.int .u64 (f j : Nat)] W (fun e W' => (e = .returned (.bool true) ∧ T (j + 1) W') ∨ (e = .returned (.bool false) ∧ Tx W')))
  (h0 : T 0 W0) :
  CallsIn Fence.wide m Tryz.prog 94 #[.func (.yield l) #[] #[], .pointer (some ⟨bn, 0, none⟩), .pointer (some ⟨bk, 0, none⟩)] W0 fun e W' => (∃ v, e = .returned v) ∧ (T C W' ∨ Tx W') := by
 have HT := jhid hT
 have HC := jhid hC
 have HYd := jhid hY
 have HA0 := jhid hA0
 have HA1 := jhid hA1
 have HN1 := jhid hN1
 have HN0 := jhid hN0
 have HIx := jhid hix
 have H0 : Hid (T 0 W0) := h0
 obtain ⟨c1, c2⟩ := hC 0 W0 h0
 clear hT hC hY h0 hA0 hA1 hN1 hN0 hix
 refine callsIn_of_wp Tryz.func94 rfl trivial ?_ rfl
 simp only [Tryz.ntmps94, List.size_toArray, List.length_cons, List.length_nil, Nat.reduceAdd, Nat.reduceSub, Array.replicate_succ, Array.replicate_zero, List.push_toArray, List.append_toArray, List.nil_append, List.cons_append]
 by_cases h : C = 0
 ·gi_wp2_with (refine ⟨trivial, ?_⟩; gi_at_call 95; refine (callsIn_wide.2 (HA0.out h _)).mono ?_; rintro e w1 ⟨rfl, hb1⟩; have HB1 : Hid (Below W0.heap.size W0 w1) := hb1; clear hb1)
  refine wpIn_loop_rounds 1 ?_
  rw [roundsIn_succ]
  gi_wp2
  refine ⟨fun _ h => (by cases h), ?_⟩
  gi_wp2
  go_end0
  exact ⟨⟨_, rfl⟩, .inl (by rw [h]; exact HT.out 0 _ _ H0.out HB1.out)⟩
 ·obtain ⟨s0, HS0⟩ : ∃ s0, Hid (f 0 = s0) := ⟨_, rfl⟩
  gi_wp2_with (refine ⟨trivial, ?_⟩; gi_at_call 95; refine (callsIn_wide.2 (HA1.out (by omega) _)).mono ?_; rintro e w1 ⟨rfl, hb1⟩; rw [HS0.out]; have HB1 : Hid (Below W0.heap.size W0 w1) := hb1; clear hb1)
  gi_loopw [4, 6] (fun vs vo wr => ∃ (j s : Nat) (b : Bool), vs = .int .u64 (s : Int) ∧ vo = .bool b ∧ Hid (b = true → j < C ∧ f j = s ∧ T j wr) ∧ Hid (b = false → T C wr)) (fun vs vo _ => amu C ix vs vo)
  case atStart => exact ⟨0, s0, true, rfl, rfl, fun _ => ⟨by omega, HS0.out, HT.out 0 _ _ H0.out HB1.out⟩, fun h => (by cases h)⟩
  case round =>
   clear HB1 HS0 H0 HA0 HA1 c1 c2
   obtain ⟨j, s, b, rfl, rfl, Hb1, Hb2⟩ := hrel
   cases b with
   | false =>
    have HTC : Hid (T C wr) := Hb2.out rfl
    clear Hb1 Hb2
    gi_wp2
    refine ⟨fun _ h => (by cases h), ?_⟩
    gi_wp2
    go_end0
    exact ⟨⟨_, rfl⟩, .inl HTC.out⟩
   | true =>
    obtain ⟨hj, hs, hTj⟩ := Hb1.out rfl
    have HTj : Hid (T j wr) := hTj
    obtain ⟨fn, tmps, assign, body, hy, hR⟩ := HYd.out j wr hj hTj
    rw [hs] at hy
    have HRd := jhid hR
    clear hR Hb1 Hb2 hTj
    gi_wp2
    refine HRd.out.mono ?_
    rintro e W3 (⟨rfl, ht3⟩ | ⟨rfl, htx⟩)
    ·have HT3 : Hid (T (j + 1) W3) := ht3
     obtain ⟨c3, _⟩ := HC.out (j + 1) W3 ht3
     clear ht3 hy HRd
     by_cases hlast : j + 1 < C
     ·obtain ⟨u, HU⟩ : ∃ u, Hid (f (j + 1) = u) := ⟨_, rfl⟩
      have HN : Hid (∀ w : World, Calls Tryz.prog 96 #[.int .i64 n, .int .u64 (s : Int)] w fun e w' => e = .returned (.tuple #[.int .u64 (u : Int), .bool true]) ∧ Below w.heap.size w w') := fun w => by
       have h := HN1.out j hlast w
       rw [hs, HU.out] at h
       exact h
      gi_wp2_with (refine ⟨trivial, ?_⟩; gi_at_call 96; refine (callsIn_wide.2 (HN.out _)).mono ?_; rintro e w4 ⟨rfl, hb4⟩; have HT4 : Hid (T (j + 1) w4) := HT.out (j + 1) _ _ HT3.out hb4; clear hb4)
      refine ⟨⟨j + 1, u, true, rfl, rfl, fun _ => ⟨hlast, HU.out, HT4.out⟩, fun h => (by cases h)⟩, ?_⟩
      rw [qhk, qhk, ← HU.out, ← hs, HIx.out _ hlast, HIx.out _ hj]
      omega
     ·have hlast2 : j + 1 = C := by omega
      have HN : Hid (∀ w : World, Calls Tryz.prog 96 #[.int .i64 n, .int .u64 (s : Int)] w fun e w' => e = .returned (.tuple #[.int .u64 0, .bool false]) ∧ Below w.heap.size w w') := fun w => by
       have h := HN0.out j hlast2 w
       rw [hs] at h
       exact h
      gi_wp2_with (refine ⟨trivial, ?_⟩; gi_at_call 96; refine (callsIn_wide.2 (HN.out _)).mono ?_; rintro e w4 ⟨rfl, hb4⟩; have HT4 : Hid (T (j + 1) w4) := HT.out (j + 1) _ _ HT3.out hb4; clear hb4)
      refine ⟨⟨j + 1, 0, false, rfl, rfl, fun h => (by cases h), fun _ => (by rw [← hlast2]; exact HT4.out)⟩, ?_⟩
      rw [qhk, amu_no, ← hs, HIx.out _ hj]
      omega
    ·have HTx : Hid (Tx W3) := htx
     clear htx hy HRd
     gi_wp2
     go_end0
     exact ⟨⟨_, rfl⟩, .inr HTx.out⟩
open Go.RowKit Go.Shelf
attribute [local go_sem] Oper.semAt_some
open Go.RowKit Go.Shelf
/-- How many sets All tells, and which. -/
structure AllF (n k : Int) (C : Nat) (f ix : Nat → Nat) : Prop where
 ix : ∀ j, j < C → ix (f j) = j
 a0 : C = 0 → ∀ w : World, Calls Tryz.prog 95 #[.int .i64 n, .int .i64 k, .int .i64 0] w fun e w' => e = .returned (.tuple #[.int .u64 0, .int .i64 2]) ∧ Below w.heap.size w w'
 a1 : 0 < C → ∀ w : World, Calls Tryz.prog 95 #[.int .i64 n, .int .i64 k, .int .i64 0] w fun e w' => e = .returned (.tuple #[.int .u64 (f 0 : Nat), .int .i64 0]) ∧ Below w.heap.size w w'
 n1 : ∀ j, j + 1 < C → ∀ w : World, Calls Tryz.prog 96 #[.int .i64 n, .int .u64 (f j : Nat)] w fun e w' => e = .returned (.tuple #[.int .u64 (f (j + 1) : Nat), .bool true]) ∧ Below w.heap.size w w'
 n0 : ∀ j, j + 1 = C → ∀ w : World, Calls Tryz.prog 96 #[.int .i64 n, .int .u64 (f j : Nat)] w fun e w' => e = .returned (.tuple #[.int .u64 0, .bool false]) ∧ Below w.heap.size w w'
open Go.RowKit Go.Shelf
/-- A variable of one cell. -/
def Cl (w : World) (b : Nat) (v : Value) (T : TypeId) : Prop := w.heap[b]? = some (.cells #[v] T (0, 0))
theorem Cl.lt {w : World} {b : Nat} {v : Value} {T : TypeId} (h : Cl w b v T) : b < w.heap.size := lt_of_block h
theorem Cl.cell {w : World} {b : Nat} {v : Value} {T : TypeId} (h : Cl w b v T) : w.cell? ⟨b, 0, none⟩ = some v := by rw [cell_of_row w b 0 _ _ _ h]; rfl
theorem Cl.free {w : World} {b : Nat} {v : Value} {T : TypeId} (h : Cl w b v T) : w.frozen? ⟨b, 0, none⟩ = false := by
 unfold Cl at h
 simp [World.frozen?, h]
theorem Cl.later {w w' : World} {b : Nat} {v : Value} {T : TypeId} (h : Cl w b v T) (hb : Below w.heap.size w w') : Cl w' b v T := by unfold Cl; rw [hb.block b h.lt]; exact h
theorem Cl.kept {w w' : World} {b : Nat} {v : Value} {T : TypeId} {row : Option Nat} (h : Cl w b v T) (hg : w.grownBy w' row) (hn : row ≠ some b) : Cl w' b v T := by unfold Cl; rw [hg.block b h.lt (fun e => hn e.symm)]; exact h
theorem Cl.set {w : World} {b : Nat} {v : Value} {T : TypeId} (h : Cl w b v T) (v' : Value) : Cl (w.setCell ⟨b, 0, none⟩ v') b v' T := by
 unfold Cl at *
 rw [setCell_eq_setRow w b 0 _ _ (0, 0) _ h, setRow_heap w b _ _ _ (0, 0) h]
 rfl
theorem Cl.new (w : World) (v : Value) (T : TypeId) : Cl (w.alloc (.cells #[v] T)) w.heap.size v T := heap_alloc_new w _
theorem qax (w : World) (g i : Nat) (v : Value) : w.grownBy (w.setCell ⟨g, i, none⟩ v) (some g) :=
 ⟨rfl, rfl, rfl, by simp, fun k _ hk => Below.heap_setCell w ⟨g, i, none⟩ v k (by intro e; apply hk; simpa using e)⟩
/-- The marks that loops over functions have left: blocks from B on and below E. -/
def DOk (W : World) (B : Nat) : Nat → List Deferred → Prop
 | _, [] => True
 | E, d :: ds => ∃ D, d = { target := .collected D, args := #[] } ∧ B ≤ D ∧ D < E ∧ W.heap[D]? = some (.deferred (some [])) ∧ DOk W B D ds
theorem DOk.mono {W : World} {B E E' : Nat} {ds : List Deferred} (h : DOk W B E ds) (hE : E ≤ E') : DOk W B E' ds := by
 cases ds with
 | nil => trivial
 | cons d ds =>
  obtain ⟨D, h1, h2, h3, h4, h5⟩ := h
  exact ⟨D, h1, h2, by omega, h4, h5⟩
theorem DOk.kept {W W' : World} {B : Nat} : ∀ {E : Nat} {ds : List Deferred}, DOk W B E ds → (∀ i, B ≤ i → i < E → i < W.heap.size → W'.heap[i]? = W.heap[i]?) → DOk W' B E ds := by
 intro E ds
 induction ds generalizing E with
 | nil => intro _ _; trivial
 | cons d ds ih =>
  rintro ⟨D, h1, h2, h3, h4, h5⟩ hk
  exact ⟨D, h1, h2, h3, by rw [hk D h2 h3 (lt_of_block h4)]; exact h4, ih h5 (fun i a b c => hk i a (by omega) c)⟩
open Go.RowKit Go.Shelf
attribute [local go_sem] Oper.semAt_some
theorem lothers (w : World) (n b k : Int) :
  Calls Tryz.prog 44 #[.int .i64 n, .int .i64 b, .int .i64 k] w fun e w' => ∃ bn bk bb, e = .returned (.func (.func 76) #[] #[.pointer (some ⟨bn, 0, none⟩), .pointer (some ⟨bk, 0, none⟩), .pointer (some ⟨bb, 0, none⟩)]) ∧ Cl w' bn (.int .i64 n) 3 ∧ Cl w' bk (.int .i64 k) 3 ∧ Cl w' bb (.int .i64 b) 3 ∧ w.heap.size ≤ bn ∧ w.heap.size ≤ bk ∧ w.heap.size ≤ bb ∧ Below w.heap.size w w' := by
 have hmf : ∀ (fn : Fn) (first cap : Array Value) (w : World), (Instr.makeFunc fn first cap).run Tryz.prog w = .ok (.func fn first cap) w := fun _ _ _ _ => rfl
 have e1 : (w.alloc (.cells #[.int .i64 n] 3)).heap.size = w.heap.size + 1 := by simp
 have e2 : ((w.alloc (.cells #[.int .i64 n] 3)).alloc (.cells #[.int .i64 b] 3)).heap.size = w.heap.size + 1 + 1 := by simp
 go_enter Tryz.func44, Tryz.ntmps44
 go_wp2
 go_ret
 have h1 : Cl ((w.alloc (.cells #[.int .i64 n] 3)).alloc (.cells #[.int .i64 b] 3)) (w.heap.size + 1) (.int .i64 b) 3 := by
  rw [← e1]; exact Cl.new _ _ _
 have h2 : Cl (((w.alloc (.cells #[.int .i64 n] 3)).alloc (.cells #[.int .i64 b] 3)).alloc (.cells #[.int .i64 k] 3)) (w.heap.size + 1 + 1) (.int .i64 k) 3 := by
  rw [← e2]; exact Cl.new _ _ _
 exact ⟨w.heap.size, w.heap.size + 1 + 1, w.heap.size + 1, rfl, ((Cl.new w _ _).later (qa1 _ _)).later (qa1 _ _), h2, h1.later (qa1 _ _), by omega, by omega, by omega, qa0 (qa0 (qa1 _ _) (qa1 _ _)) (qa1 _ _)⟩
/-- How a round's body may be left: it goes on, by a break, or by a return. -/
def rndR (Kp : Nat → World → Prop) (Kx : Code → World → Prop) (j B : Nat) (W : World) : Exit → Act → World → Prop
 | .normal, _, W' => Kp (j + 1) W' ∧ W.heap.size ≤ W'.heap.size ∧ ∀ i, B ≤ i → i < W.heap.size → W'.heap[i]? = W.heap[i]?
 | .exit id, _, W' => Kx (.exit id) W' ∧ W.heap.size ≤ W'.heap.size ∧ ∀ i, B ≤ i → i < W.heap.size → W'.heap[i]? = W.heap[i]?
 | .ret, _, W' => Kx .ret W' ∧ W.heap.size ≤ W'.heap.size ∧ ∀ i, B ≤ i → i < W.heap.size → W'.heap[i]? = W.heap[i]?
 | _, _, _ => False
theorem qjy {gop : Operand} {p : Tmp} {assign body : Code} {Q : Exit → Act → World → Prop} {a : Act} {w : World} {nn C bn bk : Nat} (n k : Int) (f ix : Nat → Nat) (Kp : Nat → World → Prop) (Kx : Code → World → Prop)
  (hnn : 2 ≤ nn) (hix : ∀ j, j < C → ix (f j) = j)
  (hA0 : C = 0 → ∀ w : World, Calls Tryz.prog 95 #[.int .i64 n, .int .i64 k, .int .i64 0] w fun e w' => e = .returned (.tuple #[.int .u64 0, .int .i64 2]) ∧ Below w.heap.size w w')
  (hA1 : 0 < C → ∀ w : World, Calls Tryz.prog 95 #[.int .i64 n, .int .i64 k, .int .i64 0] w fun e w' => e = .returned (.tuple #[.int .u64 (f 0 : Nat), .int .i64 0]) ∧ Below w.heap.size w w')
  (hN1 : ∀ j, j + 1 < C → ∀ w : World, Calls Tryz.prog 96 #[.int .i64 n, .int .u64 (f j : Nat)] w fun e w' => e = .returned (.tuple #[.int .u64 (f (j + 1) : Nat), .bool true]) ∧ Below w.heap.size w w')
  (hN0 : ∀ j, j + 1 = C → ∀ w : World, Calls Tryz.prog 96 #[.int .i64 n, .int .u64 (f j : Nat)] w fun e w' => e = .returned (.tuple #[.int .u64 0, .bool false]) ∧ Below w.heap.size w w')
  (hg : a.eval gop = .func (.func 94) #[] #[.pointer (some ⟨bn, 0, none⟩), .pointer (some ⟨bk, 0, none⟩)])
  (hKp : ∀ j W W' row, Kp j W → W.grownBy W' row → (∀ g, row = some g → w.heap.size ≤ g) → Kp j W')
  (hKx : ∀ c W W' row, Kx c W → W.grownBy W' row → (∀ g, row = some g → w.heap.size ≤ g) → Kx c W')
  (hKc : ∀ j W, Kp j W → W.cell? ⟨bn, 0, none⟩ = some (.int .i64 n) ∧ W.cell? ⟨bk, 0, none⟩ = some (.int .i64 k))
  (h0 : Kp 0 w) (a₁ : Nat → Act)
  (hassign : ∀ (l s : Nat) (W : World) (K : Act → World → Prop), K (a₁ s) W → assign.wpIn (Fence.wide.inRound l) (nn - 1 - 1) Tryz.prog (Exit.then K (fun _ _ _ => False)) { tmps := a.tmps.setIfInBounds p (.int .u64 (s : Int)), defers := [] } W)
  (hbody : ∀ (l j : Nat) (W : World), j < C → Kp j W → body.wpIn (Fence.wide.inRound l) (nn - 1 - 1) Tryz.prog (rndR Kp Kx j w.heap.size W) (a₁ (f j)) W)
  (hdone : ∀ (D : Nat) (W : World), w.heap.size ≤ D → Kp C W → W.heap[D]? = some (.deferred (some [])) → Q .normal { a with defers := { target := .collected D, args := #[] } :: a.defers } W)
  (hstop : ∀ (D : Nat) (c : Code) (W : World), w.heap.size ≤ D → Kx c W → W.heap[D]? = some (.deferred (some [])) → c.wpIn Fence.wide nn Tryz.prog Q { a with defers := { target := .collected D, args := #[] } :: a.defers } W) :
  (Code.rangeFunc gop #[p] assign body).wpIn Fence.wide nn Tryz.prog Q a w := by
 refine wpIn_rangeFunc ?_
 intro fn hfn
 obtain ⟨rc, hrc⟩ : ∃ rc : LoopState → Option Code → Loop, rc = fun st pe => { state := st, pending := pe, fn, tmps := a.tmps, params := #[p], assign, body, defers := w.heap.size } := ⟨_, rfl⟩
 obtain ⟨W1, hW1⟩ : ∃ W1, (w.alloc (.deferred (some []))).alloc (.loop (rc .ready none)) = W1 := ⟨_, rfl⟩
 have hs1 : W1.heap.size = w.heap.size + 2 := by rw [← hW1]; simp
 have hL1 : W1.heap[w.heap.size + 1]? = some (.loop (rc .ready none)) := by rw [← hW1]; exact heap_alloc2_new _ _ _
 have hD1 : W1.heap[w.heap.size]? = some (.deferred (some [])) := by rw [← hW1]; exact heap_alloc2_old _ _ _
 have hb1 : Below w.heap.size w W1 := by rw [← hW1]; exact jtwo (jlow _ _) (jlow _ _)
 have hK1 : Kp 0 W1 := hKp 0 w W1 none h0 (jgrown.mpr hb1) (fun g e => by cases e)
 have put : ∀ (W : World) (o : Obj), W.grownBy (W.putObj (w.heap.size + 1) o) (some (w.heap.size + 1)) := fun W o => grownBy_putObj' W (w.heap.size + 1) o
 refine ⟨w.heap.size + 1, [{ target := .collected w.heap.size, args := #[] }], W1, { target := .fn (.func 94) #[.pointer (some ⟨bn, 0, none⟩), .pointer (some ⟨bk, 0, none⟩)], args := #[.func (.yield (w.heap.size + 1)) #[] #[]] }, W1, 94,
  #[.func (.yield (w.heap.size + 1)) #[] #[]] ++ #[.pointer (some ⟨bn, 0, none⟩), .pointer (some ⟨bk, 0, none⟩)], W1, ?_, ?_, ?_, ?_, fun h => (by cases h), ?_⟩
 ·rw [← hW1, hrc]; exact run_enterLoop_outer _ _ _ _ _
 ·simp only [resolve, hg]
  simp [go_sem]
 ·intro f' _; trivial
 ·simp [invoke, go_sem]
 ·refine (all_in (nn - 1) (w.heap.size + 1) C bn bk n k f ix W1
   (fun j W => Kp j W ∧ W.heap[w.heap.size + 1]? = some (.loop (rc .ready none)) ∧ W.heap[w.heap.size]? = some (.deferred (some [])))
   (fun W => ∃ c, Kx c W ∧ W.heap[w.heap.size + 1]? = some (.loop (rc .done (some c))) ∧ W.heap[w.heap.size]? = some (.deferred (some [])))
   (by omega) hix hA0 hA1 hN1 hN0 ?_ (fun j W h => hKc j W h.1) ?_ ⟨hK1, hL1, hD1⟩).mono ?_
  ·rintro j W W' ⟨h1, h2, h3⟩ hbw
   exact ⟨hKp j W W' none h1 (jgrown.mpr hbw) (fun g e => by cases e), by rw [hbw.block _ (lt_of_block h2)]; exact h2, by rw [hbw.block _ (lt_of_block h3)]; exact h3⟩
  ·rintro j W hj ⟨h1, h2, h3⟩
   have l2 := lt_of_block h2
   have hy := run_yield (P := Tryz.prog) (args := #[.int .u64 (f j : Nat)]) h2 (by rw [hrc]; rfl)
   rw [hrc] at hy
   refine ⟨fn, _, assign, body, hy, roundIn_of_wpIn hfn ?_⟩
   have htm : ((#[p] : Array Tmp).zip #[Value.int .u64 (f j : Nat)]).foldl (fun tmps (t, a) => tmps.setIfInBounds t a) a.tmps = a.tmps.setIfInBounds p (.int .u64 (f j : Nat)) := by simp
   rw [htm]
   refine hassign _ (f j) W _ ?_
   refine ⟨_, run_beginRound h2 (by rw [hrc]), ?_⟩
   obtain ⟨W2, hW2⟩ : ∃ W2, W.putObj (w.heap.size + 1) (.loop { rc .ready none with state := .busy }) = W2 := ⟨_, rfl⟩
   have hg2 : W.grownBy W2 (some (w.heap.size + 1)) := by rw [← hW2]; exact put _ _
   have k2 : Kp j W2 := hKp j W W2 _ h1 hg2 (fun g e => by cases e; omega)
   have h22 : W2.heap[w.heap.size + 1]? = some (.loop { rc .ready none with state := .busy }) := by rw [← hW2]; exact World.putObj_heap_same l2
   have h32 : W2.heap[w.heap.size]? = some (.deferred (some [])) := by rw [hg2.block _ (lt_of_block h3) (fun e => by simp at e)]; exact h3
   rw [hW2]
   refine wpIn_mono (hbody _ j W2 hj k2) ?_
   rintro e a3 W3 hp
   cases e with
   | normal =>
    obtain ⟨hk3, hs3, hbl⟩ := hp
    have hl3 : W3.heap[w.heap.size + 1]? = some (.loop { rc .ready none with state := .busy }) := by rw [hbl _ (by omega) (lt_of_block h22)]; exact h22
    have hd3 : W3.heap[w.heap.size]? = some (.deferred (some [])) := by rw [hbl _ (by omega) (lt_of_block h32)]; exact h32
    have hend := run_endRound (P := Tryz.prog) none hl3
    refine ⟨_, _, hend, .inl ⟨rfl, hKp (j + 1) W3 _ _ hk3 (put _ _) (fun g e => by cases e; omega), ?_, ?_⟩⟩
    ·rw [World.putObj_heap_same (lt_of_block hl3), hrc]; rfl
    ·exact (World.putObj_heap_other (by omega)).trans hd3
   | exit id =>
    obtain ⟨hk3, hs3, hbl⟩ := hp
    have hl3 : W3.heap[w.heap.size + 1]? = some (.loop { rc .ready none with state := .busy }) := by rw [hbl _ (by omega) (lt_of_block h22)]; exact h22
    have hd3 : W3.heap[w.heap.size]? = some (.deferred (some [])) := by rw [hbl _ (by omega) (lt_of_block h32)]; exact h32
    have hend := run_endRound (P := Tryz.prog) (some (.exit id)) hl3
    refine ⟨_, _, hend, .inr ⟨rfl, _, hKx _ W3 _ _ hk3 (put _ _) (fun g e => by cases e; omega), ?_, ?_⟩⟩
    ·rw [World.putObj_heap_same (lt_of_block hl3), hrc]; rfl
    ·exact (World.putObj_heap_other (by omega)).trans hd3
   | ret =>
    obtain ⟨hk3, hs3, hbl⟩ := hp
    have hl3 : W3.heap[w.heap.size + 1]? = some (.loop { rc .ready none with state := .busy }) := by rw [hbl _ (by omega) (lt_of_block h22)]; exact h22
    have hd3 : W3.heap[w.heap.size]? = some (.deferred (some [])) := by rw [hbl _ (by omega) (lt_of_block h32)]; exact h32
    have hend := run_endRound (P := Tryz.prog) (some .ret) hl3
    refine ⟨_, _, hend, .inr ⟨rfl, _, hKx _ W3 _ _ hk3 (put _ _) (fun g e => by cases e; omega), ?_, ?_⟩⟩
    ·rw [World.putObj_heap_same (lt_of_block hl3), hrc]; rfl
    ·exact (World.putObj_heap_other (by omega)).trans hd3
   | goto t => exact hp.elim
   | panic ch => exact hp.elim
   | outgrown => exact hp.elim
  ·rintro e W2 ⟨⟨v, rfl⟩, (⟨h1, h2, h3⟩ | ⟨c, h1, h2, h3⟩)⟩
   ·refine ⟨none, _, by have := run_endLoop (P := Tryz.prog) h2 (by rw [hrc]; simp); rw [hrc] at this; exact this, ?_⟩
    exact hdone _ _ (Nat.le_refl _) (hKp C W2 _ _ h1 (put _ _) (fun g e => by cases e; omega)) ((World.putObj_heap_other (by omega)).trans h3)
   ·refine ⟨some c, _, by have := run_endLoop (P := Tryz.prog) h2 (by rw [hrc]; simp); rw [hrc] at this; exact this, ?_⟩
    exact hstop _ c _ (Nat.le_refl _) (hKx c W2 _ _ h1 (put _ _) (fun g e => by cases e; omega)) ((World.putObj_heap_other (by omega)).trans h3)
open Go.RowKit Go.Shelf
theorem oth_ops {s b : Nat} (hs : s < 9223372036854775808) (hb : b < 64) : ∃ z z1 lo hi h2 g : Nat, IntKind.u64.wrap (2 ^ b) = (z : Int) ∧ IntKind.u64.wrap ((z : Int) - 1) = (z1 : Int) ∧ bits .and .u64 (s : Int) (z1 : Int) = (lo : Int) ∧ bits .xor .u64 (s : Int) (lo : Int) = (hi : Int) ∧ IntKind.u64.wrap ((hi : Int) * 2) = (h2 : Int) ∧ bits .or .u64 (lo : Int) (h2 : Int) = (g : Int) ∧ ∀ i, bt g i = 1 ↔ (i < b ∧ bt s i = 1) ∨ (b < i ∧ bt s (i - 1) = 1) := by
 have hz := qbb hb
 have hz0 := Nat.two_pow_pos b
 have hlo : s &&& (2 ^ b - 1) = s % 2 ^ b := Nat.and_two_pow_sub_one_eq_mod s b
 have hlo2 : s % 2 ^ b ≤ s := Nat.mod_le _ _
 have hhi : s ^^^ (s % 2 ^ b) < 2 ^ 63 := Nat.xor_lt_two_pow hs (Nat.lt_of_le_of_lt hlo2 hs)
 have hbhi : ∀ i, bt (s ^^^ (s % 2 ^ b)) i = 1 ↔ ¬ i < b ∧ bt s i = 1 := fun i => by
  rw [qat, Nat.testBit_xor, Nat.testBit_mod_two_pow, qat]
  by_cases hi : i < b
  ·simp [hi]
  ·simp [hi]
 refine ⟨2 ^ b, 2 ^ b - 1, s % 2 ^ b, s ^^^ (s % 2 ^ b), (s ^^^ (s % 2 ^ b)) * 2, (s % 2 ^ b) ||| ((s ^^^ (s % 2 ^ b)) * 2), qg4 b hb, ?_, ?_, ?_, ?_, ?_, fun i => ?_⟩
 ·rw [IntKind.wrap_u64]
  generalize 2 ^ b = y at hz hz0
  omega
 ·rw [u64_and_nat s (2 ^ b - 1) (by omega) (by omega), hlo]
 ·exact u64_xor_nat s (s % 2 ^ b) (by omega) (by omega)
 ·rw [IntKind.wrap_u64]
  generalize s ^^^ (s % 2 ^ b) = y at hhi
  have : y < 9223372036854775808 := hhi
  omega
 ·refine u64_or_nat _ _ (by omega) ?_
  generalize s ^^^ (s % 2 ^ b) = y at hhi
  have : y < 9223372036854775808 := hhi
  omega
 ·rw [qbo, qls]
  have h2 : bt ((s ^^^ (s % 2 ^ b)) * 2) i = 1 ↔ 0 < i ∧ bt (s ^^^ (s % 2 ^ b)) (i - 1) = 1 := by
   have e : (s ^^^ (s % 2 ^ b)) * 2 = (s ^^^ (s % 2 ^ b)) <<< 1 := by rw [Nat.shiftLeft_eq]
   rw [e, qat, Nat.testBit_shiftLeft, qat]
   simp only [Bool.and_eq_true, decide_eq_true_eq]
   exact ⟨fun h => ⟨by omega, h.2⟩, fun h => ⟨by omega, h.2⟩⟩
  rw [h2, hbhi]
  constructor
  ·rintro (h | ⟨h1, h3, h4⟩)
   ·exact .inl h
   ·exact .inr ⟨by omega, h4⟩
  ·rintro (h | ⟨h1, h3⟩)
   ·exact .inl h
   ·exact .inr ⟨by omega, by omega, h3⟩
open Go.RowKit Go.Shelf
attribute [local go_sem] Oper.semAt_some
/-- What others makes of All's set s: g. -/
def OthG (b s g : Nat) : Prop := ∃ z z1 lo hi h2 : Nat, IntKind.u64.wrap (2 ^ b) = (z : Int) ∧ IntKind.u64.wrap ((z : Int) - 1) = (z1 : Int) ∧ bits .and .u64 (s : Int) (z1 : Int) = (lo : Int) ∧ bits .xor .u64 (s : Int) (lo : Int) = (hi : Int) ∧ IntKind.u64.wrap ((hi : Int) * 2) = (h2 : Int) ∧ bits .or .u64 (lo : Int) (h2 : Int) = (g : Int)
theorem qmd (m l C bn bk bb n b : Nat) (k : Int) (f ix G : Nat → Nat) (W0 : World) (T : Nat → World → Prop) (Tx : World → Prop) (hn1 : 1 ≤ n) (hn : n ≤ 64) (hb : b < n)
  (AF : AllF ((n : Int) - 1) k C f ix) (hG : ∀ j, j < C → OthG b (f j) (G j))
  (hC : ∀ j W, T j W → W.cell? ⟨bn, 0, none⟩ = some (.int .i64 (n : Int)) ∧ W.cell? ⟨bk, 0, none⟩ = some (.int .i64 k) ∧ W.cell? ⟨bb, 0, none⟩ = some (.int .i64 (b : Int)))
  (hT : ∀ j W W', T j W → Below W0.heap.size W W' → T j W') (hTx : ∀ W W', Tx W → Below W0.heap.size W W' → Tx W') (hsz : ∀ j W, T j W → W0.heap.size ≤ W.heap.size) (hsx : ∀ W, Tx W → W0.heap.size ≤ W.heap.size)
  (hY : ∀ q j W, j < C → T j W → YieldAt Fence.wide q Tryz.prog l #[.int .u64 (G j : Nat)] W (fun e W' => ((e = .returned (.bool true) ∧ T (j + 1) W') ∨ (e = .returned (.bool false) ∧ Tx W')) ∧ W.heap.size ≤ W'.heap.size ∧ ∀ i, W0.heap.size ≤ i → i < W.heap.size → W'.heap[i]? = W.heap[i]?))
  (h0 : T 0 W0) :
  CallsIn Fence.wide m Tryz.prog 76 #[.func (.yield l) #[] #[], .pointer (some ⟨bn, 0, none⟩), .pointer (some ⟨bk, 0, none⟩), .pointer (some ⟨bb, 0, none⟩)] W0 fun e W' => (∃ v, e = .returned v) ∧ (T C W' ∨ Tx W') := by
 have HT := qa5 hT
 have HTx := qa5 hTx
 have HC := qa5 hC
 have HY := qa5 hY
 have HG := qa5 hG
 have HS := qa5 hsz
 have HSx := qa5 hsx
 have H0 : Hid (T 0 W0) := h0
 have hb64 : b < 64 := by omega
 obtain ⟨N1, hN1⟩ : ∃ N1, n - 1 = N1 := ⟨_, rfl⟩
 have en : (n : Int) - 1 = (N1 : Int) := by omega
 rw [en] at AF
 have HAF := qa5 AF
 obtain ⟨wb, HW⟩ : ∃ wb, Hid (wb = W0.alloc (.cells #[.func (.yield l) #[] #[]] 109)) := ⟨_, rfl⟩
 have HBb : Hid (Below W0.heap.size W0 wb) := by rw [HW.out]; exact qa1 _ _
 have HVy : Hid (Cl wb W0.heap.size (.func (.yield l) #[] #[]) 109) := by rw [HW.out]; exact Cl.new _ _ _
 have HTb : Hid (T 0 wb) := hT 0 W0 wb h0 HBb.out
 obtain ⟨c1, c2, c3⟩ := hC 0 wb HTb.out
 rw [HW.out] at c1 c2 c3
 clear hT hTx hC hY hG hsz hsx h0 AF
 refine callsIn_wide.2 ((callsIn_wide (n := 4)).1 (callsIn_of_wp_marks Tryz.func76 rfl trivial ?_ rfl))
 simp only [Tryz.ntmps76, List.size_toArray, List.length_cons, List.length_nil, Nat.reduceAdd, Nat.reduceSub, Array.replicate_succ, Array.replicate_zero, List.push_toArray, List.append_toArray, List.nil_append, List.cons_append]
 refine wpIn_wide.2 ?_
 go_wp2_with (go_at_call 77; rw [← HW.out]; refine (jall_any _ _ _).mono ?_; rintro e w1 ⟨rfl, hd1, hd2, hs1, hb1⟩; have HB1 : Hid (Below wb.heap.size wb w1) := hb1; have HD1 := qa5 hd1; have HD2 := qa5 hd2; have HS1 := qa5 hs1; clear hd1 hd2 hs1 hb1)
 obtain ⟨bn2, Hbn2⟩ : ∃ x, Hid (x = wb.heap.size) := ⟨_, rfl⟩
 obtain ⟨bk2, Hbk2⟩ : ∃ x, Hid (x = wb.heap.size + 1) := ⟨_, rfl⟩
 have hwb : W0.heap.size + 1 ≤ wb.heap.size := by have := HVy.out.lt; omega
 have h1s := HS1.out
 have HE1 : Hid (w1.cell? ⟨bn2, 0, none⟩ = some (.int .i64 (N1 : Int))) := by rw [Hbn2.out]; exact HD1.out
 have HE2 : Hid (w1.cell? ⟨bk2, 0, none⟩ = some (.int .i64 k)) := by rw [Hbk2.out]; exact HD2.out
 have hl1 : bn2 < w1.heap.size := by rw [Hbn2.out]; omega
 have hl2 : bk2 < w1.heap.size := by rw [Hbk2.out]; omega
 have hl3 : W0.heap.size ≤ bn2 := by rw [Hbn2.out]; omega
 have hl4 : W0.heap.size ≤ bk2 := by rw [Hbk2.out]; omega
 have HVy1 : Hid (w1.cell? ⟨W0.heap.size, 0, none⟩ = some (.func (.yield l) #[] #[])) := (HVy.out.later HB1.out).cell
 have HT1 : Hid (T 0 w1) := HT.out 0 wb w1 HTb.out (HB1.out.mono (by omega))
 have hyl : W0.heap.size < w1.heap.size := by omega
 rw [← Hbk2.out, ← Hbn2.out]
 clear HD1 HD2 Hbn2 Hbk2 HTb HVy HS1 c1 c2 c3 HW
 refine (wpIn_wide (n := 4)).1 ?_
 refine qjy (nn := 4) (C := C) (bn := bn2) (bk := bk2) (N1 : Int) k f ix
  (fun j W => T j W ∧ w1.heap.size ≤ W.heap.size ∧ W.cell? ⟨bn2, 0, none⟩ = some (.int .i64 (N1 : Int)) ∧ W.cell? ⟨bk2, 0, none⟩ = some (.int .i64 k) ∧ W.cell? ⟨W0.heap.size, 0, none⟩ = some (.func (.yield l) #[] #[]))
  (fun c W => c = .ret ∧ Tx W ∧ w1.heap.size ≤ W.heap.size) (by omega) HAF.out.ix HAF.out.a0 HAF.out.a1 HAF.out.n1 HAF.out.n0 rfl ?hKp ?hKx ?hKc ?h0
  (fun s => { tmps := #[.func (.yield l) #[] #[], .pointer (some ⟨bn, 0, none⟩), .pointer (some ⟨bk, 0, none⟩), .pointer (some ⟨bb, 0, none⟩), .pointer (some ⟨W0.heap.size, 0, none⟩), .int .u64 (s : Int), undef, .int .i64 (n : Int), .int .i64 (N1 : Int), .int .i64 k, .func (.func 94) #[] #[.pointer (some ⟨bn2, 0, none⟩), .pointer (some ⟨bk2, 0, none⟩)], .int .u64 (s : Int), undef, undef, undef, undef, undef, undef, undef, undef, undef, undef, undef, undef, undef, undef], defers := [] }) ?hassign ?hbody ?hdone ?hstop
 case hKp =>
  rintro j W W' row ⟨h1, h2, h3, h4, h5⟩ hg hrow
  have hbl : Below W0.heap.size W W' := jbelow hg (by omega) (fun g e => by have := hrow g e; omega)
  have kc : ∀ x v, x < w1.heap.size → W.cell? ⟨x, 0, none⟩ = some v → W'.cell? ⟨x, 0, none⟩ = some v := fun x v hx hc => by
   rw [World.cell?_of_block (a := ⟨x, 0, none⟩) (hg.block x (by omega) (fun e => by have := hrow x e.symm; omega))]
   exact hc
  exact ⟨HT.out j W W' h1 hbl, Nat.le_trans h2 hg.size, kc _ _ hl1 h3, kc _ _ hl2 h4, kc _ _ hyl h5⟩
 case hKx =>
  rintro c W W' row ⟨h1, h2, h3⟩ hg hrow
  exact ⟨h1, HTx.out W W' h2 (jbelow hg (by omega) (fun g e => by have := hrow g e; omega)), Nat.le_trans h3 hg.size⟩
 case hKc => exact fun j W h => ⟨h.2.2.1, h.2.2.2.1⟩
 case h0 => exact ⟨HT1.out, Nat.le_refl _, HE1.out, HE2.out, HVy1.out⟩
 case hassign =>
  intro l2 s W K hK
  gi_wp2
  exact hK
 case hbody =>
  rintro l2 j W hj ⟨h1, h2, h3, h4, h5⟩
  obtain ⟨z, z1, lo, hi, h2', q1, q2, q3, q4, q5, q6⟩ := HG.out j hj
  obtain ⟨x, HX⟩ : ∃ x, Hid (f j = x) := ⟨_, rfl⟩
  rw [HX.out] at q3 q4 ⊢
  have c3 := (HC.out j W h1).2.2
  obtain ⟨y, HYy⟩ : ∃ y, Hid (G j = y) := ⟨_, rfl⟩
  rw [HYy.out] at q6
  obtain ⟨fn, tmps, assign, body, hy, hR⟩ := HY.out 1 j W hj h1
  rw [HYy.out] at hy
  have HRd := qa5 hR
  have H3 := qa5 h3
  have H4 := qa5 h4
  have H1 := qa5 h1
  clear hR h1 h3 h4 HX HYy
  gi_wp2
  have hR2 : RoundIn (Fence.wide.inRound l2) 1 Tryz.prog l fn tmps assign body W _ := HRd.out
  refine RoundIn.mono hR2 ?_
  clear hR2 HRd hy
  rintro e W3 ⟨hc, hs3, hbl⟩
  have HK3 : Hid (∀ x v, W0.heap.size ≤ x → x < w1.heap.size → W.cell? ⟨x, 0, none⟩ = some v → W3.cell? ⟨x, 0, none⟩ = some v) := fun x v hx hx2 hcc => by
   rw [World.cell?_of_block (a := ⟨x, 0, none⟩) (hbl x hx (by omega))]
   exact hcc
  have HBl : Hid (∀ i, w1.heap.size ≤ i → i < W.heap.size → W3.heap[i]? = W.heap[i]?) := fun i hi hi2 => hbl i (by omega) hi2
  clear hbl
  rcases hc with ⟨rfl, ht⟩ | ⟨rfl, hx⟩
  ·have HT3 := qa5 ht
   clear ht
   gi_wp2
   exact ⟨⟨HT3.out, by omega, HK3.out _ _ hl3 hl1 H3.out, HK3.out _ _ hl4 hl2 H4.out, HK3.out _ _ (Nat.le_refl _) hyl h5⟩, hs3, HBl.out⟩
  ·have HX3 := qa5 hx
   clear hx
   gi_wp2
   exact ⟨⟨rfl, HX3.out, by omega⟩, hs3, HBl.out⟩
 case hdone =>
  rintro D W hD ⟨h1, h2, _, _, _⟩ hdf
  have HDf := qa5 hdf
  have H1 := qa5 h1
  clear hdf h1
  go_wp2
  refine ⟨by simp, .inl ⟨_, _, rfl, run_takeDeferred HDf.out, ?_⟩⟩
  refine ⟨_, results_none rfl _ _ _, ?_⟩
  exact ⟨⟨_, rfl⟩, .inl (HT.out C W _ H1.out (jbelow (grownBy_putObj' W D (.deferred none)) (by omega) (fun g e => by have h := Option.some.inj e; omega)))⟩
 case hstop =>
  rintro D c W hD ⟨rfl, h1, h2⟩ hdf
  have HDf := qa5 hdf
  have H1 := qa5 h1
  clear hdf h1
  refine wpIn_wide.2 ?_
  go_wp2
  refine ⟨by simp, .inl ⟨_, _, rfl, run_takeDeferred HDf.out, ?_⟩⟩
  refine ⟨_, results_none rfl _ _ _, ?_⟩
  exact ⟨⟨_, rfl⟩, .inr (HTx.out W _ H1.out (jbelow (grownBy_putObj' W D (.deferred none)) (by omega) (fun g e => by have h := Option.some.inj e; omega)))⟩
end Go.Proofs.YtblagbghpfopcaaGreat
