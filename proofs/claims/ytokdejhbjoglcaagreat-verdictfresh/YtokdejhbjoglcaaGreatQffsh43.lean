/-
  The program's verdict.left: its function tells the rows that are not lost, one after another; the law for a range over it.
  The program's verdict.firstLeft: the sources among the left rows.
  The program's verdict.ifRecovered of sets, Sources and Recovers.
  The reference's Recovers and Sources.
  What is said of lost blocks: the program's Recovers and Sources and the reference's answer the same.
-/
import Derived.Test.YtokdejhbjoglcaaGreatQffsh00
import Derived.Test.YtokdejhbjoglcaaGreatQffsh41
import Derived.Test.YtokdejhbjoglcaaGreatQffsh42
import Derived.RangeFuncNested
import Derived.RangeFuncCalls
import Derived.RangeFuncLeaves
import Derived.RangeFuncBound
import Derived.RangeFuncKeeps
import Derived.RangeFuncFrom
import Derived.Shelf.Abstract
import Derived.Shelf.RegionOpen
import Derived.LoopNIn
import Derived.LoopIn
import Derived.TacticsInMore
import Derived.OwnWalkIn
import Derived.Deep.RegionHeld3
set_option maxRecDepth 100000
set_option maxHeartbeats 16000000
namespace Go.Proofs.YtokdejhbjoglcaaGreat
open Go.RowKit Go.Shelf
attribute [local go_sem] Oper.semAt_some
theorem vleft18 (w : World) (r c : Int) (n k s : Nat) (a : Option Addr) :
  Calls Tryz.prog 56 #[mv r c a n k, .int .u64 (s : Int)] w fun e w' => ∃ bm bs, e = .returned (.func (.func 78) #[] #[.pointer (some ⟨bm, 0, none⟩), .pointer (some ⟨bs, 0, none⟩)]) ∧ Vr w' bm (.int .i64 r) (.int .i64 c) (.slice a n k) ∧ Cl w' bs (.int .u64 (s : Int)) 26 ∧ w.heap.size ≤ bm ∧ w.heap.size ≤ bs ∧ Below w.heap.size w w' := by
 have hmf : ∀ (fn : Fn) (first cap : Array Value) (w : World), (Instr.makeFunc fn first cap).run Tryz.prog w = .ok (.func fn first cap) w := fun _ _ _ _ => rfl
 go_enter Tryz.func56, Tryz.ntmps56
 go_wp2
 go_ret
 have e : (w.alloc (.cells #[.int .i64 r, .int .i64 c, .slice a n k] 24)).heap.size = w.heap.size + 1 := by simp
 refine ⟨w.heap.size, w.heap.size + 1, rfl, (Vr.new w _ _ _).later (qa1 _ _), ?_, by omega, by omega, qa0 (qa1 _ _) (qa1 _ _)⟩
 rw [← e]
 exact Cl.new _ _ _
theorem left_in (m l r s bm bs : Nat) (W0 : World) (T : Nat → World → Prop) (hm : 1 ≤ m) (hr : r ≤ 64) (hs : s < 18446744073709551616)
  (hC : ∀ j W, T j W → W.cell? ⟨bm, 0, none⟩ = some (.int .i64 (r : Int)) ∧ W.cell? ⟨bs, 0, none⟩ = some (.int .u64 (s : Int)))
  (hN : ∀ j W, j < r → bt s j = 1 → T j W → T (j + 1) W)
  (hY : ∀ j W, j < r → ¬ bt s j = 1 → T j W → YieldAt Fence.wide (m - 1) Tryz.prog l #[.int .i64 (j : Nat)] W (fun e W' => e = .returned (.bool true) ∧ T (j + 1) W'))
  (h0 : T 0 W0) :
  CallsIn Fence.wide m Tryz.prog 78 #[.func (.yield l) #[] #[], .pointer (some ⟨bm, 0, none⟩), .pointer (some ⟨bs, 0, none⟩)] W0 fun e W' => (∃ v, e = .returned v) ∧ T r W' := by
 have HC := qal hC
 have HN := qal hN
 have HYd := qal hY
 have H0 : Hid (T 0 W0) := h0
 have HH : Hid (∀ (j : Nat) (b : Bool) (w : World), (b = true ↔ bt s j = 1) → Calls Tryz.prog 79 #[.int .u64 (s : Int), .int .i64 (j : Int)] w fun e w' => e = .returned (.bool b) ∧ w = w') := fun j b w hb => by
  have h := jhas_ok s j w hs
  rw [show decide (bt s j = 1) = b by cases b <;> simp_all] at h
  exact h
 have c1 := (hC 0 W0 h0).1
 clear hC hY h0 hN hs
 refine callsIn_of_wp Tryz.func78 rfl trivial ?_ rfl
 simp only [Tryz.ntmps78, List.size_toArray, List.length_cons, List.length_nil, Nat.reduceAdd, Nat.reduceSub, Array.replicate_succ, Array.replicate_zero, List.push_toArray, List.append_toArray, List.nil_append, List.cons_append]
 gi_wp2
 gi_loopw [4, 7] (fun _ vi wr => ∃ j : Nat, j ≤ r ∧ vi = .int .i64 (j : Int) ∧ T j wr) (fun _ vi _ => r - (intOf vi).toNat)
 case atStart => exact ⟨0, by omega, rfl, H0.out⟩
 case round =>
  clear H0 c1
  obtain ⟨j, hj, rfl, hT⟩ := hrel
  have HT : Hid (T j wr) := hT
  by_cases hlt : j < r
  ·have hc2 := (HC.out j wr hT).2
   have p1 : (j : Int) < (r : Int) := by omega
   by_cases hbt : bt s j = 1
   ·have HT3 : Hid (T (j + 1) wr) := HN.out j wr hlt hbt hT
    have HB : Hid (∀ w : World, Calls Tryz.prog 79 #[.int .u64 (s : Int), .int .i64 (j : Int)] w fun e w' => e = .returned (.bool true) ∧ w = w') := fun w => HH.out j true w (by simp [hbt])
    clear hT hbt
    gi_wp2_with (refine ⟨trivial, ?_⟩; gi_at_call 79; refine (callsIn_wide.2 (HB.out _)).mono ?_; rintro e w1 ⟨rfl, rfl⟩)
    refine ⟨fun _ h => (by cases h), ?_⟩
    gi_wp2
    exact ⟨⟨j + 1, by omega, by go_num, HT3.out⟩, by simp [intOf]; omega⟩
   ·have HB : Hid (∀ w : World, Calls Tryz.prog 79 #[.int .u64 (s : Int), .int .i64 (j : Int)] w fun e w' => e = .returned (.bool false) ∧ w = w') := fun w => HH.out j false w (by simp [hbt])
    obtain ⟨fn, tmps, assign, body, hy, hR⟩ := HYd.out j wr hlt hbt hT
    have HRd := qal hR
    clear hR hT hbt
    gi_wp2_with (refine ⟨trivial, ?_⟩; gi_at_call 79; refine (callsIn_wide.2 (HB.out _)).mono ?_; rintro e w1 ⟨rfl, rfl⟩)
    refine HRd.out.mono ?_
    rintro e W3 ⟨rfl, ht3⟩
    have HT3 : Hid (T (j + 1) W3) := ht3
    clear ht3 hy HRd
    gi_wp2
    exact ⟨⟨j + 1, by omega, by go_num, HT3.out⟩, by simp [intOf]; omega⟩
  ·obtain rfl : j = r := by omega
   clear hT
   gi_wp2
   go_end0
   exact ⟨⟨_, rfl⟩, HT.out⟩
/-- A round's body goes on. -/
def rndL (Kp : Nat → World → Prop) (j B : Nat) (W : World) : Exit → Act → World → Prop
 | .normal, _, W' => Kp (j + 1) W' ∧ W'.heap[B]? = W.heap[B]? ∧ W'.heap[B + 1]? = W.heap[B + 1]?
 | _, _, _ => False
theorem qiz {gop : Operand} {p : Tmp} {assign body : Code} {Q : Exit → Act → World → Prop} {a : Act} {w : World} {nn r s bm bs : Nat} (Kp : Nat → World → Prop)
  (hnn : 2 ≤ nn) (hr : r ≤ 64) (hs : s < 18446744073709551616)
  (hg : a.eval gop = .func (.func 78) #[] #[.pointer (some ⟨bm, 0, none⟩), .pointer (some ⟨bs, 0, none⟩)])
  (hKp : ∀ j W W', Kp j W → W.grownBy W' (some (w.heap.size + 1)) → Kp j W')
  (hKc : ∀ j W, Kp j W → W.cell? ⟨bm, 0, none⟩ = some (.int .i64 (r : Int)) ∧ W.cell? ⟨bs, 0, none⟩ = some (.int .u64 (s : Int)))
  (hKn : ∀ j W, j < r → bt s j = 1 → Kp j W → Kp (j + 1) W)
  (h0 : ∀ W1, Below w.heap.size w W1 → w.heap.size + 2 ≤ W1.heap.size → Kp 0 W1) (a₁ : Nat → Act)
  (hassign : ∀ (l s : Nat) (W : World) (K : Act → World → Prop), K (a₁ s) W → assign.wpIn (Fence.wide.inRound l) (nn - 1 - 1) Tryz.prog (Exit.then K (fun _ _ _ => False)) { tmps := a.tmps.setIfInBounds p (.int .i64 (s : Int)), defers := [] } W)
  (hbody : ∀ (l j : Nat) (W : World), j < r → ¬ bt s j = 1 → Kp j W → body.wpIn (Fence.wide.inRound l) (nn - 1 - 1) Tryz.prog (rndL Kp j w.heap.size W) (a₁ j) W)
  (hdone : ∀ (D : Nat) (W : World), w.heap.size = D → Kp r W → W.heap[D]? = some (.deferred (some [])) → Q .normal { a with defers := { target := .collected D, args := #[] } :: a.defers } W) :
  (Code.rangeFunc gop #[p] assign body).wpIn Fence.wide nn Tryz.prog Q a w := by
 refine wpIn_rangeFunc ?_
 intro fn hfn
 obtain ⟨rc, hrc⟩ : ∃ rc : LoopState → Option Code → Loop, rc = fun st pe => { state := st, pending := pe, fn, tmps := a.tmps, params := #[p], assign, body, defers := w.heap.size } := ⟨_, rfl⟩
 obtain ⟨W1, hW1⟩ : ∃ W1, (w.alloc (.deferred (some []))).alloc (.loop (rc .ready none)) = W1 := ⟨_, rfl⟩
 have hs1 : W1.heap.size = w.heap.size + 2 := by rw [← hW1]; simp
 have hL1 : W1.heap[w.heap.size + 1]? = some (.loop (rc .ready none)) := by rw [← hW1]; exact heap_alloc2_new _ _ _
 have hD1 : W1.heap[w.heap.size]? = some (.deferred (some [])) := by rw [← hW1]; exact heap_alloc2_old _ _ _
 have hb1 : Below w.heap.size w W1 := by rw [← hW1]; exact jtwo (jlow _ _) (jlow _ _)
 have hK1 : Kp 0 W1 := h0 W1 hb1 (by omega)
 have put : ∀ (W : World) (o : Obj), W.grownBy (W.putObj (w.heap.size + 1) o) (some (w.heap.size + 1)) := fun W o => grownBy_putObj' W (w.heap.size + 1) o
 refine ⟨w.heap.size + 1, [{ target := .collected w.heap.size, args := #[] }], W1, { target := .fn (.func 78) #[.pointer (some ⟨bm, 0, none⟩), .pointer (some ⟨bs, 0, none⟩)], args := #[.func (.yield (w.heap.size + 1)) #[] #[]] }, W1, 78,
  #[.func (.yield (w.heap.size + 1)) #[] #[]] ++ #[.pointer (some ⟨bm, 0, none⟩), .pointer (some ⟨bs, 0, none⟩)], W1, ?_, ?_, ?_, ?_, fun h => (by cases h), ?_⟩
 ·rw [← hW1, hrc]; exact run_enterLoop_outer _ _ _ _ _
 ·simp only [resolve, hg]
  simp [go_sem]
 ·intro f' _; trivial
 ·simp [invoke, go_sem]
 ·refine (left_in (nn - 1) (w.heap.size + 1) r s bm bs W1
   (fun j W => Kp j W ∧ W.heap[w.heap.size + 1]? = some (.loop (rc .ready none)) ∧ W.heap[w.heap.size]? = some (.deferred (some [])))
   (by omega) hr hs (fun j W h => hKc j W h.1) (fun j W hj hb h => ⟨hKn j W hj hb h.1, h.2⟩) ?_ ⟨hK1, hL1, hD1⟩).mono ?_
  ·rintro j W hj hbt ⟨h1, h2, h3⟩
   have l2 := lt_of_block h2
   have hy := run_yield (P := Tryz.prog) (args := #[.int .i64 (j : Nat)]) h2 (by rw [hrc]; rfl)
   rw [hrc] at hy
   refine ⟨fn, _, assign, body, hy, roundIn_of_wpIn hfn ?_⟩
   have htm : ((#[p] : Array Tmp).zip #[Value.int .i64 (j : Nat)]).foldl (fun tmps (t, a) => tmps.setIfInBounds t a) a.tmps = a.tmps.setIfInBounds p (.int .i64 (j : Nat)) := by simp
   rw [htm]
   refine hassign _ j W _ ?_
   refine ⟨_, run_beginRound h2 (by rw [hrc]), ?_⟩
   obtain ⟨W2, hW2⟩ : ∃ W2, W.putObj (w.heap.size + 1) (.loop { rc .ready none with state := .busy }) = W2 := ⟨_, rfl⟩
   have hg2 : W.grownBy W2 (some (w.heap.size + 1)) := by rw [← hW2]; exact put _ _
   have k2 : Kp j W2 := hKp j W W2 h1 hg2
   have h22 : W2.heap[w.heap.size + 1]? = some (.loop { rc .ready none with state := .busy }) := by rw [← hW2]; exact World.putObj_heap_same l2
   have h32 : W2.heap[w.heap.size]? = some (.deferred (some [])) := by rw [hg2.block _ (lt_of_block h3) (fun e => by simp at e)]; exact h3
   rw [hW2]
   refine wpIn_mono (hbody _ j W2 hj hbt k2) ?_
   rintro e a3 W3 hp
   cases e with
   | normal =>
    obtain ⟨hk3, hb3, hb4⟩ := hp
    have hl3 : W3.heap[w.heap.size + 1]? = some (.loop { rc .ready none with state := .busy }) := by rw [hb4]; exact h22
    have hd3 : W3.heap[w.heap.size]? = some (.deferred (some [])) := by rw [hb3]; exact h32
    have hend := run_endRound (P := Tryz.prog) none hl3
    refine ⟨_, _, hend, rfl, hKp (j + 1) W3 _ hk3 (put _ _), ?_, ?_⟩
    ·rw [World.putObj_heap_same (lt_of_block hl3), hrc]; rfl
    ·exact (World.putObj_heap_other (by omega)).trans hd3
   | exit id => exact hp.elim
   | ret => exact hp.elim
   | goto t => exact hp.elim
   | panic ch => exact hp.elim
   | outgrown => exact hp.elim
  ·rintro e W2 ⟨⟨v, rfl⟩, ⟨h1, h2, h3⟩⟩
   refine ⟨none, _, by have := run_endLoop (P := Tryz.prog) h2 (by rw [hrc]; simp); rw [hrc] at this; exact this, ?_⟩
   exact hdone _ _ rfl (hKp r W2 _ h1 (put _ _)) ((World.putObj_heap_other (by omega)).trans h3)
open Go.RowKit Go.Shelf
attribute [local go_sem] Oper.semAt_some
/-- What holds while the left rows are gathered: those below j. -/
structure LfI (w W : World) (r c : Int) (n k s t bm bs : Nat) (a : Option Addr) (j : Nat) : Prop where
 vg : Vr W w.heap.size (.int .i64 r) (.int .i64 c) (.slice a n k)
 cs : Cl W (w.heap.size + 1) (.int .u64 ((t % 2 ^ j : Nat) : Int)) 26
 vm : Vr W bm (.int .i64 r) (.int .i64 c) (.slice a n k)
 vs : Cl W bs (.int .u64 (s : Int)) 26
 below : Below w.heap.size w W
theorem LfI.later {w W W' : World} {r c : Int} {n k s t bm bs j : Nat} {a : Option Addr} (I : LfI w W r c n k s t bm bs a j) (hb : Below W.heap.size W W') : LfI w W' r c n k s t bm bs a j :=
 ⟨I.vg.later hb, I.cs.later hb, I.vm.later hb, I.vs.later hb, qa0 I.below hb⟩
theorem qd4 (w : World) (r c n k s t p : Nat) (a : Option Addr) (F : Nat → Nat) (ha : Mt w a n k F) (R : Rt r c n) (hs : s < 2 ^ r) (ht : t < 2 ^ r) (htb : ∀ i, i < r → (bt t i = 1 ↔ ¬ bt s i = 1)) (hp : BaS (m2 F r c) r t p) :
  Calls Tryz.prog 32 #[mv r c a n k, .int .u64 (s : Int)] w fun e w' => e = .returned (.int .u64 (p : Int)) ∧ Below w.heap.size w w' := by
 have hr := R.r64
 have hs6 := qb5 hr hs
 have HB : Hid (∀ w' : World, Below w.heap.size w w' → Calls Tryz.prog 57 #[mv r c a n k, .int .u64 (t : Int)] w' fun e w'' => e = .returned (.tuple #[.int .u64 (p : Int), .int .i64 0]) ∧ Below w'.heap.size w' w'') := base_num ha R ht hp
 have HT := qal htb
 have HL : Hid (t < 2 ^ r) := ht
 clear ha R hs ht htb hp
 obtain ⟨wb, HW⟩ : ∃ wb, Hid ((w.alloc (.cells #[.int .i64 (r : Int), .int .i64 (c : Int), .slice a n k] 24)).alloc (.cells #[.int .u64 0] 26) = wb) := ⟨_, rfl⟩
 have hsb : wb.heap.size = w.heap.size + 2 := by rw [← HW.out]; simp
 have HBb : Hid (Below w.heap.size w wb) := by rw [← HW.out]; exact qa0 (qa1 _ _) (qa1 _ _)
 have HVb : Hid (Vr wb w.heap.size (.int .i64 (r : Int)) (.int .i64 (c : Int)) (.slice a n k)) := by rw [← HW.out]; exact (Vr.new w _ _ _).later (qa1 _ _)
 have HCb : Hid (Cl wb (w.heap.size + 1) (.int .u64 0) 26) := by
  have e : (w.alloc (.cells #[.int .i64 (r : Int), .int .i64 (c : Int), .slice a n k] 24)).heap.size = w.heap.size + 1 := by simp
  rw [← HW.out, ← e]
  exact Cl.new _ _ _
 refine (callsIn_wide (n := 4)).1 (callsIn_of_wp_marks Tryz.func32 rfl trivial ?_ rfl)
 simp only [Tryz.ntmps32, List.size_toArray, List.length_cons, List.length_nil, Nat.reduceAdd, Nat.reduceSub, Array.replicate_succ, Array.replicate_zero, List.push_toArray, List.append_toArray, List.nil_append, List.cons_append]
 refine wpIn_wide.2 ?_
 go_wp2_with (go_at_call 56; rw [HW.out]; refine (vleft18 _ _ _ _ _ _ _).mono ?_; rintro e w1 ⟨bm, bs, rfl, hvm, hvs, hgm, hgs, hb⟩; have HB1 : Hid (Below wb.heap.size wb w1) := hb; have HI0 : Hid (LfI w w1 (r : Int) (c : Int) n k s t bm bs a 0) := ⟨HVb.out.later hb, (by rw [Nat.pow_zero, Nat.mod_one]; exact HCb.out.later hb), hvm, hvs, qa0 HBb.out hb⟩; clear hb hvm hvs)
 have hlm : bm < w1.heap.size := HI0.out.vm.lt
 have hls : bs < w1.heap.size := HI0.out.vs.lt
 have hl1 : w.heap.size + 2 ≤ w1.heap.size := by have := HB1.out.size; omega
 refine (wpIn_wide (n := 4)).1 ?_
 refine qiz (nn := 4) (r := r) (s := s) (bm := bm) (bs := bs) (fun j W => LfI w W (r : Int) (c : Int) n k s t bm bs a j ∧ w1.heap.size + 2 ≤ W.heap.size) (by omega) hr hs6 rfl ?hKp ?hKc ?hKn ?h0
  (fun j => { tmps := #[mv r c a n k, .int .u64 (s : Int), .pointer (some ⟨w.heap.size, 0, none⟩), undef, .int .u64 0, .pointer (some ⟨w.heap.size + 1, 0, none⟩), .int .i64 (j : Int), undef, undef, mv r c a n k, .int .u64 (s : Int), .func (.func 78) #[] #[.pointer (some ⟨bm, 0, none⟩), .pointer (some ⟨bs, 0, none⟩)], .int .i64 (j : Int), undef, undef, undef, undef, undef, undef, undef, undef, undef, undef, undef], defers := [] }) ?hassign ?hbody ?hdone
 case hKp =>
  rintro j W W' ⟨I, hsz⟩ hg
  exact ⟨⟨I.vg.kept hg (by omega), I.cs.kept hg (fun e => by have h := Option.some.inj e; omega), I.vm.kept hg (by omega), I.vs.kept hg (fun e => by have h := Option.some.inj e; omega), I.below.grown hg I.below.size (fun g e => by have h := Option.some.inj e; omega)⟩, Nat.le_trans hsz hg.size⟩
 case hKc => exact fun j W h => ⟨h.1.vm.c0, h.1.vs.cell⟩
 case hKn =>
  rintro j W hj hbt ⟨I, hsz⟩
  refine ⟨⟨I.vg, ?_, I.vm, I.vs, I.below⟩, hsz⟩
  rw [qed (fun h => (HT.out j hj).1 h hbt)]
  exact I.cs
 case h0 =>
  intro W1 hb hsz
  exact ⟨HI0.out.later hb, hsz⟩
 case hassign =>
  intro l j W K hK
  gi_wp2
  exact hK
 case hbody =>
  rintro l j W hj hbt ⟨I, hsz⟩
  have HI := qal I
  have hbj : bt t j = 1 := (HT.out j hj).2 hbt
  obtain ⟨x, HX⟩ : ∃ x, Hid (t % 2 ^ j = x) := ⟨_, rfl⟩
  obtain ⟨z, HZ⟩ : ∃ z : Nat, Hid ((2 ^ j : Nat) = z) := ⟨_, rfl⟩
  obtain ⟨u, HU⟩ : ∃ u, Hid (x ||| z = u) := ⟨_, rfl⟩
  have hxr : x < 2 ^ r := by rw [← HX.out]; exact Nat.lt_of_le_of_lt (Nat.mod_le _ _) HL.out
  have hp2 : IntKind.u64.wrap (2 ^ j) = (z : Int) := by rw [← HZ.out]; exact qis j (by omega)
  have hor : bits .or .u64 (x : Int) (z : Int) = (u : Int) := j_or7 hr hxr hj HZ.out HU.out
  have HE : Hid (t % 2 ^ (j + 1) = u) := by
   show _ = _
   rw [qg8 hbj, HX.out, HZ.out, HU.out]
  have HC : Hid (Cl W (w.heap.size + 1) (.int .u64 (x : Int)) 26) := by rw [← HX.out]; exact I.cs
  have c0 := HC.out.cell
  have f0 := HC.out.free
  have hj64 : j < 64 := by omega
  clear hbj hbt I hxr HX HZ HU
  have HF : Hid ((LfI w (W.setCell ⟨w.heap.size + 1, 0, none⟩ (.int .u64 (u : Int))).drew (r : Int) (c : Int) n k s t bm bs a (j + 1) ∧ w1.heap.size + 2 ≤ (W.setCell ⟨w.heap.size + 1, 0, none⟩ (.int .u64 (u : Int))).drew.heap.size) ∧ (W.setCell ⟨w.heap.size + 1, 0, none⟩ (.int .u64 (u : Int))).drew.heap[w1.heap.size]? = W.heap[w1.heap.size]? ∧ (W.setCell ⟨w.heap.size + 1, 0, none⟩ (.int .u64 (u : Int))).drew.heap[w1.heap.size + 1]? = W.heap[w1.heap.size + 1]?) := by
   have g0 := qa3 W (w.heap.size + 1) 0 (.int .u64 (u : Int))
   have gs : W.grownBy (W.setCell ⟨w.heap.size + 1, 0, none⟩ (.int .u64 (u : Int))).drew (some (w.heap.size + 1)) := ⟨g0.os, g0.tape, g0.output, g0.size, g0.block⟩
   have I := HI.out
   refine ⟨⟨⟨I.vg.kept gs (by omega), ?_, I.vm.kept gs ?_, I.vs.kept gs ?_, I.below.grown gs I.below.size (fun g e => by have h := Option.some.inj e; omega)⟩, Nat.le_trans hsz gs.size⟩, ?_, ?_⟩
   ·rw [HE.out]; exact HC.out.set _
   ·omega
   ·exact fun e => by have h := Option.some.inj e; omega
   ·exact gs.block _ (by omega) (fun e => by have h := Option.some.inj e; omega)
   ·exact gs.block _ (by omega) (fun e => by have h := Option.some.inj e; omega)
  have hmix : Tryz.prog.follows .mixedOrders = true := by kernel_rfl
  gi_wp2
  gi_region_o
  all_goals exact HF.out
 case hdone =>
  rintro D W hD ⟨I, hsz⟩ hdf
  have HDf := qal hdf
  have HI := qal I
  have HC : Hid (Cl W (w.heap.size + 1) (.int .u64 (t : Int)) 26) := by
   have h := I.cs
   rw [Nat.mod_eq_of_lt HL.out] at h
   exact h
  have c0 := HC.out.cell
  have v0 := I.vg.c0
  have v1 := I.vg.c1
  have v2 := I.vg.c2
  clear hdf I
  go_wp2_with (go_at_call 57; refine (HB.out _ HI.out.below).mono ?_; rintro e w5 ⟨rfl, hb⟩; have HD5 : Hid (w5.heap[D]? = some (.deferred (some []))) := (by rw [hb.block D (lt_of_block HDf.out)]; exact HDf.out); have HB5 : Hid (Below w.heap.size w w5) := qa0 HI.out.below hb; clear hb)
  refine ⟨by simp, .inl ⟨_, _, rfl, run_takeDeferred HD5.out, ?_⟩⟩
  refine ⟨.int .u64 (p : Int), by simp [results, Tryz.results32, go_sem], ?_⟩
  exact ⟨rfl, HB5.out.grown (grownBy_putObj' w5 D (.deferred none)) HB5.out.size (fun g e => by cases e; omega)⟩
open Go.RowKit Go.Shelf
attribute [local go_sem] Oper.semAt_some
theorem vsrc1_ok (w : World) (p : Nat) :
  Calls Tryz.prog 75 #[.int .u64 (p : Int)] w fun e w' => e = .returned (.int .u64 (p : Int)) ∧ w = w' := by
 go_enter Tryz.func75, Tryz.ntmps75
 go_wp2
 go_ret
 exact ⟨rfl, rfl⟩
theorem ql9 (w : World) (r c : Int) (n k s : Nat) (a : Option Addr) (h : ¬ GenP r c n) :
  Calls Tryz.prog 74 #[mv r c a n k, .int .u64 (s : Int), .func (.func 75) #[] #[]] w fun e w' => e = .returned (.tuple #[.int .u64 0, .bool false, .int .i64 3]) ∧ Below w.heap.size w w' := by
 have HP : Hid (∀ w' : World, Calls Tryz.prog 30 #[mv r c a n k] w' fun e w'' => e = .returned (.bool false) ∧ Below w'.heap.size w' w'') := fun w' => qc9 w' r c n k a false (by simp [h])
 clear h
 go_enter Tryz.func74, Tryz.ntmps74
 go_wp2_with (go_at_call 30; refine (HP.out _).mono ?_; rintro e w1 ⟨rfl, hb⟩; have HB1 : Hid (Below w.heap.size w w1) := qa0 (qa1 _ _) hb; clear hb)
 go_ret3
 exact ⟨rfl, HB1.out⟩
theorem vif_arg (w : World) (r c n k s : Nat) (a : Option Addr) (G : GenP r c n) (hr : r ≤ 64) (hs6 : s < 18446744073709551616) (h : ¬ s < 2 ^ r) :
  Calls Tryz.prog 74 #[mv r c a n k, .int .u64 (s : Int), .func (.func 75) #[] #[]] w fun e w' => e = .returned (.tuple #[.int .u64 0, .bool false, .int .i64 2]) ∧ Below w.heap.size w w' := by
 have HP : Hid (∀ w' : World, Calls Tryz.prog 30 #[mv r c a n k] w' fun e w'' => e = .returned (.bool true) ∧ Below w'.heap.size w' w'') := fun w' => qc9 w' r c n k a true (by simp [G])
 have HR : Hid (∀ w' : World, Calls Tryz.prog 31 #[mv r c a n k, .int .u64 (s : Int)] w' fun e w'' => e = .returned (.bool false) ∧ Below w'.heap.size w' w'') := fun w' => by
  have h2 := qca w' r s n k c a hr hs6
  rw [decide_eq_false h] at h2
  exact h2
 clear h G hr hs6
 go_enter Tryz.func74, Tryz.ntmps74
 go_wp2_with (first
  | (go_at_call 30; refine (HP.out _).mono ?_; rintro e w1 ⟨rfl, hb⟩; have HV1 : Hid (Vr w1 w.heap.size (.int .i64 (r : Int)) (.int .i64 (c : Int)) (.slice a n k)) := (Vr.new w _ _ _).later hb; have v0 := HV1.out.c0; have v1 := HV1.out.c1; have v2 := HV1.out.c2; have HB1 : Hid (Below w.heap.size w w1) := qa0 (qa1 _ _) hb; clear hb)
  | (go_at_call 31; refine (HR.out _).mono ?_; rintro e w2 ⟨rfl, hb⟩; have HB2 : Hid (Below w.heap.size w w2) := qa0 HB1.out hb; clear hb))
 go_ret3
 exact ⟨rfl, HB2.out⟩
theorem vif_ok (w : World) (r c n k s t p : Nat) (a : Option Addr) (F : Nat → Nat) (b : Bool) (q : Nat) (ha : Mt w a n k F) (R : Rt r c n) (G : GenP r c n) (hs : s < 2 ^ r) (ht : t < 2 ^ r) (htb : ∀ i, i < r → (bt t i = 1 ↔ ¬ bt s i = 1)) (hp : BaS (m2 F r c) r t p) (hb : b = true ↔ ¬ cn p r < c) (hq : q = if b then p else 0) :
  Calls Tryz.prog 74 #[mv r c a n k, .int .u64 (s : Int), .func (.func 75) #[] #[]] w fun e w' => e = .returned (.tuple #[.int .u64 (q : Int), .bool b, .int .i64 0]) ∧ Below w.heap.size w w' := by
 have hr := R.r64
 have HP : Hid (∀ w' : World, Calls Tryz.prog 30 #[mv r c a n k] w' fun e w'' => e = .returned (.bool true) ∧ Below w'.heap.size w' w'') := fun w' => qc9 w' r c n k a true (by simp [G])
 have HR : Hid (∀ w' : World, Calls Tryz.prog 31 #[mv r c a n k, .int .u64 (s : Int)] w' fun e w'' => e = .returned (.bool true) ∧ Below w'.heap.size w' w'') := fun w' => by
  have h2 := qca w' r s n k c a hr (qb5 hr hs)
  rw [decide_eq_true hs] at h2
  exact h2
 have HF : Hid (∀ w' : World, Below w.heap.size w w' → Calls Tryz.prog 32 #[mv r c a n k, .int .u64 (s : Int)] w' fun e w'' => e = .returned (.int .u64 (p : Int)) ∧ Below w'.heap.size w' w'') := fun w' hbl => qd4 w' r c n k s t p a F (ha.later hbl) R hs ht htb hp
 obtain ⟨K, HK⟩ : ∃ K, Hid (cn p r = K) := ⟨_, rfl⟩
 have HC : Hid (∀ w' : World, Calls Tryz.prog 33 #[.int .u64 (p : Int)] w' fun e w'' => e = .returned (.int .i64 (K : Int)) ∧ w' = w'') := fun w' => by
  have h := qbk p w' (qb5 hr hp.1)
  rw [qc0 hr hp.1, HK.out] at h
  exact h
 rw [HK.out] at hb
 clear ha R G hs ht htb hp hr HK
 cases b with
 | false =>
  have hlt : (K : Int) < (c : Int) := by
   apply Classical.byContradiction
   intro h
   have := hb.2 (by omega)
   cases this
  subst hq
  clear hb
  go_enter Tryz.func74, Tryz.ntmps74
  go_wp2_with (first
   | (go_at_call 30; refine (HP.out _).mono ?_; rintro e w1 ⟨rfl, hb⟩; have HV1 : Hid (Vr w1 w.heap.size (.int .i64 (r : Int)) (.int .i64 (c : Int)) (.slice a n k)) := (Vr.new w _ _ _).later hb; have v0 := HV1.out.c0; have v1 := HV1.out.c1; have v2 := HV1.out.c2; have HB1 : Hid (Below w.heap.size w w1) := qa0 (qa1 _ _) hb; clear hb)
   | (go_at_call 31; refine (HR.out _).mono ?_; rintro e w2 ⟨rfl, hb⟩; have HV2 : Hid (Vr w2 w.heap.size (.int .i64 (r : Int)) (.int .i64 (c : Int)) (.slice a n k)) := HV1.out.later hb; have v0' := HV2.out.c0; have v1' := HV2.out.c1; have v2' := HV2.out.c2; have HB2 : Hid (Below w.heap.size w w2) := qa0 HB1.out hb; clear hb)
   | (go_at_call 32; refine (HF.out _ HB2.out).mono ?_; rintro e w3 ⟨rfl, hb⟩; have HV3 : Hid (Vr w3 w.heap.size (.int .i64 (r : Int)) (.int .i64 (c : Int)) (.slice a n k)) := HV2.out.later hb; have v1'' := HV3.out.c1; have HB3 : Hid (Below w.heap.size w w3) := qa0 HB2.out hb; clear hb))
  go_region_held3 (fun w' => w'.cell? ⟨w.heap.size, 1, none⟩ = some (.int .i64 (c : Int)))
   (first | go_keep | assumption)
   (first | (go_at_call 33; refine (HC.out _).mono ?_; rintro e w' ⟨rfl, rfl⟩))
  go_wp2
  go_ret3
  exact ⟨rfl, HB3.out.drew⟩
 | true =>
  have hlt : ¬ (K : Int) < (c : Int) := by have := hb.1 rfl; omega
  have hlt2 : decide ((K : Int) < (c : Int)) = false := decide_eq_false hlt
  subst hq
  clear hb
  go_enter Tryz.func74, Tryz.ntmps74
  go_wp2_with (first
   | (go_at_call 30; refine (HP.out _).mono ?_; rintro e w1 ⟨rfl, hb⟩; have HV1 : Hid (Vr w1 w.heap.size (.int .i64 (r : Int)) (.int .i64 (c : Int)) (.slice a n k)) := (Vr.new w _ _ _).later hb; have v0 := HV1.out.c0; have v1 := HV1.out.c1; have v2 := HV1.out.c2; have HB1 : Hid (Below w.heap.size w w1) := qa0 (qa1 _ _) hb; clear hb)
   | (go_at_call 31; refine (HR.out _).mono ?_; rintro e w2 ⟨rfl, hb⟩; have HV2 : Hid (Vr w2 w.heap.size (.int .i64 (r : Int)) (.int .i64 (c : Int)) (.slice a n k)) := HV1.out.later hb; have v0' := HV2.out.c0; have v1' := HV2.out.c1; have v2' := HV2.out.c2; have HB2 : Hid (Below w.heap.size w w2) := qa0 HB1.out hb; clear hb)
   | (go_at_call 32; refine (HF.out _ HB2.out).mono ?_; rintro e w3 ⟨rfl, hb⟩; have HV3 : Hid (Vr w3 w.heap.size (.int .i64 (r : Int)) (.int .i64 (c : Int)) (.slice a n k)) := HV2.out.later hb; have v1'' := HV3.out.c1; have HB3 : Hid (Below w.heap.size w w3) := qa0 HB2.out hb; clear hb))
  go_region_held3 (fun w' => w'.cell? ⟨w.heap.size, 1, none⟩ = some (.int .i64 (c : Int)))
   (first | go_keep | assumption)
   (first | (go_at_call 33; refine (HC.out _).mono ?_; rintro e w' ⟨rfl, rfl⟩))
  go_wp2_with (go_at_call 75; refine (vsrc1_ok _ _).mono ?_; rintro e w' ⟨rfl, rfl⟩)
  go_ret3
  exact ⟨rfl, HB3.out.drew⟩
theorem vsrc_of (w : World) (r c E : Int) (n k s q : Nat) (a : Option Addr) (b : Bool)
  (HL : Hid (∀ w' : World, Below w.heap.size w w' → Calls Tryz.prog 74 #[mv r c a n k, .int .u64 (s : Int), .func (.func 75) #[] #[]] w' fun e w'' => e = .returned (.tuple #[.int .u64 (q : Int), .bool b, .int .i64 E]) ∧ Below w'.heap.size w' w'')) :
  Calls Tryz.prog 54 #[mv r c a n k, .int .u64 (s : Int)] w fun e w' => e = .returned (.tuple #[.int .u64 (q : Int), .bool b, .int .i64 E]) ∧ Below w.heap.size w w' := by
 go_enter Tryz.func54, Tryz.ntmps54
 go_wp2_with (go_at_call 74; refine (HL.out _ (qa1 _ _)).mono ?_; rintro e w1 ⟨rfl, hb⟩; have HB1 : Hid (Below w.heap.size w w1) := qa0 (qa1 _ _) hb; clear hb)
 go_ret3
 exact ⟨rfl, HB1.out⟩
theorem vrec_of (w : World) (r c E : Int) (n k s q : Nat) (a : Option Addr) (b : Bool)
  (HL : Hid (∀ w' : World, Below w.heap.size w w' → Calls Tryz.prog 54 #[mv r c a n k, .int .u64 (s : Int)] w' fun e w'' => e = .returned (.tuple #[.int .u64 (q : Int), .bool b, .int .i64 E]) ∧ Below w'.heap.size w' w'')) :
  Calls Tryz.prog 28 #[mv r c a n k, .int .u64 (s : Int)] w fun e w' => e = .returned (.tuple #[.bool b, .int .i64 E]) ∧ Below w.heap.size w w' := by
 go_enter Tryz.func28, Tryz.ntmps28
 go_wp2_with (go_at_call 54; refine (HL.out _ (qa1 _ _)).mono ?_; rintro e w1 ⟨rfl, hb⟩; have HB1 : Hid (Below w.heap.size w w1) := qa0 (qa1 _ _) hb; clear hb)
 go_ret2
 exact ⟨rfl, HB1.out⟩
open Go.RowKit Go.Shelf
theorem qi3 (w : World) (r c E : Int) (n k s : Nat) (a : Option Addr) (hE : E ≠ 0)
  (HL : Hid (∀ w' : World, Calls Tryz.prog 37 #[mv r c a n k, .int .u64 (s : Int)] w' fun e w'' => e = .returned (.tuple #[.int .u64 0, .int .i64 E]) ∧ Below w'.heap.size w' w'')) :
  Calls Tryz.prog 36 #[mv r c a n k, .int .u64 (s : Int)] w fun e w' => e = .returned (.tuple #[.bool false, .int .i64 E]) ∧ Below w.heap.size w w' := by
 have hE2 : (E == 0) = false := by simpa using hE
 go_enter Tryz.func36, Tryz.ntmps36
 go_wp2_with (go_at_call 37; refine (HL.out _).mono ?_; rintro e w1 ⟨rfl, hb⟩; have HB1 : Hid (Below w.heap.size w w1) := qa0 (qa1 _ _) hb; clear hb)
 go_ret2
 exact ⟨rfl, HB1.out⟩
theorem qla (w : World) (r c n k s t : Nat) (a : Option Addr) (F : Nat → Nat) (b : Bool) (ha : Sl w a n F) (R : Rt r c n) (ht : t < 2 ^ r) (hbb : b = true ↔ RS (m2 F r c) r t c)
  (HL : Hid (∀ w' : World, Calls Tryz.prog 37 #[mv r c a n k, .int .u64 (s : Int)] w' fun e w'' => e = .returned (.tuple #[.int .u64 (t : Int), .int .i64 0]) ∧ Below w'.heap.size w' w'')) :
  Calls Tryz.prog 36 #[mv r c a n k, .int .u64 (s : Int)] w fun e w' => e = .returned (.tuple #[.bool b, .int .i64 0]) ∧ Below w.heap.size w w' := by
 have HC : Hid (∀ w' : World, Below w.heap.size w w' → Calls Tryz.prog 64 #[mv r c a n k, .int .u64 (t : Int)] w' fun e w'' => e = .returned (.tuple #[.bool b, .int .i64 0]) ∧ Below w'.heap.size w' w'') := fun w' hb => (rCov_ok w' r c n k t a F (ha.later hb) R ht).mono (fun e w'' h => by
  obtain ⟨b', he, hb', hl⟩ := h
  rw [ql4 hb' hbb] at he
  exact ⟨he, hl⟩)
 clear ha R ht hbb
 go_enter Tryz.func36, Tryz.ntmps36
 go_wp2_with (first
  | (go_at_call 37; refine (HL.out _).mono ?_; rintro e w1 ⟨rfl, hb⟩; have HV1 := (Vr.new w (.int .i64 (r : Int)) (.int .i64 (c : Int)) (.slice a n k)).later hb; have v0 := HV1.c0; have v1 := HV1.c1; have v2 := HV1.c2; have HB1 : Hid (Below w.heap.size w w1) := qa0 (qa1 _ _) hb; clear hb HV1)
  | (go_at_call 64; refine (HC.out _ HB1.out).mono ?_; rintro e w2 ⟨rfl, hb⟩; have HB2 : Hid (Below w.heap.size w w2) := qa0 HB1.out hb; clear hb))
 go_ret2
 exact ⟨rfl, HB2.out⟩
theorem qgw (w : World) (r c E : Int) (n k s : Nat) (a : Option Addr)
  (HL : Hid (∀ w' : World, Below w.heap.size w w' → Calls Tryz.prog 36 #[mv r c a n k, .int .u64 (s : Int)] w' fun e w'' => e = .returned (.tuple #[.bool false, .int .i64 E]) ∧ Below w'.heap.size w' w'')) :
  Calls Tryz.prog 16 #[mv r c a n k, .int .u64 (s : Int)] w fun e w' => e = .returned (.tuple #[.int .u64 0, .bool false, .int .i64 E]) ∧ Below w.heap.size w w' := by
 go_enter Tryz.func16, Tryz.ntmps16
 go_wp2_with (go_at_call 36; refine (HL.out _ (qa1 _ _)).mono ?_; rintro e w1 ⟨rfl, hb⟩; have HB1 : Hid (Below w.heap.size w w1) := qa0 (qa1 _ _) hb; clear hb)
 go_ret3
 exact ⟨rfl, HB1.out⟩
theorem rsrc_yes (w : World) (r c n k s t p : Nat) (a : Option Addr) (F : Nat → Nat) (ha : Sl w a n F) (R : Rt r c n) (ht : t < 2 ^ r) (hp : BaS (m2 F r c) r t p) (hc : RS (m2 F r c) r t c)
  (HL : Hid (∀ w' : World, Calls Tryz.prog 37 #[mv r c a n k, .int .u64 (s : Int)] w' fun e w'' => e = .returned (.tuple #[.int .u64 (t : Int), .int .i64 0]) ∧ Below w'.heap.size w' w'')) :
  Calls Tryz.prog 16 #[mv r c a n k, .int .u64 (s : Int)] w fun e w' => e = .returned (.tuple #[.int .u64 (p : Int), .bool true, .int .i64 0]) ∧ Below w.heap.size w w' := by
 have HR : Hid (∀ w' : World, Below w.heap.size w w' → Calls Tryz.prog 36 #[mv r c a n k, .int .u64 (s : Int)] w' fun e w'' => e = .returned (.tuple #[.bool true, .int .i64 0]) ∧ Below w'.heap.size w' w'') := fun w' hb => qla w' r c n k s t a F true (ha.later hb) R ht ⟨fun _ => hc, fun _ => rfl⟩ HL
 have HK : Hid (∀ w' : World, Below w.heap.size w w' → Calls Tryz.prog 38 #[mv r c a n k, .int .u64 (t : Int)] w' fun e w'' => e = .returned (.tuple #[.int .u64 (p : Int), .int .i64 0]) ∧ Below w'.heap.size w' w'') := fun w' hb => (rBase_ok w' r c n k t a F (ha.later hb) R ht).mono (fun e w'' h => by
  obtain ⟨p', he, hp', hl⟩ := h
  rw [hp'.one hp] at he
  exact ⟨he, hl⟩)
 clear ha R ht hp hc
 go_enter Tryz.func16, Tryz.ntmps16
 go_wp2_with (first
  | (go_at_call 36; refine (HR.out _ (qa1 _ _)).mono ?_; rintro e w1 ⟨rfl, hb⟩; have HV1 : Hid (Vr w1 w.heap.size (.int .i64 (r : Int)) (.int .i64 (c : Int)) (.slice a n k)) := (Vr.new w (.int .i64 (r : Int)) (.int .i64 (c : Int)) (.slice a n k)).later hb; have v0 := HV1.out.c0; have v1 := HV1.out.c1; have v2 := HV1.out.c2; have HB1 : Hid (Below w.heap.size w w1) := qa0 (qa1 _ _) hb; clear hb)
  | (go_at_call 37; refine (HL.out _).mono ?_; rintro e w2 ⟨rfl, hb⟩; have HV2 : Hid (Vr w2 w.heap.size (.int .i64 (r : Int)) (.int .i64 (c : Int)) (.slice a n k)) := HV1.out.later hb; have v0' := HV2.out.c0; have v1' := HV2.out.c1; have v2' := HV2.out.c2; have HB2 : Hid (Below w.heap.size w w2) := qa0 HB1.out hb; clear hb)
  | (go_at_call 38; refine (HK.out _ HB2.out).mono ?_; rintro e w3 ⟨rfl, hb⟩; have HB3 : Hid (Below w.heap.size w w3) := qa0 HB2.out hb; clear hb))
 go_ret3
 exact ⟨rfl, HB3.out⟩
open Go.RowKit Go.Shelf
/-- A set's rank is at most the number of columns. -/
theorem rs_cols {F : Nat → Nat} {r c n t k : Nat} (hF : ∀ i, i < n → F i < 256) (R : Rt r c n) (h : RS (m2 F r c) r t k) : k ≤ c :=
 Rk.le h (N := dl) (s := c) (qg7 (fun i _ _ => ⟨m2 F r c i, fun j => qao hF R i j, fun j => by
  unfold lc
  by_cases hj : j < c
  ·rw [qb3 hj (fun i' _ hne => by rw [qcq (Ne.symm hne), qa7]), qbg, qaq _ (qao hF R i j)]
  ·rw [qac F (by omega), qad (fun i' hi' => by rw [qcq (by omega), qa7])]⟩))
/-- What is said of lost blocks: an error, or whether they are recovered, and the sources. -/
def SayA (F : Nat → Nat) (r c : Int) (n s : Nat) (b : Bool) (q : Nat) (E : Int) : Prop :=
 (¬ GenP r c n ∧ b = false ∧ q = 0 ∧ E = 3) ∨ (∃ r' c' : Nat, r = (r' : Int) ∧ c = (c' : Int) ∧ GenP r c n ∧ Rt r' c' n ∧ ¬ s < 2 ^ r' ∧ b = false ∧ q = 0 ∧ E = 2) ∨
 (∃ r' c' t p : Nat, r = (r' : Int) ∧ c = (c' : Int) ∧ GenP r c n ∧ Rt r' c' n ∧ 1 ≤ c' ∧ c' ≤ r' ∧ s < 2 ^ r' ∧ t < 2 ^ r' ∧ bits .andNot .u64 ((2 ^ r' - 1 : Nat) : Int) (s : Int) = (t : Int) ∧ (∀ i, i < r' → (bt t i = 1 ↔ ¬ bt s i = 1)) ∧ BaS (m2 F r' c') r' t p ∧ RS (m2 F r' c') r' t (cn p r') ∧ cn p r' ≤ c' ∧ (b = true ↔ cn p r' = c') ∧ q = (if b then p else 0) ∧ E = 0)
/-- All four calls answer this. -/
structure SayC (w : World) (r c : Int) (n k s : Nat) (a : Option Addr) (b : Bool) (q : Nat) (E : Int) : Prop where
 vs : (∀ w' : World, Below w.heap.size w w' → Calls Tryz.prog 54 #[mv r c a n k, .int .u64 (s : Int)] w' fun e w'' => e = .returned (.tuple #[.int .u64 (q : Int), .bool b, .int .i64 E]) ∧ Below w'.heap.size w' w'')
 rs : (∀ w' : World, Below w.heap.size w w' → Calls Tryz.prog 16 #[mv r c a n k, .int .u64 (s : Int)] w' fun e w'' => e = .returned (.tuple #[.int .u64 (q : Int), .bool b, .int .i64 E]) ∧ Below w'.heap.size w' w'')
 vr : (∀ w' : World, Below w.heap.size w w' → Calls Tryz.prog 28 #[mv r c a n k, .int .u64 (s : Int)] w' fun e w'' => e = .returned (.tuple #[.bool b, .int .i64 E]) ∧ Below w'.heap.size w' w'')
 rr : (∀ w' : World, Below w.heap.size w w' → Calls Tryz.prog 36 #[mv r c a n k, .int .u64 (s : Int)] w' fun e w'' => e = .returned (.tuple #[.bool b, .int .i64 E]) ∧ Below w'.heap.size w' w'')
theorem qlb {w : World} {r c : Int} {n k s : Nat} {a : Option Addr} {b : Bool} {q : Nat} {E : Int}
  (h1 : (∀ w' : World, Below w.heap.size w w' → Calls Tryz.prog 74 #[mv r c a n k, .int .u64 (s : Int), .func (.func 75) #[] #[]] w' fun e w'' => e = .returned (.tuple #[.int .u64 (q : Int), .bool b, .int .i64 E]) ∧ Below w'.heap.size w' w''))
  (h2 : (∀ w' : World, Below w.heap.size w w' → Calls Tryz.prog 36 #[mv r c a n k, .int .u64 (s : Int)] w' fun e w'' => e = .returned (.tuple #[.bool b, .int .i64 E]) ∧ Below w'.heap.size w' w''))
  (h3 : (∀ w' : World, Below w.heap.size w w' → Calls Tryz.prog 16 #[mv r c a n k, .int .u64 (s : Int)] w' fun e w'' => e = .returned (.tuple #[.int .u64 (q : Int), .bool b, .int .i64 E]) ∧ Below w'.heap.size w' w'')) : SayC w r c n k s a b q E :=
 have hS : ∀ w' : World, Below w.heap.size w w' → Calls Tryz.prog 54 #[mv r c a n k, .int .u64 (s : Int)] w' fun e w'' => e = .returned (.tuple #[.int .u64 (q : Int), .bool b, .int .i64 E]) ∧ Below w'.heap.size w' w'' := fun w' hb => vsrc_of w' r c E n k s q a b (fun w'' hb2 => h1 w'' (qa0 hb hb2))
 ⟨hS, h3, fun w' hb => vrec_of w' r c E n k s q a b (fun w'' hb2 => hS w'' (qa0 hb hb2)), h2⟩
theorem say_c {w : World} {r c : Int} {n k s : Nat} {a : Option Addr} {F : Nat → Nat} {b : Bool} {q : Nat} {E : Int} (ha : Mt w a n k F) (hs6 : s < 18446744073709551616) (h : SayA F r c n s b q E) : SayC w r c n k s a b q E := by
 rcases h with ⟨G, rfl, rfl, rfl⟩ | ⟨r', c', rfl, rfl, G, R, hs, rfl, rfl, rfl⟩ | ⟨r', c', t, p, rfl, rfl, G, R, _, _, hs, ht, hta, htb, hp, hk, hle, hbb, rfl, rfl⟩
 ·have HL : Hid (∀ w' : World, Calls Tryz.prog 37 #[mv r c a n k, .int .u64 (s : Int)] w' fun e w'' => e = .returned (.tuple #[.int .u64 0, .int .i64 3]) ∧ Below w'.heap.size w' w'') := fun w' => qgv w' r c n k s a G
  have hR : ∀ w' : World, Below w.heap.size w w' → Calls Tryz.prog 36 #[mv r c a n k, .int .u64 (s : Int)] w' fun e w'' => e = .returned (.tuple #[.bool false, .int .i64 3]) ∧ Below w'.heap.size w' w'' := fun w' _ => qi3 w' r c 3 n k s a (by decide) HL
  exact qlb (fun w' _ => ql9 w' r c n k s a G) hR (fun w' hb => qgw w' r c 3 n k s a (fun w'' hb2 => hR w'' (qa0 hb hb2)))
 ·have HL : Hid (∀ w' : World, Calls Tryz.prog 37 #[mv r' c' a n k, .int .u64 (s : Int)] w' fun e w'' => e = .returned (.tuple #[.int .u64 0, .int .i64 2]) ∧ Below w'.heap.size w' w'') := fun w' => ql8 w' r' c' n k s a G R.r64 hs6 hs
  have hR : ∀ w' : World, Below w.heap.size w w' → Calls Tryz.prog 36 #[mv r' c' a n k, .int .u64 (s : Int)] w' fun e w'' => e = .returned (.tuple #[.bool false, .int .i64 2]) ∧ Below w'.heap.size w' w'' := fun w' _ => qi3 w' r' c' 2 n k s a (by decide) HL
  exact qlb (fun w' _ => vif_arg w' r' c' n k s a G R.r64 hs6 hs) hR (fun w' hb => qgw w' r' c' 2 n k s a (fun w'' hb2 => hR w'' (qa0 hb hb2)))
 ·have hM := qao ha.sl.1 R
  have hcov : RS (m2 F r' c') r' t c' ↔ cn p r' = c' := ⟨fun h => hk.one hM h, fun h => h ▸ hk⟩
  have HL : Hid (∀ w' : World, Calls Tryz.prog 37 #[mv r' c' a n k, .int .u64 (s : Int)] w' fun e w'' => e = .returned (.tuple #[.int .u64 (t : Int), .int .i64 0]) ∧ Below w'.heap.size w' w'') := fun w' => rleft_ok w' r' c' n k s t a G R.r64 hs hta
  have hR : ∀ w' : World, Below w.heap.size w w' → Calls Tryz.prog 36 #[mv r' c' a n k, .int .u64 (s : Int)] w' fun e w'' => e = .returned (.tuple #[.bool b, .int .i64 0]) ∧ Below w'.heap.size w' w'' := fun w' hb => qla w' r' c' n k s t a F b (ha.sl.later hb) R ht (hbb.trans hcov.symm) HL
  refine qlb (fun w' hb => vif_ok w' r' c' n k s t p a F b _ (ha.later hb) R G hs ht htb hp (hbb.trans (by omega)) rfl) hR ?_
  intro w' hb
  cases b with
  | false => exact qgw w' r' c' 0 n k s a (fun w'' hb2 => hR w'' (qa0 hb hb2))
  | true => exact rsrc_yes w' r' c' n k s t p a F (ha.sl.later hb) R ht hp (hcov.2 (hbb.1 rfl)) HL
theorem say_a {r c : Int} {n s : Nat} {F : Nat → Nat} (hF : ∀ i, i < n → F i < 256) : ∃ (b : Bool) (q : Nat) (E : Int), SayA F r c n s b q E := by
 by_cases G : GenP r c n
 ·obtain ⟨r', c', e1, e2, R, hc1, hcr⟩ := G.nat
  subst e1 e2
  by_cases hs : s < 2 ^ r'
  ·obtain ⟨t, hta, ht, htb⟩ := left_num R.r64 hs
   obtain ⟨p, hp⟩ : ∃ p, BaS (m2 F r' c') r' t p := bld_ex _ r'
   have hM := qao hF R
   have hk : RS (m2 F r' c') r' t (cn p r') := Rk.span (hp.free hM).1 (hp.free hM).2
   obtain ⟨b, hbb⟩ : ∃ b : Bool, b = true ↔ cn p r' = c' := ⟨decide (cn p r' = c'), by simp⟩
   exact ⟨b, _, _, .inr (.inr ⟨r', c', t, p, rfl, rfl, G, R, hc1, hcr, hs, ht, hta, htb, hp, hk, rs_cols hF R hk, hbb, rfl, rfl⟩)⟩
  ·exact ⟨_, _, _, .inr (.inl ⟨r', c', rfl, rfl, G, R, hs, rfl, rfl, rfl⟩)⟩
 ·exact ⟨_, _, _, .inl ⟨G, rfl, rfl, rfl⟩⟩
theorem say_ex (w : World) (r c : Int) (n k s : Nat) (a : Option Addr) (F : Nat → Nat) (ha : Mt w a n k F) (hs6 : s < 18446744073709551616) : ∃ (b : Bool) (q : Nat) (E : Int), SayA F r c n s b q E ∧ SayC w r c n k s a b q E := by
 obtain ⟨b, q, E, h⟩ := say_a (r := r) (c := c) (s := s) ha.sl.1
 exact ⟨b, q, E, h, say_c ha hs6 h⟩
end Go.Proofs.YtokdejhbjoglcaaGreat
