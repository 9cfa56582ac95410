/-
  Ranges over a function whose body appends to a list of sets: what the iterator leaves as it was, what the body does.
  Stage 19: local.others' function, where the body appends to a list of sets.
  Stage 19: the law for a range over local.others' sets whose body appends to a list of sets.
  Stage 19: the first so many of those that have a property, in order; a list of sets across a range.
-/
import Derived.Test.YtblagbghpfopcaaGreatQwwin00
import Derived.Test.YtblagbghpfopcaaGreatQwwin45
set_option maxRecDepth 100000
set_option maxHeartbeats 16000000
namespace Go.Proofs.YtblagbghpfopcaaGreat
open Go.RowKit Go.Shelf
attribute [local go_sem] Oper.semAt_some
/-- The block i holds sets. -/
def IsS (W : World) (i : Nat) : Prop := ∃ x : Int, W.cell? ⟨i, 0, none⟩ = some (.int .u64 x)
/-- What an iterator over sets does: blocks below B, and blocks of sets, are as they were. -/
structure Ch (B : Nat) (W W' : World) : Prop where
 os : W'.os = W.os
 tape : W'.tape = W.tape
 output : W'.output = W.output
 size : W.heap.size ≤ W'.heap.size
 keep : ∀ i, i < W.heap.size → (i < B ∨ IsS W i) → W'.heap[i]? = W.heap[i]?
/-- What a round's body does: blocks from B on that hold no sets are as they were. -/
def Bd (B : Nat) (W W' : World) : Prop := W.heap.size ≤ W'.heap.size ∧ ∀ i, B ≤ i → i < W.heap.size → ¬ IsS W i → W'.heap[i]? = W.heap[i]?
theorem Ch.of_below {B : Nat} {W W' : World} (h : Below W.heap.size W W') : Ch B W W' := ⟨h.os, h.tape, h.output, h.size, fun i hi _ => h.block i hi⟩
theorem Ch.mono {B B' : Nat} {W W' : World} (h : Ch B' W W') (hb : B ≤ B') : Ch B W W' := ⟨h.os, h.tape, h.output, h.size, fun i hi hh => h.keep i hi (hh.elim (fun x => .inl (by omega)) .inr)⟩
theorem Ch.below {B : Nat} {W W' : World} (h : Ch B W W') (hB : B ≤ W.heap.size) : Below B W W' := ⟨h.os, h.tape, h.output, h.size, fun i hi => h.keep i (by omega) (.inl hi)⟩
theorem IsS.none_of {W : World} {i : Nat} {v : Value} (h : W.cell? ⟨i, 0, none⟩ = some v) (hv : ∀ x : Int, v ≠ .int .u64 x) : ¬ IsS W i := fun ⟨x, e⟩ => hv x (Option.some.inj (h.symm.trans e))
theorem IsS.none_loop {W : World} {i : Nat} {o : Loop} (h : W.heap[i]? = some (.loop o)) : ¬ IsS W i := fun ⟨x, e⟩ => by simp [World.cell?, h] at e
theorem IsS.none_def {W : World} {i : Nat} {o : Option (List Deferred)} (h : W.heap[i]? = some (.deferred o)) : ¬ IsS W i := fun ⟨x, e⟩ => by simp [World.cell?, h] at e
theorem Ch.put {B : Nat} (W : World) (i : Nat) (o : Obj) (hi : B ≤ i) (hn : ¬ IsS W i) : Ch B W (W.putObj i o) := by
 have g := grownBy_putObj' W i o
 exact ⟨g.os, g.tape, g.output, g.size, fun k hk hh => g.block k hk (fun e => by
  have e2 := Option.some.inj e
  subst e2
  rcases hh with h | h
  ·omega
  ·exact hn h)⟩
/-- How a round's body may be left: it goes on, by a break, or by a return. -/
def rnd4 (Kp : Nat → World → Prop) (Kx : Code → World → Prop) (j B : Nat) (W : World) : Exit → Act → World → Prop
 | .normal, _, W' => Kp (j + 1) W' ∧ Bd B W W'
 | .exit id, _, W' => Kx (.exit id) W' ∧ Bd B W W'
 | .ret, _, W' => Kx .ret W' ∧ Bd B W W'
 | _, _, _ => False
theorem qho {gop : Operand} {p : Tmp} {assign body : Code} {Q : Exit → Act → World → Prop} {a : Act} {w : World} {nn C bn bk : Nat} (n k : Int) (f ix : Nat → Nat) (Kp : Nat → World → Prop) (Kx : Code → World → Prop)
  (hnn : 2 ≤ nn) (hix : ∀ j, j < C → ix (f j) = j)
  (hA0 : C = 0 → ∀ w : World, Calls Tryz.prog 95 #[.int .i64 n, .int .i64 k, .int .i64 0] w fun e w' => e = .returned (.tuple #[.int .u64 0, .int .i64 2]) ∧ Below w.heap.size w w')
  (hA1 : 0 < C → ∀ w : World, Calls Tryz.prog 95 #[.int .i64 n, .int .i64 k, .int .i64 0] w fun e w' => e = .returned (.tuple #[.int .u64 (f 0 : Nat), .int .i64 0]) ∧ Below w.heap.size w w')
  (hN1 : ∀ j, j + 1 < C → ∀ w : World, Calls Tryz.prog 96 #[.int .i64 n, .int .u64 (f j : Nat)] w fun e w' => e = .returned (.tuple #[.int .u64 (f (j + 1) : Nat), .bool true]) ∧ Below w.heap.size w w')
  (hN0 : ∀ j, j + 1 = C → ∀ w : World, Calls Tryz.prog 96 #[.int .i64 n, .int .u64 (f j : Nat)] w fun e w' => e = .returned (.tuple #[.int .u64 0, .bool false]) ∧ Below w.heap.size w w')
  (hg : a.eval gop = .func (.func 94) #[] #[.pointer (some ⟨bn, 0, none⟩), .pointer (some ⟨bk, 0, none⟩)])
  (hKp : ∀ j W W', Kp j W → Ch w.heap.size W W' → Kp j W')
  (hKx : ∀ c W W', Kx c W → Ch w.heap.size W W' → Kx c W')
  (hKc : ∀ j W, Kp j W → W.cell? ⟨bn, 0, none⟩ = some (.int .i64 n) ∧ W.cell? ⟨bk, 0, none⟩ = some (.int .i64 k))
  (h0 : Kp 0 w) (a₁ : Nat → Act)
  (hassign : ∀ (l s : Nat) (W : World) (K : Act → World → Prop), K (a₁ s) W → assign.wpIn (Fence.wide.inRound l) (nn - 1 - 1) Tryz.prog (Exit.then K (fun _ _ _ => False)) { tmps := a.tmps.setIfInBounds p (.int .u64 (s : Int)), defers := [] } W)
  (hbody : ∀ (l j : Nat) (W : World), j < C → Kp j W → body.wpIn (Fence.wide.inRound l) (nn - 1 - 1) Tryz.prog (rnd4 Kp Kx j w.heap.size W) (a₁ (f j)) W)
  (hdone : ∀ (D : Nat) (W : World), w.heap.size ≤ D → Kp C W → W.heap[D]? = some (.deferred (some [])) → Q .normal { a with defers := { target := .collected D, args := #[] } :: a.defers } W)
  (hstop : ∀ (D : Nat) (c : Code) (W : World), w.heap.size ≤ D → Kx c W → W.heap[D]? = some (.deferred (some [])) → c.wpIn Fence.wide nn Tryz.prog Q { a with defers := { target := .collected D, args := #[] } :: a.defers } W) :
  (Code.rangeFunc gop #[p] assign body).wpIn Fence.wide nn Tryz.prog Q a w := by
 refine wpIn_rangeFunc ?_
 intro fn hfn
 obtain ⟨rc, hrc⟩ : ∃ rc : LoopState → Option Code → Loop, rc = fun st pe => { state := st, pending := pe, fn, tmps := a.tmps, params := #[p], assign, body, defers := w.heap.size } := ⟨_, rfl⟩
 obtain ⟨W1, hW1⟩ : ∃ W1, (w.alloc (.deferred (some []))).alloc (.loop (rc .ready none)) = W1 := ⟨_, rfl⟩
 have hs1 : W1.heap.size = w.heap.size + 2 := by rw [← hW1]; simp
 have hL1 : W1.heap[w.heap.size + 1]? = some (.loop (rc .ready none)) := by rw [← hW1]; exact heap_alloc2_new _ _ _
 have hD1 : W1.heap[w.heap.size]? = some (.deferred (some [])) := by rw [← hW1]; exact heap_alloc2_old _ _ _
 have hb1 : Below w.heap.size w W1 := by rw [← hW1]; exact jtwo (jlow _ _) (jlow _ _)
 have hK1 : Kp 0 W1 := hKp 0 w W1 h0 (Ch.of_below hb1)
 have put : ∀ (W : World) (o : Obj), W.grownBy (W.putObj (w.heap.size + 1) o) (some (w.heap.size + 1)) := fun W o => grownBy_putObj' W (w.heap.size + 1) o
 refine ⟨w.heap.size + 1, [{ target := .collected w.heap.size, args := #[] }], W1, { target := .fn (.func 94) #[.pointer (some ⟨bn, 0, none⟩), .pointer (some ⟨bk, 0, none⟩)], args := #[.func (.yield (w.heap.size + 1)) #[] #[]] }, W1, 94,
  #[.func (.yield (w.heap.size + 1)) #[] #[]] ++ #[.pointer (some ⟨bn, 0, none⟩), .pointer (some ⟨bk, 0, none⟩)], W1, ?_, ?_, ?_, ?_, fun h => (by cases h), ?_⟩
 ·rw [← hW1, hrc]; exact run_enterLoop_outer _ _ _ _ _
 ·simp only [resolve, hg]
  simp [go_sem]
 ·intro f' _; trivial
 ·simp [invoke, go_sem]
 ·refine (all_in (nn - 1) (w.heap.size + 1) C bn bk n k f ix W1
   (fun j W => Kp j W ∧ W.heap[w.heap.size + 1]? = some (.loop (rc .ready none)) ∧ W.heap[w.heap.size]? = some (.deferred (some [])))
   (fun W => ∃ c, Kx c W ∧ W.heap[w.heap.size + 1]? = some (.loop (rc .done (some c))) ∧ W.heap[w.heap.size]? = some (.deferred (some [])))
   (by omega) hix hA0 hA1 hN1 hN0 ?_ (fun j W h => hKc j W h.1) ?_ ⟨hK1, hL1, hD1⟩).mono ?_
  ·rintro j W W' ⟨h1, h2, h3⟩ hbw
   exact ⟨hKp j W W' h1 (Ch.of_below hbw), by rw [hbw.block _ (lt_of_block h2)]; exact h2, by rw [hbw.block _ (lt_of_block h3)]; exact h3⟩
  ·rintro j W hj ⟨h1, h2, h3⟩
   have l2 := lt_of_block h2
   have hy := run_yield (P := Tryz.prog) (args := #[.int .u64 (f j : Nat)]) h2 (by rw [hrc]; rfl)
   rw [hrc] at hy
   refine ⟨fn, _, assign, body, hy, roundIn_of_wpIn hfn ?_⟩
   have htm : ((#[p] : Array Tmp).zip #[Value.int .u64 (f j : Nat)]).foldl (fun tmps (t, a) => tmps.setIfInBounds t a) a.tmps = a.tmps.setIfInBounds p (.int .u64 (f j : Nat)) := by simp
   rw [htm]
   refine hassign _ (f j) W _ ?_
   refine ⟨_, run_beginRound h2 (by rw [hrc]), ?_⟩
   obtain ⟨W2, hW2⟩ : ∃ W2, W.putObj (w.heap.size + 1) (.loop { rc .ready none with state := .busy }) = W2 := ⟨_, rfl⟩
   have hg2 : W.grownBy W2 (some (w.heap.size + 1)) := by rw [← hW2]; exact put _ _
   have k2 : Kp j W2 := hKp j W W2 h1 (by rw [← hW2]; exact Ch.put _ _ _ (by omega) (IsS.none_loop h2))
   have h22 : W2.heap[w.heap.size + 1]? = some (.loop { rc .ready none with state := .busy }) := by rw [← hW2]; exact World.putObj_heap_same l2
   have h32 : W2.heap[w.heap.size]? = some (.deferred (some [])) := by rw [hg2.block _ (lt_of_block h3) (fun e => by simp at e)]; exact h3
   rw [hW2]
   refine wpIn_mono (hbody _ j W2 hj k2) ?_
   rintro e a3 W3 hp
   cases e with
   | normal =>
    obtain ⟨hk3, hs3, hbl⟩ := hp
    have hl3 : W3.heap[w.heap.size + 1]? = some (.loop { rc .ready none with state := .busy }) := by rw [hbl _ (by omega) (lt_of_block h22) (IsS.none_loop h22)]; exact h22
    have hd3 : W3.heap[w.heap.size]? = some (.deferred (some [])) := by rw [hbl _ (by omega) (lt_of_block h32) (IsS.none_def h32)]; exact h32
    have hend := run_endRound (P := Tryz.prog) none hl3
    refine ⟨_, _, hend, .inl ⟨rfl, hKp (j + 1) W3 _ hk3 (Ch.put _ _ _ (by omega) (IsS.none_loop hl3)), ?_, ?_⟩⟩
    ·rw [World.putObj_heap_same (lt_of_block hl3), hrc]; rfl
    ·exact (World.putObj_heap_other (by omega)).trans hd3
   | exit id =>
    obtain ⟨hk3, hs3, hbl⟩ := hp
    have hl3 : W3.heap[w.heap.size + 1]? = some (.loop { rc .ready none with state := .busy }) := by rw [hbl _ (by omega) (lt_of_block h22) (IsS.none_loop h22)]; exact h22
    have hd3 : W3.heap[w.heap.size]? = some (.deferred (some [])) := by rw [hbl _ (by omega) (lt_of_block h32) (IsS.none_def h32)]; exact h32
    have hend := run_endRound (P := Tryz.prog) (some (.exit id)) hl3
    refine ⟨_, _, hend, .inr ⟨rfl, _, hKx _ W3 _ hk3 (Ch.put _ _ _ (by omega) (IsS.none_loop hl3)), ?_, ?_⟩⟩
    ·rw [World.putObj_heap_same (lt_of_block hl3), hrc]; rfl
    ·exact (World.putObj_heap_other (by omega)).trans hd3
   | ret =>
    obtain ⟨hk3, hs3, hbl⟩ := hp
    have hl3 : W3.heap[w.heap.size + 1]? = some (.loop { rc .ready none with state := .busy }) := by rw [hbl _ (by omega) (lt_of_block h22) (IsS.none_loop h22)]; exact h22
    have hd3 : W3.heap[w.heap.size]? = some (.deferred (some [])) := by rw [hbl _ (by omega) (lt_of_block h32) (IsS.none_def h32)]; exact h32
    have hend := run_endRound (P := Tryz.prog) (some .ret) hl3
    refine ⟨_, _, hend, .inr ⟨rfl, _, hKx _ W3 _ hk3 (Ch.put _ _ _ (by omega) (IsS.none_loop hl3)), ?_, ?_⟩⟩
    ·rw [World.putObj_heap_same (lt_of_block hl3), hrc]; rfl
    ·exact (World.putObj_heap_other (by omega)).trans hd3
   | goto t => exact hp.elim
   | panic ch => exact hp.elim
   | outgrown => exact hp.elim
  ·rintro e W2 ⟨⟨v, rfl⟩, (⟨h1, h2, h3⟩ | ⟨c, h1, h2, h3⟩)⟩
   ·refine ⟨none, _, by have := run_endLoop (P := Tryz.prog) h2 (by rw [hrc]; simp); rw [hrc] at this; exact this, ?_⟩
    exact hdone _ _ (Nat.le_refl _) (hKp C W2 _ h1 (Ch.put _ _ _ (by omega) (IsS.none_loop h2))) ((World.putObj_heap_other (by omega)).trans h3)
   ·refine ⟨some c, _, by have := run_endLoop (P := Tryz.prog) h2 (by rw [hrc]; simp); rw [hrc] at this; exact this, ?_⟩
    exact hstop _ c _ (Nat.le_refl _) (hKx c W2 _ h1 (Ch.put _ _ _ (by omega) (IsS.none_loop h2))) ((World.putObj_heap_other (by omega)).trans h3)
open Go.RowKit Go.Shelf
attribute [local go_sem] Oper.semAt_some
theorem qk2 (m l C bn bk bb n b : Nat) (k : Int) (f ix G : Nat → Nat) (W0 : World) (T : Nat → World → Prop) (Tx : World → Prop) (hn1 : 1 ≤ n) (hn : n ≤ 64) (hb : b < n)
  (AF : AllF ((n : Int) - 1) k C f ix) (hG : ∀ j, j < C → OthG b (f j) (G j))
  (hC : ∀ j W, T j W → W.cell? ⟨bn, 0, none⟩ = some (.int .i64 (n : Int)) ∧ W.cell? ⟨bk, 0, none⟩ = some (.int .i64 k) ∧ W.cell? ⟨bb, 0, none⟩ = some (.int .i64 (b : Int)))
  (hT : ∀ j W W', T j W → Ch W0.heap.size W W' → T j W') (hTx : ∀ W W', Tx W → Ch W0.heap.size W W' → Tx W') (hsz : ∀ j W, T j W → W0.heap.size ≤ W.heap.size) (hsx : ∀ W, Tx W → W0.heap.size ≤ W.heap.size)
  (hY : ∀ q j W, j < C → T j W → YieldAt Fence.wide q Tryz.prog l #[.int .u64 (G j : Nat)] W (fun e W' => ((e = .returned (.bool true) ∧ T (j + 1) W') ∨ (e = .returned (.bool false) ∧ Tx W')) ∧ Bd W0.heap.size W W'))
  (h0 : T 0 W0) :
  CallsIn Fence.wide m Tryz.prog 76 #[.func (.yield l) #[] #[], .pointer (some ⟨bn, 0, none⟩), .pointer (some ⟨bk, 0, none⟩), .pointer (some ⟨bb, 0, none⟩)] W0 fun e W' => (∃ v, e = .returned v) ∧ (T C W' ∨ Tx W') := by
 have HT := qa2 hT
 have HTx := qa2 hTx
 have HC := qa2 hC
 have HY := qa2 hY
 have HG := qa2 hG
 have HS := qa2 hsz
 have HSx := qa2 hsx
 have H0 : Hid (T 0 W0) := h0
 have hb64 : b < 64 := by omega
 obtain ⟨N1, hN1⟩ : ∃ N1, n - 1 = N1 := ⟨_, rfl⟩
 have en : (n : Int) - 1 = (N1 : Int) := by omega
 rw [en] at AF
 have HAF := qa2 AF
 obtain ⟨wb, HW⟩ : ∃ wb, Hid (wb = W0.alloc (.cells #[.func (.yield l) #[] #[]] 109)) := ⟨_, rfl⟩
 have HBb : Hid (Below W0.heap.size W0 wb) := by rw [HW.out]; exact qa1 _ _
 have HVy : Hid (Cl wb W0.heap.size (.func (.yield l) #[] #[]) 109) := by rw [HW.out]; exact Cl.new _ _ _
 have HTb : Hid (T 0 wb) := hT 0 W0 wb h0 (Ch.of_below HBb.out)
 obtain ⟨c1, c2, c3⟩ := hC 0 wb HTb.out
 rw [HW.out] at c1 c2 c3
 clear hT hTx hC hY hG hsz hsx h0 AF
 refine callsIn_wide.2 ((callsIn_wide (n := 4)).1 (callsIn_of_wp_marks Tryz.func76 rfl trivial ?_ rfl))
 simp only [Tryz.ntmps76, List.size_toArray, List.length_cons, List.length_nil, Nat.reduceAdd, Nat.reduceSub, Array.replicate_succ, Array.replicate_zero, List.push_toArray, List.append_toArray, List.nil_append, List.cons_append]
 refine wpIn_wide.2 ?_
 go_wp2_with (go_at_call 77; rw [← HW.out]; refine (qiy _ _ _).mono ?_; rintro e w1 ⟨rfl, hd1, hd2, hs1, hb1⟩; have HB1 : Hid (Below wb.heap.size wb w1) := hb1; have HD1 := qa2 hd1; have HD2 := qa2 hd2; have HS1 := qa2 hs1; clear hd1 hd2 hs1 hb1)
 obtain ⟨bn2, Hbn2⟩ : ∃ x, Hid (x = wb.heap.size) := ⟨_, rfl⟩
 obtain ⟨bk2, Hbk2⟩ : ∃ x, Hid (x = wb.heap.size + 1) := ⟨_, rfl⟩
 have hwb : W0.heap.size + 1 ≤ wb.heap.size := by have := HVy.out.lt; omega
 have h1s := HS1.out
 have HE1 : Hid (w1.cell? ⟨bn2, 0, none⟩ = some (.int .i64 (N1 : Int))) := by rw [Hbn2.out]; exact HD1.out
 have HE2 : Hid (w1.cell? ⟨bk2, 0, none⟩ = some (.int .i64 k)) := by rw [Hbk2.out]; exact HD2.out
 have hl1 : bn2 < w1.heap.size := by rw [Hbn2.out]; omega
 have hl2 : bk2 < w1.heap.size := by rw [Hbk2.out]; omega
 have hl3 : W0.heap.size ≤ bn2 := by rw [Hbn2.out]; omega
 have hl4 : W0.heap.size ≤ bk2 := by rw [Hbk2.out]; omega
 have HVy1 : Hid (w1.cell? ⟨W0.heap.size, 0, none⟩ = some (.func (.yield l) #[] #[])) := (HVy.out.later HB1.out).cell
 have HT1 : Hid (T 0 w1) := HT.out 0 wb w1 HTb.out (Ch.of_below HB1.out)
 have hyl : W0.heap.size < w1.heap.size := by omega
 rw [← Hbk2.out, ← Hbn2.out]
 clear HD1 HD2 Hbn2 Hbk2 HTb HVy HS1 c1 c2 c3 HW
 refine (wpIn_wide (n := 4)).1 ?_
 refine qho (nn := 4) (C := C) (bn := bn2) (bk := bk2) (N1 : Int) k f ix
  (fun j W => T j W ∧ w1.heap.size ≤ W.heap.size ∧ W.cell? ⟨bn2, 0, none⟩ = some (.int .i64 (N1 : Int)) ∧ W.cell? ⟨bk2, 0, none⟩ = some (.int .i64 k) ∧ W.cell? ⟨W0.heap.size, 0, none⟩ = some (.func (.yield l) #[] #[]))
  (fun c W => c = .ret ∧ Tx W ∧ w1.heap.size ≤ W.heap.size) (by omega) HAF.out.ix HAF.out.a0 HAF.out.a1 HAF.out.n1 HAF.out.n0 rfl ?hKp ?hKx ?hKc ?h0
  (fun s => { tmps := #[.func (.yield l) #[] #[], .pointer (some ⟨bn, 0, none⟩), .pointer (some ⟨bk, 0, none⟩), .pointer (some ⟨bb, 0, none⟩), .pointer (some ⟨W0.heap.size, 0, none⟩), .int .u64 (s : Int), undef, .int .i64 (n : Int), .int .i64 (N1 : Int), .int .i64 k, .func (.func 94) #[] #[.pointer (some ⟨bn2, 0, none⟩), .pointer (some ⟨bk2, 0, none⟩)], .int .u64 (s : Int), undef, undef, undef, undef, undef, undef, undef, undef, undef, undef, undef, undef, undef, undef], defers := [] }) ?hassign ?hbody ?hdone ?hstop
 case hKp =>
  rintro j W W' ⟨h1, h2, h3, h4, h5⟩ hg
  have kc : ∀ x v, x < w1.heap.size → W.cell? ⟨x, 0, none⟩ = some v → W'.cell? ⟨x, 0, none⟩ = some v := fun x v hx hc => by
   rw [World.cell?_of_block (a := ⟨x, 0, none⟩) (hg.keep x (by omega) (.inl hx))]
   exact hc
  exact ⟨HT.out j W W' h1 (hg.mono (by omega)), Nat.le_trans h2 hg.size, kc _ _ hl1 h3, kc _ _ hl2 h4, kc _ _ hyl h5⟩
 case hKx =>
  rintro c W W' ⟨h1, h2, h3⟩ hg
  exact ⟨h1, HTx.out W W' h2 (hg.mono (by omega)), Nat.le_trans h3 hg.size⟩
 case hKc => exact fun j W h => ⟨h.2.2.1, h.2.2.2.1⟩
 case h0 => exact ⟨HT1.out, Nat.le_refl _, HE1.out, HE2.out, HVy1.out⟩
 case hassign =>
  intro l2 s W K hK
  gi_wp2
  exact hK
 case hbody =>
  rintro l2 j W hj ⟨h1, h2, h3, h4, h5⟩
  obtain ⟨z, z1, lo, hi, h2', q1, q2, q3, q4, q5, q6⟩ := HG.out j hj
  obtain ⟨x, HX⟩ : ∃ x, Hid (f j = x) := ⟨_, rfl⟩
  rw [HX.out] at q3 q4 ⊢
  have c3 := (HC.out j W h1).2.2
  obtain ⟨y, HYy⟩ : ∃ y, Hid (G j = y) := ⟨_, rfl⟩
  rw [HYy.out] at q6
  obtain ⟨fn, tmps, assign, body, hy, hR⟩ := HY.out 1 j W hj h1
  rw [HYy.out] at hy
  have HRd := qa2 hR
  have H3 := qa2 h3
  have H4 := qa2 h4
  have H1 := qa2 h1
  clear hR h1 h3 h4 HX HYy
  gi_wp2
  have hR2 : RoundIn (Fence.wide.inRound l2) 1 Tryz.prog l fn tmps assign body W _ := HRd.out
  refine RoundIn.mono hR2 ?_
  clear hR2 HRd hy
  rintro e W3 ⟨hc, hs3, hbl⟩
  have HK3 : Hid (∀ x v, W0.heap.size ≤ x → x < w1.heap.size → (∀ y : Int, v ≠ .int .u64 y) → W.cell? ⟨x, 0, none⟩ = some v → W3.cell? ⟨x, 0, none⟩ = some v) := fun x v hx hx2 hne hcc => by
   rw [World.cell?_of_block (a := ⟨x, 0, none⟩) (hbl x hx (by omega) (IsS.none_of hcc hne))]
   exact hcc
  have HBl : Hid (∀ i, w1.heap.size ≤ i → i < W.heap.size → ¬ IsS W i → W3.heap[i]? = W.heap[i]?) := fun i hi hi2 hn => hbl i (by omega) hi2 hn
  clear hbl
  rcases hc with ⟨rfl, ht⟩ | ⟨rfl, hx⟩
  ·have HT3 := qa2 ht
   clear ht
   gi_wp2
   exact ⟨⟨HT3.out, by omega, HK3.out _ _ hl3 hl1 (fun y e => by cases e) H3.out, HK3.out _ _ hl4 hl2 (fun y e => by cases e) H4.out, HK3.out _ _ (Nat.le_refl _) hyl (fun y e => by cases e) h5⟩, hs3, HBl.out⟩
  ·have HX3 := qa2 hx
   clear hx
   gi_wp2
   exact ⟨⟨rfl, HX3.out, by omega⟩, hs3, HBl.out⟩
 case hdone =>
  rintro D W hD ⟨h1, h2, _, _, _⟩ hdf
  have HDf := qa2 hdf
  have H1 := qa2 h1
  clear hdf h1
  go_wp2
  refine ⟨by simp, .inl ⟨_, _, rfl, run_takeDeferred HDf.out, ?_⟩⟩
  refine ⟨_, results_none rfl _ _ _, ?_⟩
  exact ⟨⟨_, rfl⟩, .inl (HT.out C W _ H1.out (Ch.put W D (.deferred none) (by omega) (IsS.none_def HDf.out)))⟩
 case hstop =>
  rintro D c W hD ⟨rfl, h1, h2⟩ hdf
  have HDf := qa2 hdf
  have H1 := qa2 h1
  clear hdf h1
  refine wpIn_wide.2 ?_
  go_wp2
  refine ⟨by simp, .inl ⟨_, _, rfl, run_takeDeferred HDf.out, ?_⟩⟩
  refine ⟨_, results_none rfl _ _ _, ?_⟩
  exact ⟨⟨_, rfl⟩, .inr (HTx.out W _ H1.out (Ch.put W D (.deferred none) (by omega) (IsS.none_def HDf.out)))⟩
open Go.RowKit Go.Shelf
attribute [local go_sem] Oper.semAt_some
theorem qge {gop : Operand} {p : Tmp} {assign body : Code} {Q : Exit → Act → World → Prop} {a : Act} {w : World} {nn C bn bk bb n b : Nat} (k : Int) (f ix G : Nat → Nat) (Kp : Nat → World → Prop) (Kx : Code → World → Prop) (hn1 : 1 ≤ n) (hn : n ≤ 64) (hb : b < n)
  (AF : AllF ((n : Int) - 1) k C f ix) (hG : ∀ j, j < C → OthG b (f j) (G j))
  (hg : a.eval gop = .func (.func 76) #[] #[.pointer (some ⟨bn, 0, none⟩), .pointer (some ⟨bk, 0, none⟩), .pointer (some ⟨bb, 0, none⟩)])
  (hKp : ∀ j W W', Kp j W → Ch w.heap.size W W' → Kp j W') (hKx : ∀ c W W', Kx c W → Ch w.heap.size W W' → Kx c W')
  (hKc : ∀ j W, Kp j W → W.cell? ⟨bn, 0, none⟩ = some (.int .i64 (n : Int)) ∧ W.cell? ⟨bk, 0, none⟩ = some (.int .i64 k) ∧ W.cell? ⟨bb, 0, none⟩ = some (.int .i64 (b : Int)))
  (h0 : Kp 0 w) (a₁ : Nat → Act)
  (hassign : ∀ (q l s : Nat) (W : World) (K : Act → World → Prop), K (a₁ s) W → assign.wpIn (Fence.wide.inRound l) q Tryz.prog (Exit.then K (fun _ _ _ => False)) { tmps := a.tmps.setIfInBounds p (.int .u64 (s : Int)), defers := [] } W)
  (hbody : ∀ (q l j : Nat) (W : World), j < C → Kp j W → body.wpIn (Fence.wide.inRound l) q Tryz.prog (rnd4 Kp Kx j w.heap.size W) (a₁ (G j)) W)
  (hdone : ∀ (D : Nat) (W : World), w.heap.size ≤ D → Kp C W → W.heap[D]? = some (.deferred (some [])) → Q .normal { a with defers := { target := .collected D, args := #[] } :: a.defers } W)
  (hstop : ∀ (D : Nat) (c : Code) (W : World), w.heap.size ≤ D → Kx c W → W.heap[D]? = some (.deferred (some [])) → c.wpIn Fence.wide nn Tryz.prog Q { a with defers := { target := .collected D, args := #[] } :: a.defers } W) :
  (Code.rangeFunc gop #[p] assign body).wpIn Fence.wide nn Tryz.prog Q a w := by
 refine wpIn_rangeFunc ?_
 intro fn hfn
 obtain ⟨rc, hrc⟩ : ∃ rc : LoopState → Option Code → Loop, rc = fun st pe => { state := st, pending := pe, fn, tmps := a.tmps, params := #[p], assign, body, defers := w.heap.size } := ⟨_, rfl⟩
 obtain ⟨W1, hW1⟩ : ∃ W1, (w.alloc (.deferred (some []))).alloc (.loop (rc .ready none)) = W1 := ⟨_, rfl⟩
 have hs1 : W1.heap.size = w.heap.size + 2 := by rw [← hW1]; simp
 have hL1 : W1.heap[w.heap.size + 1]? = some (.loop (rc .ready none)) := by rw [← hW1]; exact heap_alloc2_new _ _ _
 have hD1 : W1.heap[w.heap.size]? = some (.deferred (some [])) := by rw [← hW1]; exact heap_alloc2_old _ _ _
 have hb1 : Below w.heap.size w W1 := by rw [← hW1]; exact jtwo (jlow _ _) (jlow _ _)
 have hK1 : Kp 0 W1 := hKp 0 w W1 h0 (Ch.of_below hb1)
 have put : ∀ (W : World) (o : Obj), W.grownBy (W.putObj (w.heap.size + 1) o) (some (w.heap.size + 1)) := fun W o => grownBy_putObj' W (w.heap.size + 1) o
 refine ⟨w.heap.size + 1, [{ target := .collected w.heap.size, args := #[] }], W1, { target := .fn (.func 76) #[.pointer (some ⟨bn, 0, none⟩), .pointer (some ⟨bk, 0, none⟩), .pointer (some ⟨bb, 0, none⟩)], args := #[.func (.yield (w.heap.size + 1)) #[] #[]] }, W1, 76,
  #[.func (.yield (w.heap.size + 1)) #[] #[]] ++ #[.pointer (some ⟨bn, 0, none⟩), .pointer (some ⟨bk, 0, none⟩), .pointer (some ⟨bb, 0, none⟩)], W1, ?_, ?_, ?_, ?_, fun h => (by cases h), ?_⟩
 ·rw [← hW1, hrc]; exact run_enterLoop_outer _ _ _ _ _
 ·simp only [resolve, hg]
  simp [go_sem]
 ·intro f' _; trivial
 ·simp [invoke, go_sem]
 ·refine (qk2 (nn - 1) (w.heap.size + 1) C bn bk bb n b k f ix G W1
   (fun j W => Kp j W ∧ W.heap[w.heap.size + 1]? = some (.loop (rc .ready none)) ∧ W.heap[w.heap.size]? = some (.deferred (some [])))
   (fun W => ∃ c, Kx c W ∧ W.heap[w.heap.size + 1]? = some (.loop (rc .done (some c))) ∧ W.heap[w.heap.size]? = some (.deferred (some [])))
   hn1 hn hb AF hG (fun j W h => hKc j W h.1) ?_ ?_ ?_ ?_ ?_ ⟨hK1, hL1, hD1⟩).mono ?_
  ·rintro j W W' ⟨h1, h2, h3⟩ hbw
   rw [hs1] at hbw
   exact ⟨hKp j W W' h1 (hbw.mono (by omega)), by rw [hbw.keep _ (lt_of_block h2) (.inl (by omega))]; exact h2, by rw [hbw.keep _ (lt_of_block h3) (.inl (by omega))]; exact h3⟩
  ·rintro W W' ⟨c, h1, h2, h3⟩ hbw
   rw [hs1] at hbw
   exact ⟨c, hKx c W W' h1 (hbw.mono (by omega)), by rw [hbw.keep _ (lt_of_block h2) (.inl (by omega))]; exact h2, by rw [hbw.keep _ (lt_of_block h3) (.inl (by omega))]; exact h3⟩
  ·rintro j W ⟨_, h2, _⟩
   have := lt_of_block h2
   omega
  ·rintro W ⟨c, _, h2, _⟩
   have := lt_of_block h2
   omega
  ·rintro q j W hj ⟨h1, h2, h3⟩
   have l2 := lt_of_block h2
   have hy := run_yield (P := Tryz.prog) (args := #[.int .u64 (G j : Nat)]) h2 (by rw [hrc]; rfl)
   rw [hrc] at hy
   refine ⟨fn, _, assign, body, hy, roundIn_of_wpIn hfn ?_⟩
   have htm : ((#[p] : Array Tmp).zip #[Value.int .u64 (G j : Nat)]).foldl (fun tmps (t, a) => tmps.setIfInBounds t a) a.tmps = a.tmps.setIfInBounds p (.int .u64 (G j : Nat)) := by simp
   rw [htm]
   refine hassign _ _ (G j) W _ ?_
   refine ⟨_, run_beginRound h2 (by rw [hrc]), ?_⟩
   obtain ⟨W2, hW2⟩ : ∃ W2, W.putObj (w.heap.size + 1) (.loop { rc .ready none with state := .busy }) = W2 := ⟨_, rfl⟩
   have hg2 : W.grownBy W2 (some (w.heap.size + 1)) := by rw [← hW2]; exact put _ _
   have hz2 : W2.heap.size = W.heap.size := by rw [← hW2]; simp
   have k2 : Kp j W2 := hKp j W W2 h1 (by rw [← hW2]; exact Ch.put _ _ _ (by omega) (IsS.none_loop h2))
   have h22 : W2.heap[w.heap.size + 1]? = some (.loop { rc .ready none with state := .busy }) := by rw [← hW2]; exact World.putObj_heap_same l2
   have h32 : W2.heap[w.heap.size]? = some (.deferred (some [])) := by rw [hg2.block _ (lt_of_block h3) (fun e => by simp at e)]; exact h3
   rw [hW2]
   refine wpIn_mono (hbody _ _ j W2 hj k2) ?_
   rintro e a3 W3 hp
   have keep : ∀ (o : Obj), (∀ i, w.heap.size ≤ i → i < W2.heap.size → ¬ IsS W2 i → W3.heap[i]? = W2.heap[i]?) → W2.heap.size ≤ W3.heap.size → Bd W1.heap.size W (W3.putObj (w.heap.size + 1) o) := fun o hbl hs3 => by
    refine ⟨by have := (put W3 o).size; omega, fun i hi hi2 hn => ?_⟩
    have h2i : W2.heap[i]? = W.heap[i]? := hg2.block i hi2 (fun e => by have h := Option.some.inj e; omega)
    rw [(put W3 o).block i (by omega) (fun e => by have h := Option.some.inj e; omega), hbl i (by omega) (by omega) (fun ⟨x, e⟩ => hn ⟨x, by rw [← World.cell?_of_block (a := ⟨i, 0, none⟩) h2i]; exact e⟩), h2i]
   cases e with
   | normal =>
    obtain ⟨hk3, hs3, hbl⟩ := hp
    have hl3 : W3.heap[w.heap.size + 1]? = some (.loop { rc .ready none with state := .busy }) := by rw [hbl _ (by omega) (lt_of_block h22) (IsS.none_loop h22)]; exact h22
    have hd3 : W3.heap[w.heap.size]? = some (.deferred (some [])) := by rw [hbl _ (by omega) (lt_of_block h32) (IsS.none_def h32)]; exact h32
    have hend := run_endRound (P := Tryz.prog) none hl3
    refine ⟨_, _, hend, .inl ⟨rfl, hKp (j + 1) W3 _ hk3 (Ch.put _ _ _ (by omega) (IsS.none_loop hl3)), ?_, ?_⟩, keep _ hbl hs3⟩
    ·rw [World.putObj_heap_same (lt_of_block hl3), hrc]; rfl
    ·exact (World.putObj_heap_other (by omega)).trans hd3
   | exit id =>
    obtain ⟨hk3, hs3, hbl⟩ := hp
    have hl3 : W3.heap[w.heap.size + 1]? = some (.loop { rc .ready none with state := .busy }) := by rw [hbl _ (by omega) (lt_of_block h22) (IsS.none_loop h22)]; exact h22
    have hd3 : W3.heap[w.heap.size]? = some (.deferred (some [])) := by rw [hbl _ (by omega) (lt_of_block h32) (IsS.none_def h32)]; exact h32
    have hend := run_endRound (P := Tryz.prog) (some (.exit id)) hl3
    refine ⟨_, _, hend, .inr ⟨rfl, _, hKx _ W3 _ hk3 (Ch.put _ _ _ (by omega) (IsS.none_loop hl3)), ?_, ?_⟩, keep _ hbl hs3⟩
    ·rw [World.putObj_heap_same (lt_of_block hl3), hrc]; rfl
    ·exact (World.putObj_heap_other (by omega)).trans hd3
   | ret =>
    obtain ⟨hk3, hs3, hbl⟩ := hp
    have hl3 : W3.heap[w.heap.size + 1]? = some (.loop { rc .ready none with state := .busy }) := by rw [hbl _ (by omega) (lt_of_block h22) (IsS.none_loop h22)]; exact h22
    have hd3 : W3.heap[w.heap.size]? = some (.deferred (some [])) := by rw [hbl _ (by omega) (lt_of_block h32) (IsS.none_def h32)]; exact h32
    have hend := run_endRound (P := Tryz.prog) (some .ret) hl3
    refine ⟨_, _, hend, .inr ⟨rfl, _, hKx _ W3 _ hk3 (Ch.put _ _ _ (by omega) (IsS.none_loop hl3)), ?_, ?_⟩, keep _ hbl hs3⟩
    ·rw [World.putObj_heap_same (lt_of_block hl3), hrc]; rfl
    ·exact (World.putObj_heap_other (by omega)).trans hd3
   | goto t => exact hp.elim
   | panic ch => exact hp.elim
   | outgrown => exact hp.elim
  ·rintro e W2 ⟨⟨v, rfl⟩, (⟨h1, h2, h3⟩ | ⟨c, h1, h2, h3⟩)⟩
   ·have l2 := lt_of_block h2
    refine ⟨none, _, by have := run_endLoop (P := Tryz.prog) h2 (by rw [hrc]; simp); rw [hrc] at this; exact this, ?_⟩
    exact hdone _ _ (Nat.le_refl _) (hKp C W2 _ h1 (Ch.put _ _ _ (by omega) (IsS.none_loop h2))) ((World.putObj_heap_other (by omega)).trans h3)
   ·have l2 := lt_of_block h2
    refine ⟨some c, _, by have := run_endLoop (P := Tryz.prog) h2 (by rw [hrc]; simp); rw [hrc] at this; exact this, ?_⟩
    exact hstop _ c _ (Nat.le_refl _) (hKx c W2 _ h1 (Ch.put _ _ _ (by omega) (IsS.none_loop h2))) ((World.putObj_heap_other (by omega)).trans h3)
open Go.RowKit Go.Shelf
/-- u 0 .. u (L-1) are the first ones below j that have the property P, at most so many. -/
structure Enm (P : Nat → Prop) (most j L : Nat) (u : Nat → Nat) : Prop where
 is : ∀ n, n < L → u n < j ∧ P (u n)
 first : ∀ n, n < L → ∀ i, i < u n → P i → ∃ m, m < n ∧ u m = i
 up : ∀ m n, m < n → n < L → u m < u n
 le : L ≤ most
 all : L < most → ∀ i, i < j → P i → ∃ n, n < L ∧ u n = i
theorem Enm.zero (P : Nat → Prop) (most : Nat) (u : Nat → Nat) : Enm P most 0 0 u := ⟨fun n h => by omega, fun n h => by omega, fun m n _ h => by omega, Nat.zero_le _, fun _ i h => by omega⟩
theorem Enm.no {P : Nat → Prop} {most j L : Nat} {u : Nat → Nat} (h : Enm P most j L u) (hp : P j → L = most) : Enm P most (j + 1) L u :=
 ⟨fun n hn => ⟨by have := (h.is n hn).1; omega, (h.is n hn).2⟩, h.first, h.up, h.le, fun hl i hi hP => by
  by_cases e : i = j
  ·subst e; have := hp hP; omega
  ·exact h.all hl i (by omega) hP⟩
theorem Enm.far {P : Nat → Prop} {most j L : Nat} {u : Nat → Nat} (h : Enm P most j L u) (hl : L = most) {k : Nat} (hk : j ≤ k) : Enm P most k L u :=
 ⟨fun n hn => ⟨by have := (h.is n hn).1; omega, (h.is n hn).2⟩, h.first, h.up, h.le, fun hl2 => by omega⟩
theorem Enm.yes {P : Nat → Prop} {most j L : Nat} {u : Nat → Nat} (h : Enm P most j L u) (hp : P j) (hl : L < most) : Enm P most (j + 1) (L + 1) (fun n => if n = L then j else u n) := by
 have hlow : ∀ n, n < L → (if n = L then j else u n) = u n := fun n hn => if_neg (by omega)
 refine ⟨fun n hn => ?_, fun n hn i hi hP => ?_, fun m n hmn hn => ?_, by omega, fun hl2 i hi hP => ?_⟩
 ·by_cases e : n = L
  ·show (if n = L then j else u n) < _ ∧ P (if n = L then j else u n)
   rw [if_pos e]
   exact ⟨by omega, hp⟩
  ·have := h.is n (by omega)
   show (if n = L then j else u n) < _ ∧ P (if n = L then j else u n)
   rw [if_neg e]
   exact ⟨by omega, this.2⟩
 ·by_cases e : n = L
  ·simp only [e, if_true] at hi
   obtain ⟨m, hm, hu⟩ := h.all hl i hi hP
   exact ⟨m, by omega, by rw [← hu]; exact hlow m hm⟩
  ·simp only [if_neg e] at hi
   obtain ⟨m, hm, hu⟩ := h.first n (by omega) i hi hP
   exact ⟨m, hm, by rw [← hu]; exact hlow m (by omega)⟩
 ·show (if m = L then j else u m) < (if n = L then j else u n)
  rw [if_neg (show ¬ m = L by omega)]
  by_cases e : n = L
  ·rw [if_pos e]; exact (h.is m (by omega)).1
  ·rw [if_neg e]; exact h.up m n hmn (by omega)
 ·by_cases e : i = j
  ·exact ⟨L, by omega, by show (if L = L then j else u L) = i; rw [if_pos rfl, e]⟩
  ·obtain ⟨n, hn, hu⟩ := h.all hl i (by omega) hP
   exact ⟨n, by omega, by rw [← hu]; exact hlow n hn⟩
theorem Enm.same {P : Nat → Prop} {most j L L' : Nat} {u u' : Nat → Nat} (h : Enm P most j L u) (h' : Enm P most j L' u') : ∀ n, n < L → n < L' → u n = u' n := by
 intro n
 induction n using Nat.strongRecOn with
 | _ n ih =>
  intro hn hn'
  refine Classical.byContradiction (fun hne => ?_)
  rcases Nat.lt_or_gt_of_ne hne with hl | hl
  ·obtain ⟨m, hm, e⟩ := h'.first n hn' (u n) hl (h.is n hn).2
   have e2 := ih m hm (by omega) (by omega)
   have := h.up m n hm hn
   omega
  ·obtain ⟨m, hm, e⟩ := h.first n hn (u' n) hl (h'.is n hn').2
   have e2 := ih m hm (by omega) (by omega)
   have := h'.up m n hm hn'
   omega
theorem Enm.le_of {P : Nat → Prop} {most j L L' : Nat} {u u' : Nat → Nat} (h : Enm P most j L u) (h' : Enm P most j L' u') : L' ≤ L := by
 refine Classical.byContradiction (fun hn => ?_)
 have h1 := h'.is L (by omega)
 obtain ⟨n, hnL, e⟩ := h.all (by have := h'.le; omega) (u' L) h1.1 h1.2
 have e2 := h.same h' n hnL (by omega)
 have := h'.up n L hnL (by omega)
 omega
theorem Enm.one {P : Nat → Prop} {most j L L' : Nat} {u u' : Nat → Nat} (h : Enm P most j L u) (h' : Enm P most j L' u') : L = L' ∧ ∀ n, n < L → u n = u' n := by
 have h1 := h.le_of h'
 have h2 := h'.le_of h
 exact ⟨by omega, fun n hn => h.same h' n hn (by omega)⟩
/-- A list of sets of the call's own across what an iterator does. -/
theorem Jo.ch {W W' : World} {B m L d : Nat} {T : TypeId} {s : Option Addr} {f : Nat → Nat} (h : Jo W B T .u64 (.slice s L d) L f) (hL : L = 0 → s = none ∧ d = 0) (hc : Ch m W W') : Jo W' B T .u64 (.slice s L d) L f := by
 by_cases h0 : L = 0
 ·obtain ⟨rfl, rfl⟩ := hL h0
  subst h0
  exact Jo.nil _ _ _ _ _
 ·obtain ⟨g, rfl, _, _⟩ := h.addr (by omega)
  have hcell := h.cell 0 (by omega)
  have h1 := h.1
  refine ⟨h1, ?_⟩
  rcases h.2 with ⟨e, _⟩ | ⟨g', cap, cur, e, hb, hgg, rest⟩
  ·cases e
  ·cases e
   refine .inr ⟨_, _, cur, rfl, hb, ?_, rest⟩
   rw [hc.keep _ (lt_of_block hgg) (.inr ⟨_, hcell⟩)]
   exact hgg
end Go.Proofs.YtblagbghpfopcaaGreat
