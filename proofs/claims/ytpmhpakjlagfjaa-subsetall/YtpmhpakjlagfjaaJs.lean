/-
  The walk through a loop over All's sets, which may be left by a break.
-/
import Derived.Test.YtpmhpakjlagfjaaJr
namespace Go.Proofs.Ytpmhpakjlagfjaa
open Go.RowKit Go.Shelf
attribute [local go_sem] Oper.semAt_some
/-- How a round's body may be left: it goes on, or by a break. -/
def rndA (Kp : Nat → World → Prop) (Kx : World → Prop) (j b B : Nat) (W : World) : Exit → Act → World → Prop
  | .normal, _, W' => Kp (j + 1) W' ∧ W.heap.size ≤ W'.heap.size ∧ ∀ i, B ≤ i → i < W.heap.size → W'.heap[i]? = W.heap[i]?
  | .exit id, _, W' => id = b ∧ Kx W' ∧ W.heap.size ≤ W'.heap.size ∧ ∀ i, B ≤ i → i < W.heap.size → W'.heap[i]? = W.heap[i]?
  | _, _, _ => False
set_option maxHeartbeats 1000000 in
theorem range_all {gop : Operand} {p : Tmp} {assign body : Code} {Q : Exit → Act → World → Prop} {a : Act} {w : World} {nn C bn bk b : Nat} (n k : Int) (f ix : Nat → Nat) (Kp : Nat → World → Prop) (Kx : World → Prop)
    (hnn : 2 ≤ nn) (hix : ∀ j, j < C → ix (f j) = j)
    (hA0 : C = 0 → ∀ w : World, Calls Try.prog 31 #[.int .i64 n, .int .i64 k, .int .i64 0] w fun e w' => e = .returned (.tuple #[.int .u64 0, .int .i64 2]) ∧ Below w.heap.size w w')
    (hA1 : 0 < C → ∀ w : World, Calls Try.prog 31 #[.int .i64 n, .int .i64 k, .int .i64 0] w fun e w' => e = .returned (.tuple #[.int .u64 (f 0 : Nat), .int .i64 0]) ∧ Below w.heap.size w w')
    (hN1 : ∀ j, j + 1 < C → ∀ w : World, Calls Try.prog 23 #[.int .i64 n, .int .u64 (f j : Nat)] w fun e w' => e = .returned (.tuple #[.int .u64 (f (j + 1) : Nat), .bool true]) ∧ Below w.heap.size w w')
    (hN0 : ∀ j, j + 1 = C → ∀ w : World, Calls Try.prog 23 #[.int .i64 n, .int .u64 (f j : Nat)] w fun e w' => e = .returned (.tuple #[.int .u64 0, .bool false]) ∧ Below w.heap.size w w')
    (hg : a.eval gop = .func (.func 39) #[] #[.pointer (some ⟨bn, 0, none⟩), .pointer (some ⟨bk, 0, none⟩)])
    (hKp : ∀ j W W' row, Kp j W → W.grownBy W' row → (∀ g, row = some g → w.heap.size ≤ g) → Kp j W')
    (hKx : ∀ W W' row, Kx W → W.grownBy W' row → (∀ g, row = some g → w.heap.size ≤ g) → Kx W')
    (hKc : ∀ j W, Kp j W → W.cell? ⟨bn, 0, none⟩ = some (.int .i64 n) ∧ W.cell? ⟨bk, 0, none⟩ = some (.int .i64 k))
    (h0 : Kp 0 w) (a₁ : Nat → Act)
    (hassign : ∀ (l s : Nat) (W : World) (K : Act → World → Prop), K (a₁ s) W → assign.wpIn (Fence.wide.inRound l) (nn - 1 - 1) Try.prog (Exit.then K (fun _ _ _ => False)) { tmps := a.tmps.setIfInBounds p (.int .u64 (s : Int)), defers := [] } W)
    (hbody : ∀ (l j : Nat) (W : World), j < C → Kp j W → body.wpIn (Fence.wide.inRound l) (nn - 1 - 1) Try.prog (rndA Kp Kx j b w.heap.size W) (a₁ (f j)) W)
    (hdone : ∀ (D : Nat) (W : World), w.heap.size ≤ D → Kp C W → W.heap[D]? = some (.deferred (some [])) → Q .normal { a with defers := { target := .collected D, args := #[] } :: a.defers } W)
    (hstop : ∀ (D : Nat) (W : World), w.heap.size ≤ D → Kx W → W.heap[D]? = some (.deferred (some [])) → (Code.exit b).wpIn Fence.wide nn Try.prog Q { a with defers := { target := .collected D, args := #[] } :: a.defers } W) :
    (Code.rangeFunc gop #[p] assign body).wpIn Fence.wide nn Try.prog Q a w := by
  refine wpIn_rangeFunc ?_
  intro fn hfn
  obtain ⟨rc, hrc⟩ : ∃ rc : LoopState → Option Code → Loop, rc = fun st pe => { state := st, pending := pe, fn, tmps := a.tmps, params := #[p], assign, body, defers := w.heap.size } := ⟨_, rfl⟩
  obtain ⟨W1, hW1⟩ : ∃ W1, (w.alloc (.deferred (some []))).alloc (.loop (rc .ready none)) = W1 := ⟨_, rfl⟩
  have hs1 : W1.heap.size = w.heap.size + 2 := by rw [← hW1]; simp
  have hL1 : W1.heap[w.heap.size + 1]? = some (.loop (rc .ready none)) := by rw [← hW1]; exact heap_alloc2_new _ _ _
  have hD1 : W1.heap[w.heap.size]? = some (.deferred (some [])) := by rw [← hW1]; exact heap_alloc2_old _ _ _
  have hb1 : Below w.heap.size w W1 := by rw [← hW1]; exact jtwo (jlow _ _) (jlow _ _)
  have hK1 : Kp 0 W1 := hKp 0 w W1 none h0 (jgrown.mpr hb1) (fun g e => by cases e)
  have put : ∀ (W : World) (o : Obj), W.grownBy (W.putObj (w.heap.size + 1) o) (some (w.heap.size + 1)) := fun W o => grownBy_putObj' W (w.heap.size + 1) o
  refine ⟨w.heap.size + 1, [{ target := .collected w.heap.size, args := #[] }], W1, { target := .fn (.func 39) #[.pointer (some ⟨bn, 0, none⟩), .pointer (some ⟨bk, 0, none⟩)], args := #[.func (.yield (w.heap.size + 1)) #[] #[]] }, W1, 39,
    #[.func (.yield (w.heap.size + 1)) #[] #[]] ++ #[.pointer (some ⟨bn, 0, none⟩), .pointer (some ⟨bk, 0, none⟩)], W1, ?_, ?_, ?_, ?_, fun h => (by cases h), ?_⟩
  · rw [← hW1, hrc]; exact run_enterLoop_outer _ _ _ _ _
  · simp only [resolve, hg]
    simp [go_sem]
  · intro f' _; trivial
  · simp [invoke, go_sem]
  · refine (all_in (nn - 1) (w.heap.size + 1) C bn bk n k f ix W1
      (fun j W => Kp j W ∧ W.heap[w.heap.size + 1]? = some (.loop (rc .ready none)) ∧ W.heap[w.heap.size]? = some (.deferred (some [])))
      (fun W => Kx W ∧ W.heap[w.heap.size + 1]? = some (.loop (rc .done (some (.exit b)))) ∧ W.heap[w.heap.size]? = some (.deferred (some [])))
      (by omega) hix hA0 hA1 hN1 hN0 ?_ (fun j W h => hKc j W h.1) ?_ ⟨hK1, hL1, hD1⟩).mono ?_
    · rintro j W W' ⟨h1, h2, h3⟩ hbw
      exact ⟨hKp j W W' none h1 (jgrown.mpr hbw) (fun g e => by cases e), by rw [hbw.block _ (lt_of_block h2)]; exact h2, by rw [hbw.block _ (lt_of_block h3)]; exact h3⟩
    · rintro j W hj ⟨h1, h2, h3⟩
      have l2 := lt_of_block h2
      have hy := run_yield (P := Try.prog) (args := #[.int .u64 (f j : Nat)]) h2 (by rw [hrc]; rfl)
      rw [hrc] at hy
      refine ⟨fn, _, assign, body, hy, roundIn_of_wpIn hfn ?_⟩
      have htm : ((#[p] : Array Tmp).zip #[Value.int .u64 (f j : Nat)]).foldl (fun tmps (t, a) => tmps.setIfInBounds t a) a.tmps = a.tmps.setIfInBounds p (.int .u64 (f j : Nat)) := by simp
      rw [htm]
      refine hassign _ (f j) W _ ?_
      refine ⟨_, run_beginRound h2 (by rw [hrc]), ?_⟩
      obtain ⟨W2, hW2⟩ : ∃ W2, W.putObj (w.heap.size + 1) (.loop { rc .ready none with state := .busy }) = W2 := ⟨_, rfl⟩
      have hg2 : W.grownBy W2 (some (w.heap.size + 1)) := by rw [← hW2]; exact put _ _
      have k2 : Kp j W2 := hKp j W W2 _ h1 hg2 (fun g e => by cases e; omega)
      have h22 : W2.heap[w.heap.size + 1]? = some (.loop { rc .ready none with state := .busy }) := by rw [← hW2]; exact World.putObj_heap_same l2
      have h32 : W2.heap[w.heap.size]? = some (.deferred (some [])) := by rw [hg2.block _ (lt_of_block h3) (fun e => by simp at e)]; exact h3
      rw [hW2]
      refine wpIn_mono (hbody _ j W2 hj k2) ?_
      rintro e a3 W3 hp
      cases e with
      | normal =>
        obtain ⟨hk3, hs3, hbl⟩ := hp
        have hl3 : W3.heap[w.heap.size + 1]? = some (.loop { rc .ready none with state := .busy }) := by rw [hbl _ (by omega) (lt_of_block h22)]; exact h22
        have hd3 : W3.heap[w.heap.size]? = some (.deferred (some [])) := by rw [hbl _ (by omega) (lt_of_block h32)]; exact h32
        have hend := run_endRound (P := Try.prog) none hl3
        refine ⟨_, _, hend, .inl ⟨rfl, hKp (j + 1) W3 _ _ hk3 (put _ _) (fun g e => by cases e; omega), ?_, ?_⟩⟩
        · rw [World.putObj_heap_same (lt_of_block hl3), hrc]; rfl
        · exact (World.putObj_heap_other (by omega)).trans hd3
      | exit id =>
        obtain ⟨rfl, hk3, hs3, hbl⟩ := hp
        have hl3 : W3.heap[w.heap.size + 1]? = some (.loop { rc .ready none with state := .busy }) := by rw [hbl _ (by omega) (lt_of_block h22)]; exact h22
        have hd3 : W3.heap[w.heap.size]? = some (.deferred (some [])) := by rw [hbl _ (by omega) (lt_of_block h32)]; exact h32
        have hend := run_endRound (P := Try.prog) (some (.exit id)) hl3
        refine ⟨_, _, hend, .inr ⟨rfl, hKx W3 _ _ hk3 (put _ _) (fun g e => by cases e; omega), ?_, ?_⟩⟩
        · rw [World.putObj_heap_same (lt_of_block hl3), hrc]; rfl
        · exact (World.putObj_heap_other (by omega)).trans hd3
      | ret => exact hp.elim
      | goto t => exact hp.elim
      | panic ch => exact hp.elim
      | outgrown => exact hp.elim
    · rintro e W2 ⟨⟨v, rfl⟩, (⟨h1, h2, h3⟩ | ⟨h1, h2, h3⟩)⟩
      · refine ⟨none, _, by have := run_endLoop (P := Try.prog) h2 (by rw [hrc]; simp); rw [hrc] at this; exact this, ?_⟩
        exact hdone _ _ (Nat.le_refl _) (hKp C W2 _ _ h1 (put _ _) (fun g e => by cases e; omega)) ((World.putObj_heap_other (by omega)).trans h3)
      · refine ⟨some (.exit b), _, by have := run_endLoop (P := Try.prog) h2 (by rw [hrc]; simp); rw [hrc] at this; exact this, ?_⟩
        exact hstop _ _ (Nat.le_refl _) (hKx W2 _ _ h1 (put _ _) (fun g e => by cases e; omega)) ((World.putObj_heap_other (by omega)).trans h3)
end Go.Proofs.Ytpmhpakjlagfjaa
