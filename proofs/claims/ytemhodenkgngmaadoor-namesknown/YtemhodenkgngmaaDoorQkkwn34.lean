/-
  Stage 13: the walk through a loop over an item's names, which may be left by a return.
-/
import Derived.Test.YtemhodenkgngmaaDoorQkkwn00
import Derived.Test.YtemhodenkgngmaaDoorQkkwn33
set_option maxRecDepth 100000
set_option maxHeartbeats 16000000
namespace Go.Proofs.YtemhodenkgngmaaDoor
open Go.RowKit Go.Shelf
attribute [local go_sem] Oper.semAt_some
/-- How a round's body may be left: it goes on, or it returns. -/
def rndU (Kp : Nat → World → Prop) (Kx : World → Prop) (j B : Nat) (W : World) : Exit → Act → World → Prop
 | .normal, _, W' => Kp (j + 1) W' ∧ W.heap.size ≤ W'.heap.size ∧ ∀ i, B ≤ i → i < W.heap.size → W'.heap[i]? = W.heap[i]?
 | .ret, _, W' => Kx W' ∧ W.heap.size ≤ W'.heap.size ∧ ∀ i, B ≤ i → i < W.heap.size → W'.heap[i]? = W.heap[i]?
 | _, _, _ => False
theorem qaw {a b : World} {g s : Nat} (h : a.grownBy b (some g)) (hg : g < s) : Ak s a b := ⟨h.size, fun c hc hl => h.block c hl (fun e => by cases e; omega)⟩
theorem qe6 {gop : Operand} {p : Tmp} {assign body : Code} {Q : Exit → Act → World → Prop} {a : Act} {w : World} {nn bx : Nat} (U : List Us) (Kp : Nat → World → Prop) (Kx : World → Prop)
  (hit : ∀ (l s : Nat) (T : Nat → World → Prop) (Tx : World → Prop) (W1 : World), Itx l w s U T Tx → T 0 W1 → Calls Tryd.prog 35 #[.func (.yield l) #[] #[], .pointer (some ⟨bx, 0, none⟩)] W1 fun e W' => (∃ v, e = .returned v) ∧ (T U.length W' ∨ Tx W'))
  (hg : a.eval gop = .func (.func 35) #[] #[.pointer (some ⟨bx, 0, none⟩)])
  (hKl : ∀ j W, Kp j W → Below w.heap.size w W)
  (hKp : ∀ j W W' row, Kp j W → W.grownBy W' row → (∀ g, row = some g → w.heap.size ≤ g) → Kp j W')
  (hKx : ∀ W W' row, Kx W → W.grownBy W' row → (∀ g, row = some g → w.heap.size ≤ g) → Kx W')
  (h0 : Kp 0 w) (Ax : Us → Act → World → Prop)
  (hAx : ∀ u a' W W', Ax u a' W → W.grownBy W' (some (w.heap.size + 1)) → Ax u a' W')
  (hassign : ∀ (l : Nat) (u : Us) (W : World) (K : Act → World → Prop), w.heap.size + 2 ≤ W.heap.size → (∀ a' Wa, Below W.heap.size W Wa → Ax u a' Wa → K a' Wa) → assign.wpIn (Fence.wide.inRound l) (nn - 1 - 1) Tryd.prog (Exit.then K (fun _ _ _ => False)) { tmps := a.tmps.setIfInBounds p (usV u), defers := [] } W)
  (hbody : ∀ (l j : Nat) (u : Us) (a' : Act) (W : World), U[j]? = some u → Kp j W → Ax u a' W → body.wpIn (Fence.wide.inRound l) (nn - 1 - 1) Tryd.prog (rndU Kp Kx j w.heap.size W) a' W)
  (hdone : ∀ (D : Nat) (W : World), w.heap.size ≤ D → Kp U.length W → W.heap[D]? = some (.deferred (some [])) → Q .normal { a with defers := { target := .collected D, args := #[] } :: a.defers } W)
  (hstop : ∀ (D : Nat) (W : World), w.heap.size ≤ D → Kx W → W.heap[D]? = some (.deferred (some [])) → Code.ret.wpIn Fence.wide nn Tryd.prog Q { a with defers := { target := .collected D, args := #[] } :: a.defers } W) :
  (Code.rangeFunc gop #[p] assign body).wpIn Fence.wide nn Tryd.prog Q a w := by
 refine wpIn_rangeFunc ?_
 intro fn hfn
 obtain ⟨rc, hrc⟩ : ∃ rc : LoopState → Option Code → Loop, rc = fun st pe => { state := st, pending := pe, fn, tmps := a.tmps, params := #[p], assign, body, defers := w.heap.size } := ⟨_, rfl⟩
 obtain ⟨W1, hW1⟩ : ∃ W1, (w.alloc (.deferred (some []))).alloc (.loop (rc .ready none)) = W1 := ⟨_, rfl⟩
 have hs1 : W1.heap.size = w.heap.size + 2 := by rw [← hW1]; simp
 have hL1 : W1.heap[w.heap.size + 1]? = some (.loop (rc .ready none)) := by rw [← hW1]; exact heap_alloc2_new _ _ _
 have hD1 : W1.heap[w.heap.size]? = some (.deferred (some [])) := by rw [← hW1]; exact heap_alloc2_old _ _ _
 have hb1 : Below w.heap.size w W1 := by rw [← hW1]; exact jtwo (jlow _ _) (jlow _ _)
 have hK1 : Kp 0 W1 := hKp 0 w W1 none h0 (jgrown.mpr hb1) (fun g e => by cases e)
 have put : ∀ (W : World) (o : Obj), W.grownBy (W.putObj (w.heap.size + 1) o) (some (w.heap.size + 1)) := fun W o => grownBy_putObj' W (w.heap.size + 1) o
 refine ⟨w.heap.size + 1, [{ target := .collected w.heap.size, args := #[] }], W1, { target := .fn (.func 35) #[.pointer (some ⟨bx, 0, none⟩)], args := #[.func (.yield (w.heap.size + 1)) #[] #[]] }, W1, 35,
  #[.func (.yield (w.heap.size + 1)) #[] #[]] ++ #[.pointer (some ⟨bx, 0, none⟩)], W1, ?_, ?_, ?_, ?_, fun h => (by cases h), ?_⟩
 ·rw [← hW1, hrc]; exact run_enterLoop_outer _ _ _ _ _
 ·simp only [resolve, hg]
  simp [go_sem]
 ·intro f' _; trivial
 ·simp [invoke, go_sem]
 ·refine (callsIn_wide.2 (hit (w.heap.size + 1) (w.heap.size + 2)
   (fun j W => Kp j W ∧ W.heap[w.heap.size + 1]? = some (.loop (rc .ready none)) ∧ W.heap[w.heap.size]? = some (.deferred (some [])) ∧ w.heap.size + 2 ≤ W.heap.size)
   (fun W => Kx W ∧ W.heap[w.heap.size + 1]? = some (.loop (rc .done (some .ret))) ∧ W.heap[w.heap.size]? = some (.deferred (some []))) W1 ?_ ⟨hK1, hL1, hD1, by omega⟩)).mono ?_
  ·refine ⟨fun j W h => hKl j W h.1, fun j W h => h.2.2.2, ?_, ?_⟩
   ·rintro j W W' ⟨h1, h2, h3, h4⟩ hbw
    exact ⟨hKp j W W' none h1 (jgrown.mpr hbw) (fun g e => by cases e), by rw [hbw.block _ (lt_of_block h2)]; exact h2, by rw [hbw.block _ (lt_of_block h3)]; exact h3, by have := hbw.size; omega⟩
   ·rintro j u W hu ⟨h1, h2, h3, h4⟩
    have l2 := lt_of_block h2
    have hy := run_yield (P := Tryd.prog) (args := #[usV u]) h2 (by rw [hrc]; rfl)
    rw [hrc] at hy
    refine ⟨fn, _, assign, body, hy, fun m => qcq (m := nn - 1 - 1) (roundIn_of_wpIn hfn ?_)⟩
    have htm : ((#[p] : Array Tmp).zip #[usV u]).foldl (fun tmps (t, a) => tmps.setIfInBounds t a) a.tmps = a.tmps.setIfInBounds p (usV u) := by simp
    rw [htm]
    refine hassign _ u W _ h4 ?_
    intro a' Wa hba hax
    have h2a : Wa.heap[w.heap.size + 1]? = some (.loop (rc .ready none)) := by rw [hba.block _ l2]; exact h2
    have h3a : Wa.heap[w.heap.size]? = some (.deferred (some [])) := by rw [hba.block _ (lt_of_block h3)]; exact h3
    have k1a : Kp j Wa := hKp j W Wa none h1 (jgrown.mpr hba) (fun g e => by cases e)
    have l2a := lt_of_block h2a
    refine ⟨_, run_beginRound h2a (by rw [hrc]), ?_⟩
    obtain ⟨W2, hW2⟩ : ∃ W2, Wa.putObj (w.heap.size + 1) (.loop { rc .ready none with state := .busy }) = W2 := ⟨_, rfl⟩
    have hg2 : Wa.grownBy W2 (some (w.heap.size + 1)) := by rw [← hW2]; exact put _ _
    have k2 : Kp j W2 := hKp j Wa W2 _ k1a hg2 (fun g e => by cases e; omega)
    have h22 : W2.heap[w.heap.size + 1]? = some (.loop { rc .ready none with state := .busy }) := by rw [← hW2]; exact World.putObj_heap_same l2a
    have h32 : W2.heap[w.heap.size]? = some (.deferred (some [])) := by rw [hg2.block _ (lt_of_block h3a) (fun e => by simp at e)]; exact h3a
    rw [hW2]
    have hk2 : Ak (w.heap.size + 2) W W2 := (Ak.of hba).trans (qaw hg2 (by omega))
    refine wpIn_mono (hbody _ j u a' W2 hu k2 (hAx u a' Wa W2 hax hg2)) ?_
    rintro e a3 W3 hp
    cases e with
    | normal =>
     obtain ⟨hk3, hs3, hbl⟩ := hp
     have hl3 : W3.heap[w.heap.size + 1]? = some (.loop { rc .ready none with state := .busy }) := by rw [hbl _ (by omega) (lt_of_block h22)]; exact h22
     have hd3 : W3.heap[w.heap.size]? = some (.deferred (some [])) := by rw [hbl _ (by omega) (lt_of_block h32)]; exact h32
     have hend := run_endRound (P := Tryd.prog) none hl3
     have hs4 : w.heap.size + 2 ≤ W3.heap.size := by have := hk2.size; omega
     refine ⟨_, _, hend, .inl ⟨rfl, ⟨hKp (j + 1) W3 _ _ hk3 (put _ _) (fun g e => by cases e; omega), ?_, ?_, ?_⟩, ?_⟩⟩
     ·rw [World.putObj_heap_same (lt_of_block hl3), hrc]; rfl
     ·exact (World.putObj_heap_other (by omega)).trans hd3
     ·exact Nat.le_trans hs4 (put W3 _).size
     ·exact (hk2.trans ⟨hs3, fun b hb hl => hbl b (by omega) hl⟩).trans (qaw (put W3 _) (by omega))
    | ret =>
     obtain ⟨hk3, hs3, hbl⟩ := hp
     have hl3 : W3.heap[w.heap.size + 1]? = some (.loop { rc .ready none with state := .busy }) := by rw [hbl _ (by omega) (lt_of_block h22)]; exact h22
     have hd3 : W3.heap[w.heap.size]? = some (.deferred (some [])) := by rw [hbl _ (by omega) (lt_of_block h32)]; exact h32
     have hend := run_endRound (P := Tryd.prog) (some .ret) hl3
     refine ⟨_, _, hend, .inr ⟨rfl, hKx W3 _ _ hk3 (put _ _) (fun g e => by cases e; omega), ?_, ?_⟩⟩
     ·rw [World.putObj_heap_same (lt_of_block hl3), hrc]; rfl
     ·exact (World.putObj_heap_other (by omega)).trans hd3
    | exit id => exact hp.elim
    | goto t => exact hp.elim
    | panic ch => exact hp.elim
    | outgrown => exact hp.elim
  ·rintro e W2 ⟨⟨v, rfl⟩, (⟨h1, h2, h3, _⟩ | ⟨h1, h2, h3⟩)⟩
   ·refine ⟨none, _, by have := run_endLoop (P := Tryd.prog) h2 (by rw [hrc]; simp); rw [hrc] at this; exact this, ?_⟩
    exact hdone _ _ (Nat.le_refl _) (hKp U.length W2 _ _ h1 (put _ _) (fun g e => by cases e; omega)) ((World.putObj_heap_other (by omega)).trans h3)
   ·refine ⟨some .ret, _, by have := run_endLoop (P := Tryd.prog) h2 (by rw [hrc]; simp); rw [hrc] at this; exact this, ?_⟩
    exact hstop _ _ (Nat.le_refl _) (hKx W2 _ _ h1 (put _ _) (fun g e => by cases e; omega)) ((World.putObj_heap_other (by omega)).trans h3)
end Go.Proofs.YtemhodenkgngmaaDoor
