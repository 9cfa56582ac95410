/-
  Stage 19: the law for a range over local.others' sets, which may be left by a break or a return.
  Stage 19: local.others tells every set of the size that has not b.
-/
import Derived.Test.YtblagbghpfopcaaGreatQllst00
import Derived.Test.YtblagbghpfopcaaGreatQllst45
set_option maxRecDepth 100000
set_option maxHeartbeats 16000000
namespace Go.Proofs.YtblagbghpfopcaaGreat
open Go.RowKit Go.Shelf
attribute [local go_sem] Oper.semAt_some
theorem qgz {gop : Operand} {p : Tmp} {assign body : Code} {Q : Exit → Act → World → Prop} {a : Act} {w : World} {nn C bn bk bb n b : Nat} (k : Int) (f ix G : Nat → Nat) (Kp : Nat → World → Prop) (Kx : Code → World → Prop) (hn1 : 1 ≤ n) (hn : n ≤ 64) (hb : b < n)
  (AF : AllF ((n : Int) - 1) k C f ix) (hG : ∀ j, j < C → OthG b (f j) (G j))
  (hg : a.eval gop = .func (.func 76) #[] #[.pointer (some ⟨bn, 0, none⟩), .pointer (some ⟨bk, 0, none⟩), .pointer (some ⟨bb, 0, none⟩)])
  (hKp : ∀ j W W', Kp j W → Below w.heap.size W W' → Kp j W') (hKx : ∀ c W W', Kx c W → Below w.heap.size W W' → Kx c W')
  (hKc : ∀ j W, Kp j W → W.cell? ⟨bn, 0, none⟩ = some (.int .i64 (n : Int)) ∧ W.cell? ⟨bk, 0, none⟩ = some (.int .i64 k) ∧ W.cell? ⟨bb, 0, none⟩ = some (.int .i64 (b : Int)))
  (h0 : Kp 0 w) (a₁ : Nat → Act)
  (hassign : ∀ (q l s : Nat) (W : World) (K : Act → World → Prop), K (a₁ s) W → assign.wpIn (Fence.wide.inRound l) q Tryz.prog (Exit.then K (fun _ _ _ => False)) { tmps := a.tmps.setIfInBounds p (.int .u64 (s : Int)), defers := [] } W)
  (hbody : ∀ (q l j : Nat) (W : World), j < C → Kp j W → body.wpIn (Fence.wide.inRound l) q Tryz.prog (rndR Kp Kx j w.heap.size W) (a₁ (G j)) W)
  (hdone : ∀ (D : Nat) (W : World), w.heap.size ≤ D → Kp C W → W.heap[D]? = some (.deferred (some [])) → Q .normal { a with defers := { target := .collected D, args := #[] } :: a.defers } W)
  (hstop : ∀ (D : Nat) (c : Code) (W : World), w.heap.size ≤ D → Kx c W → W.heap[D]? = some (.deferred (some [])) → c.wpIn Fence.wide nn Tryz.prog Q { a with defers := { target := .collected D, args := #[] } :: a.defers } W) :
  (Code.rangeFunc gop #[p] assign body).wpIn Fence.wide nn Tryz.prog Q a w := by
 refine wpIn_rangeFunc ?_
 intro fn hfn
 obtain ⟨rc, hrc⟩ : ∃ rc : LoopState → Option Code → Loop, rc = fun st pe => { state := st, pending := pe, fn, tmps := a.tmps, params := #[p], assign, body, defers := w.heap.size } := ⟨_, rfl⟩
 obtain ⟨W1, hW1⟩ : ∃ W1, (w.alloc (.deferred (some []))).alloc (.loop (rc .ready none)) = W1 := ⟨_, rfl⟩
 have hs1 : W1.heap.size = w.heap.size + 2 := by rw [← hW1]; simp
 have hL1 : W1.heap[w.heap.size + 1]? = some (.loop (rc .ready none)) := by rw [← hW1]; exact heap_alloc2_new _ _ _
 have hD1 : W1.heap[w.heap.size]? = some (.deferred (some [])) := by rw [← hW1]; exact heap_alloc2_old _ _ _
 have hb1 : Below w.heap.size w W1 := by rw [← hW1]; exact jtwo (jlow _ _) (jlow _ _)
 have hK1 : Kp 0 W1 := hKp 0 w W1 h0 hb1
 have put : ∀ (W : World) (o : Obj), W.grownBy (W.putObj (w.heap.size + 1) o) (some (w.heap.size + 1)) := fun W o => grownBy_putObj' W (w.heap.size + 1) o
 have putB : ∀ (W : World) (o : Obj), w.heap.size ≤ W.heap.size → Below w.heap.size W (W.putObj (w.heap.size + 1) o) := fun W o h => jbelow (put W o) h (fun g e => by have h := Option.some.inj e; omega)
 refine ⟨w.heap.size + 1, [{ target := .collected w.heap.size, args := #[] }], W1, { target := .fn (.func 76) #[.pointer (some ⟨bn, 0, none⟩), .pointer (some ⟨bk, 0, none⟩), .pointer (some ⟨bb, 0, none⟩)], args := #[.func (.yield (w.heap.size + 1)) #[] #[]] }, W1, 76,
  #[.func (.yield (w.heap.size + 1)) #[] #[]] ++ #[.pointer (some ⟨bn, 0, none⟩), .pointer (some ⟨bk, 0, none⟩), .pointer (some ⟨bb, 0, none⟩)], W1, ?_, ?_, ?_, ?_, fun h => (by cases h), ?_⟩
 ·rw [← hW1, hrc]; exact run_enterLoop_outer _ _ _ _ _
 ·simp only [resolve, hg]
  simp [go_sem]
 ·intro f' _; trivial
 ·simp [invoke, go_sem]
 ·refine (qmd (nn - 1) (w.heap.size + 1) C bn bk bb n b k f ix G W1
   (fun j W => Kp j W ∧ W.heap[w.heap.size + 1]? = some (.loop (rc .ready none)) ∧ W.heap[w.heap.size]? = some (.deferred (some [])))
   (fun W => ∃ c, Kx c W ∧ W.heap[w.heap.size + 1]? = some (.loop (rc .done (some c))) ∧ W.heap[w.heap.size]? = some (.deferred (some [])))
   hn1 hn hb AF hG (fun j W h => hKc j W h.1) ?_ ?_ ?_ ?_ ?_ ⟨hK1, hL1, hD1⟩).mono ?_
  ·rintro j W W' ⟨h1, h2, h3⟩ hbw
   rw [hs1] at hbw
   exact ⟨hKp j W W' h1 (hbw.mono (by omega)), by rw [hbw.block _ (by omega)]; exact h2, by rw [hbw.block _ (by omega)]; exact h3⟩
  ·rintro W W' ⟨c, h1, h2, h3⟩ hbw
   rw [hs1] at hbw
   exact ⟨c, hKx c W W' h1 (hbw.mono (by omega)), by rw [hbw.block _ (by omega)]; exact h2, by rw [hbw.block _ (by omega)]; exact h3⟩
  ·rintro j W ⟨_, h2, _⟩
   have := lt_of_block h2
   omega
  ·rintro W ⟨c, _, h2, _⟩
   have := lt_of_block h2
   omega
  ·rintro q j W hj ⟨h1, h2, h3⟩
   have l2 := lt_of_block h2
   have hy := run_yield (P := Tryz.prog) (args := #[.int .u64 (G j : Nat)]) h2 (by rw [hrc]; rfl)
   rw [hrc] at hy
   refine ⟨fn, _, assign, body, hy, roundIn_of_wpIn hfn ?_⟩
   have htm : ((#[p] : Array Tmp).zip #[Value.int .u64 (G j : Nat)]).foldl (fun tmps (t, a) => tmps.setIfInBounds t a) a.tmps = a.tmps.setIfInBounds p (.int .u64 (G j : Nat)) := by simp
   rw [htm]
   refine hassign _ _ (G j) W _ ?_
   refine ⟨_, run_beginRound h2 (by rw [hrc]), ?_⟩
   obtain ⟨W2, hW2⟩ : ∃ W2, W.putObj (w.heap.size + 1) (.loop { rc .ready none with state := .busy }) = W2 := ⟨_, rfl⟩
   have hg2 : W.grownBy W2 (some (w.heap.size + 1)) := by rw [← hW2]; exact put _ _
   have hz2 : W2.heap.size = W.heap.size := by rw [← hW2]; simp
   have k2 : Kp j W2 := hKp j W W2 h1 (by rw [← hW2]; exact putB W _ (by omega))
   have h22 : W2.heap[w.heap.size + 1]? = some (.loop { rc .ready none with state := .busy }) := by rw [← hW2]; exact World.putObj_heap_same l2
   have h32 : W2.heap[w.heap.size]? = some (.deferred (some [])) := by rw [hg2.block _ (lt_of_block h3) (fun e => by simp at e)]; exact h3
   rw [hW2]
   refine wpIn_mono (hbody _ _ j W2 hj k2) ?_
   rintro e a3 W3 hp
   have keep : ∀ (o : Obj), (∀ i, w.heap.size ≤ i → i < W2.heap.size → W3.heap[i]? = W2.heap[i]?) → W2.heap.size ≤ W3.heap.size → W.heap.size ≤ (W3.putObj (w.heap.size + 1) o).heap.size ∧ ∀ i, W1.heap.size ≤ i → i < W.heap.size → (W3.putObj (w.heap.size + 1) o).heap[i]? = W.heap[i]? := fun o hbl hs3 => by
    refine ⟨by have := (put W3 o).size; omega, fun i hi hi2 => ?_⟩
    rw [(put W3 o).block i (by omega) (fun e => by have h := Option.some.inj e; omega), hbl i (by omega) (by omega), hg2.block i hi2 (fun e => by have h := Option.some.inj e; omega)]
   cases e with
   | normal =>
    obtain ⟨hk3, hs3, hbl⟩ := hp
    have hl3 : W3.heap[w.heap.size + 1]? = some (.loop { rc .ready none with state := .busy }) := by rw [hbl _ (by omega) (lt_of_block h22)]; exact h22
    have hd3 : W3.heap[w.heap.size]? = some (.deferred (some [])) := by rw [hbl _ (by omega) (lt_of_block h32)]; exact h32
    have hend := run_endRound (P := Tryz.prog) none hl3
    refine ⟨_, _, hend, .inl ⟨rfl, hKp (j + 1) W3 _ hk3 (putB W3 _ (by omega)), ?_, ?_⟩, keep _ hbl hs3⟩
    ·rw [World.putObj_heap_same (lt_of_block hl3), hrc]; rfl
    ·exact (World.putObj_heap_other (by omega)).trans hd3
   | exit id =>
    obtain ⟨hk3, hs3, hbl⟩ := hp
    have hl3 : W3.heap[w.heap.size + 1]? = some (.loop { rc .ready none with state := .busy }) := by rw [hbl _ (by omega) (lt_of_block h22)]; exact h22
    have hd3 : W3.heap[w.heap.size]? = some (.deferred (some [])) := by rw [hbl _ (by omega) (lt_of_block h32)]; exact h32
    have hend := run_endRound (P := Tryz.prog) (some (.exit id)) hl3
    refine ⟨_, _, hend, .inr ⟨rfl, _, hKx _ W3 _ hk3 (putB W3 _ (by omega)), ?_, ?_⟩, keep _ hbl hs3⟩
    ·rw [World.putObj_heap_same (lt_of_block hl3), hrc]; rfl
    ·exact (World.putObj_heap_other (by omega)).trans hd3
   | ret =>
    obtain ⟨hk3, hs3, hbl⟩ := hp
    have hl3 : W3.heap[w.heap.size + 1]? = some (.loop { rc .ready none with state := .busy }) := by rw [hbl _ (by omega) (lt_of_block h22)]; exact h22
    have hd3 : W3.heap[w.heap.size]? = some (.deferred (some [])) := by rw [hbl _ (by omega) (lt_of_block h32)]; exact h32
    have hend := run_endRound (P := Tryz.prog) (some .ret) hl3
    refine ⟨_, _, hend, .inr ⟨rfl, _, hKx _ W3 _ hk3 (putB W3 _ (by omega)), ?_, ?_⟩, keep _ hbl hs3⟩
    ·rw [World.putObj_heap_same (lt_of_block hl3), hrc]; rfl
    ·exact (World.putObj_heap_other (by omega)).trans hd3
   | goto t => exact hp.elim
   | panic ch => exact hp.elim
   | outgrown => exact hp.elim
  ·rintro e W2 ⟨⟨v, rfl⟩, (⟨h1, h2, h3⟩ | ⟨c, h1, h2, h3⟩)⟩
   ·have l2 := lt_of_block h2
    refine ⟨none, _, by have := run_endLoop (P := Tryz.prog) h2 (by rw [hrc]; simp); rw [hrc] at this; exact this, ?_⟩
    exact hdone _ _ (Nat.le_refl _) (hKp C W2 _ h1 (putB W2 _ (by omega))) ((World.putObj_heap_other (by omega)).trans h3)
   ·have l2 := lt_of_block h2
    refine ⟨some c, _, by have := run_endLoop (P := Tryz.prog) h2 (by rw [hrc]; simp); rw [hrc] at this; exact this, ?_⟩
    exact hstop _ c _ (Nat.le_refl _) (hKx c W2 _ h1 (putB W2 _ (by omega))) ((World.putObj_heap_other (by omega)).trans h3)
open Go.RowKit Go.Shelf
/-- At the least number that not both have, s has it and t has not. -/
def Lex (s t : Nat) : Prop := ∃ i, (∀ j, j < i → bt s j = bt t j) ∧ bt s i = 1 ∧ bt t i = 0
theorem qey (s : Nat) : bt s 0 = s % 2 := by unfold bt; rw [Nat.pow_zero, Nat.div_one]
theorem qme : ∀ l s t, s < 2 ^ l → cn s l = cn t l → Lex s t → pla s l < pla t l := by
 intro l
 induction l with
 | zero =>
  rintro s t hs _ ⟨i, _, h1, _⟩
  have : s = 0 := by rw [Nat.pow_zero] at hs; omega
  subst this
  unfold bt at h1
  rw [Nat.zero_div] at h1
  omega
 | succ l ih =>
  rintro s t hs hc ⟨i, hlow, h1, h2⟩
  cases i with
  | zero =>
   rw [qey] at h1 h2
   rw [qbj h1, qb1 h2, ← hc, qc8 h1]
   have := qgp l (s / 2)
   show _ < bin l (cn (s / 2) l) + _
   omega
  | succ i =>
   have h0 := hlow 0 (by omega)
   rw [qey, qey] at h0
   have hx : Lex (s / 2) (t / 2) := ⟨i, fun j hj => by rw [qes, qes]; exact hlow (j + 1) (by omega), by rw [qes]; exact h1, by rw [qes]; exact h2⟩
   have hs2 : s / 2 < 2 ^ l := by rw [Nat.pow_succ] at hs; omega
   rcases (by omega : s % 2 = 1 ∨ s % 2 = 0) with e | e
   ·have e2 : t % 2 = 1 := by omega
    rw [qc8 e, qc8 e2] at hc
    rw [qbj e, qbj e2]
    exact ih _ _ hs2 (by omega) hx
   ·have e2 : t % 2 = 0 := by omega
    rw [qb1 e, qb1 e2, hc]
    rw [qbn e, qbn e2] at hc
    have := ih _ _ hs2 hc hx
    omega
theorem qmf {s t : Nat} (h : s ≠ t) : Lex s t ∨ Lex t s := by
 have hex : ∃ i, bt s i ≠ bt t i := by
  apply Classical.byContradiction
  intro hn
  exact h (qiq (fun i => by
   have : bt s i = bt t i := Classical.byContradiction (fun e => hn ⟨i, e⟩)
   rw [this]))
 obtain ⟨i, hi, hlow⟩ : ∃ i, bt s i ≠ bt t i ∧ ∀ j, j < i → bt s j = bt t j := by
  obtain ⟨i, hi⟩ := hex
  induction i using Nat.strongRecOn with
  | _ i ih =>
   by_cases hl : ∀ j, j < i → bt s j = bt t j
   ·exact ⟨i, hi, hl⟩
   ·obtain ⟨j, hj⟩ := Classical.not_forall.mp hl
    obtain ⟨hj1, hj2⟩ := Classical.not_imp.mp hj
    exact ih j hj1 hj2
 have h1 := qcm s i
 have h2 := qcm t i
 rcases (by omega : (bt s i = 1 ∧ bt t i = 0) ∨ (bt t i = 1 ∧ bt s i = 0)) with h3 | h3
 ·exact .inl ⟨i, hlow, h3⟩
 ·exact .inr ⟨i, fun j hj => (hlow j hj).symm, h3⟩
/-- g is s, with the numbers from b on raised by one. -/
def Rsd (b s g : Nat) : Prop := ∀ i, bt g i = 1 ↔ (i < b ∧ bt s i = 1) ∨ (b < i ∧ bt s (i - 1) = 1)
theorem Rsd.none {b s g : Nat} (h : Rsd b s g) : ¬ bt g b = 1 := fun e => by
 rcases (h b).1 e with h1 | h1 <;> omega
theorem Rsd.low {b s g : Nat} (h : Rsd b s g) : cn g b = cn s b := qhi b (fun i hi => by
 rw [h i]
 exact ⟨fun h1 => h1.elim (fun h2 => h2.2) (fun h2 => by omega), fun h1 => .inl ⟨hi, h1⟩⟩)
theorem Rsd.num {b s g : Nat} (h : Rsd b s g) : ∀ d, cn g (b + d + 1) = cn s (b + d) := by
 intro d
 induction d with
 | zero =>
  show cn g (b + 1) = cn s b
  rw [qak, h.low, qas h.none]
  rfl
 | succ d ih =>
  rw [show b + (d + 1) + 1 = (b + d + 1) + 1 by omega, qak, ih, show b + (d + 1) = (b + d) + 1 by omega, qak]
  have e : bt g (b + d + 1) = 1 ↔ bt s (b + d) = 1 := by
   rw [h (b + d + 1)]
   exact ⟨fun h1 => h1.elim (fun h2 => by omega) (fun h2 => h2.2), fun h1 => .inr ⟨by omega, h1⟩⟩
  have h1 := qcm g (b + d + 1)
  have h2 := qcm s (b + d)
  by_cases h3 : bt s (b + d) = 1
  ·rw [h3, e.2 h3]
  ·have h4 : ¬ bt g (b + d + 1) = 1 := fun h5 => h3 (e.1 h5)
   omega
theorem Rsd.lt {b s g n : Nat} (h : Rsd b s g) (hb : b < n) (hs : s < 2 ^ (n - 1)) : g < 2 ^ n := by
 refine Nat.lt_pow_two_of_testBit _ (fun i hi => ?_)
 have : ¬ bt g i = 1 := fun e => by
  rcases (h i).1 e with h1 | h1
  ·omega
  ·have := qdd hs (show n - 1 ≤ i - 1 by omega)
   omega
 rw [qat] at this
 simpa using this
theorem Rsd.same {b s t g u i : Nat} (hg : Rsd b s g) (hu : Rsd b t u) (h : (i < b → bt s i = bt t i) ∧ (b < i → bt s (i - 1) = bt t (i - 1))) : bt g i = bt u i := by
 have e : bt g i = 1 ↔ bt u i = 1 := by
  rw [hg i, hu i]
  constructor
  ·rintro (⟨h1, h2⟩ | ⟨h1, h2⟩)
   ·exact .inl ⟨h1, by rw [← h.1 h1]; exact h2⟩
   ·exact .inr ⟨h1, by rw [← h.2 h1]; exact h2⟩
  ·rintro (⟨h1, h2⟩ | ⟨h1, h2⟩)
   ·exact .inl ⟨h1, by rw [h.1 h1]; exact h2⟩
   ·exact .inr ⟨h1, by rw [h.2 h1]; exact h2⟩
 have h1 := qcm g i
 have h2 := qcm u i
 by_cases h3 : bt u i = 1
 ·rw [h3, e.2 h3]
 ·have h4 : ¬ bt g i = 1 := fun h5 => h3 (e.1 h5)
  omega
theorem Rsd.lex {b s t g u : Nat} (hg : Rsd b s g) (hu : Rsd b t u) (h : Lex s t) : Lex g u := by
 obtain ⟨i, hlow, h1, h2⟩ := h
 by_cases hi : i < b
 ·refine ⟨i, fun j hj => hg.same hu ⟨fun _ => hlow j hj, fun h => by omega⟩, (hg i).2 (.inl ⟨hi, h1⟩), qas (fun e => ?_)⟩
  rcases (hu i).1 e with h3 | h3
  ·omega
  ·omega
 ·refine ⟨i + 1, fun j hj => hg.same hu ⟨fun h => hlow j (by omega), fun h => hlow (j - 1) (by omega)⟩, (hg (i + 1)).2 (.inr ⟨by omega, h1⟩), qas (fun e => ?_)⟩
  rcases (hu (i + 1)).1 e with h3 | h3
  ·omega
  ·have : i + 1 - 1 = i := by omega
   rw [this] at h3
   omega
theorem rsd_ex {b t n : Nat} (hb : b < n) (ht : t < 2 ^ n) (h : ¬ bt t b = 1) : ∃ s, s < 2 ^ (n - 1) ∧ Rsd b s t := by
 refine ⟨(t % 2 ^ b) ||| (t / 2 ^ (b + 1)) * 2 ^ b, ?_, ?_⟩
 ·refine Nat.or_lt_two_pow (Nat.lt_of_lt_of_le (Nat.mod_lt _ (Nat.two_pow_pos b)) (Nat.pow_le_pow_right (by decide) (by omega))) ?_
  have h1 : t / 2 ^ (b + 1) < 2 ^ (n - 1 - b) := by
   rw [Nat.div_lt_iff_lt_mul (Nat.two_pow_pos _), ← Nat.pow_add, show n - 1 - b + (b + 1) = n by omega]
   exact ht
  have h2 := (Nat.mul_lt_mul_right (Nat.two_pow_pos b)).2 h1
  rw [← Nat.pow_add, show n - 1 - b + b = n - 1 by omega] at h2
  exact h2
 ·have hq : ∀ j, bt ((t % 2 ^ b) ||| (t / 2 ^ (b + 1)) * 2 ^ b) j = 1 ↔ (j < b ∧ bt t j = 1) ∨ (b ≤ j ∧ bt t (j + 1) = 1) := fun j => by
   rw [qbo, qls]
   have e : bt ((t / 2 ^ (b + 1)) * 2 ^ b) j = 1 ↔ b ≤ j ∧ bt t (j + 1) = 1 := by
    rw [← Nat.shiftLeft_eq, qat, Nat.testBit_shiftLeft, qat, Nat.testBit_div_two_pow]
    simp only [Bool.and_eq_true, decide_eq_true_eq]
    constructor
    ·rintro ⟨h1, h2⟩
     rw [show j - b + (b + 1) = j + 1 by omega] at h2
     exact ⟨h1, h2⟩
    ·rintro ⟨h1, h2⟩
     refine ⟨h1, ?_⟩
     rw [show j - b + (b + 1) = j + 1 by omega]
     exact h2
   rw [e]
  intro i
  rw [hq i, hq (i - 1)]
  constructor
  ·intro h1
   rcases Nat.lt_trichotomy i b with h2 | h2 | h2
   ·exact .inl ⟨h2, .inl ⟨h2, h1⟩⟩
   ·subst h2; exact (h h1).elim
   ·refine .inr ⟨h2, .inr ⟨by omega, ?_⟩⟩
    rw [show i - 1 + 1 = i by omega]
    exact h1
  ·rintro (⟨h1, (h2 | h2)⟩ | ⟨h1, (h2 | h2)⟩)
   ·exact h2.2
   ·omega
   ·omega
   ·rw [show i - 1 + 1 = i by omega] at h2
    exact h2.2
/-- The sets that others tells: all of the size that have not b, each once. -/
structure OthA (n b k C : Nat) (f ix G : Nat → Nat) : Prop where
 all : AllF ((n : Int) - 1) (k : Int) C f ix
 cnt : C = bin (n - 1) k
 is : ∀ j, j < C → OthG b (f j) (G j)
 lt : ∀ j, j < C → G j < 2 ^ n
 none : ∀ j, j < C → ¬ bt (G j) b = 1
 size : ∀ j, j < C → cn (G j) n = k
 ord : ∀ i j, i < j → j < C → pla (G i) n < pla (G j) n
 every : ∀ t, t < 2 ^ n → ¬ bt t b = 1 → cn t n = k → ∃ j, j < C ∧ G j = t
theorem oth_all (n b k : Nat) (hn : n ≤ 64) (hb : b < n) (hk : k < n) : ∃ (C : Nat) (f ix G : Nat → Nat), OthA n b k C f ix G := by
 obtain ⟨m, rfl⟩ : ∃ m, n = m + 1 := ⟨n - 1, by omega⟩
 have hp := ql7 m k (by omega)
 have e1 : ((m + 1 : Nat) : Int) - 1 = (m : Int) := by omega
 have h63 : ∀ j, aset m k j < 9223372036854775808 := fun j => Nat.lt_of_lt_of_le (qbk m k j) (Nat.pow_le_pow_right (n := 2) (j := 63) (by decide) (by omega))
 have hex : ∀ j, ∃ g, OthG b (aset m k j) g ∧ Rsd b (aset m k j) g := fun j => by
  obtain ⟨z, z1, lo, hi, h2, g, q1, q2, q3, q4, q5, q6, q7⟩ := oth_ops (h63 j) (show b < 64 by omega)
  exact ⟨g, ⟨z, z1, lo, hi, h2, q1, q2, q3, q4, q5, q6⟩, q7⟩
 obtain ⟨G, hG⟩ := Classical.skolem.mp hex
 have hcn : ∀ j, j < bin m k → cn (G j) (m + 1) = k := fun j hj => by
  have h1 := (hG j).2.num (m - b)
  rw [show b + (m - b) = m by omega] at h1
  rw [h1]
  exact (qb2 m k j hj).1
 refine ⟨bin m k, aset m k, fun s => pla s m, G, ?_, rfl, fun j _ => (hG j).1, fun j _ => (hG j).2.lt hb (qbk m k j), fun j _ => (hG j).2.none, fun j hj => hcn j hj, fun i j hij hj => ?_, fun t ht htb htn => ?_⟩
 ·rw [e1]
  refine ⟨fun j hj => (qb2 m k j hj).2, fun h => by omega, fun _ w => jat_ok m k 0 w (by omega) (by omega) hp, fun j hj w => ?_, fun j hj w => ?_⟩
  ·have h1 := qio m (aset m k j) w (by omega) (qbk m k j)
   rw [qdn hj] at h1
   exact h1
  ·have h1 := qio m (aset m k j) w (by omega) (qbk m k j)
   rw [qdo hj] at h1
   exact h1
 ·refine qme (m + 1) _ _ ((hG i).2.lt hb (qbk m k i)) ((hcn i (by omega)).trans (hcn j hj).symm) ((hG i).2.lex (hG j).2 ?_)
  have pi := qb2 m k i (by omega)
  have pj := qb2 m k j hj
  have hne : aset m k i ≠ aset m k j := fun e => by
   have h1 := pi.2
   rw [e, pj.2] at h1
   omega
  rcases qmf hne with h1 | h1
  ·exact h1
  ·have h2 := qme m _ _ (qbk m k j) (pj.1.trans pi.1.symm) h1
   rw [pi.2, pj.2] at h2
   omega
 ·obtain ⟨s, hs, hr⟩ := rsd_ex hb ht htb
  have h1 := hr.num (m - b)
  rw [show b + (m - b) = m by omega, htn] at h1
  have h2 := qgp m s
  rw [← h1] at h2
  have h3 := qck m s hs
  rw [← h1] at h3
  refine ⟨pla s m, h2, qiq (fun i => ?_)⟩
  rw [(hG (pla s m)).2 i, h3, hr i]
end Go.Proofs.YtblagbghpfopcaaGreat
