/-
  Stage 19: which sets local.others tells.
  Stage 19: local.others' function, told one set after another.
  Stage 19: the law for a range over local.others' sets, which may be left by a break or a return.
-/
import Derived.Test.YtblagbghpfopcaaGreatQffsh00
import Derived.Test.YtblagbghpfopcaaGreatQffsh42
import Derived.Test.YtblagbghpfopcaaGreatQffsh41
set_option maxRecDepth 100000
set_option maxHeartbeats 16000000
namespace Go.Proofs.YtblagbghpfopcaaGreat
open Go.RowKit Go.Shelf
theorem oth_ops {s b : Nat} (hs : s < 9223372036854775808) (hb : b < 64) : ∃ z z1 lo hi h2 g : Nat, IntKind.u64.wrap (2 ^ b) = (z : Int) ∧ IntKind.u64.wrap ((z : Int) - 1) = (z1 : Int) ∧ bits .and .u64 (s : Int) (z1 : Int) = (lo : Int) ∧ bits .xor .u64 (s : Int) (lo : Int) = (hi : Int) ∧ IntKind.u64.wrap ((hi : Int) * 2) = (h2 : Int) ∧ bits .or .u64 (lo : Int) (h2 : Int) = (g : Int) ∧ ∀ i, bt g i = 1 ↔ (i < b ∧ bt s i = 1) ∨ (b < i ∧ bt s (i - 1) = 1) := by
 have hz := qbc hb
 have hz0 := Nat.two_pow_pos b
 have hlo : s &&& (2 ^ b - 1) = s % 2 ^ b := Nat.and_two_pow_sub_one_eq_mod s b
 have hlo2 : s % 2 ^ b ≤ s := Nat.mod_le _ _
 have hhi : s ^^^ (s % 2 ^ b) < 2 ^ 63 := Nat.xor_lt_two_pow hs (Nat.lt_of_le_of_lt hlo2 hs)
 have hbhi : ∀ i, bt (s ^^^ (s % 2 ^ b)) i = 1 ↔ ¬ i < b ∧ bt s i = 1 := fun i => by
  rw [qaw, Nat.testBit_xor, Nat.testBit_mod_two_pow, qaw]
  by_cases hi : i < b
  ·simp [hi]
  ·simp [hi]
 refine ⟨2 ^ b, 2 ^ b - 1, s % 2 ^ b, s ^^^ (s % 2 ^ b), (s ^^^ (s % 2 ^ b)) * 2, (s % 2 ^ b) ||| ((s ^^^ (s % 2 ^ b)) * 2), qgg b hb, ?_, ?_, ?_, ?_, ?_, fun i => ?_⟩
 ·rw [IntKind.wrap_u64]
  generalize 2 ^ b = y at hz hz0
  omega
 ·rw [u64_and_nat s (2 ^ b - 1) (by omega) (by omega), hlo]
 ·exact u64_xor_nat s (s % 2 ^ b) (by omega) (by omega)
 ·rw [IntKind.wrap_u64]
  generalize s ^^^ (s % 2 ^ b) = y at hhi
  have : y < 9223372036854775808 := hhi
  omega
 ·refine u64_or_nat _ _ (by omega) ?_
  generalize s ^^^ (s % 2 ^ b) = y at hhi
  have : y < 9223372036854775808 := hhi
  omega
 ·rw [qbq, qmo]
  have h2 : bt ((s ^^^ (s % 2 ^ b)) * 2) i = 1 ↔ 0 < i ∧ bt (s ^^^ (s % 2 ^ b)) (i - 1) = 1 := by
   have e : (s ^^^ (s % 2 ^ b)) * 2 = (s ^^^ (s % 2 ^ b)) <<< 1 := by rw [Nat.shiftLeft_eq]
   rw [e, qaw, Nat.testBit_shiftLeft, qaw]
   simp only [Bool.and_eq_true, decide_eq_true_eq]
   exact ⟨fun h => ⟨by omega, h.2⟩, fun h => ⟨by omega, h.2⟩⟩
  rw [h2, hbhi]
  constructor
  ·rintro (h | ⟨h1, h3, h4⟩)
   ·exact .inl h
   ·exact .inr ⟨by omega, h4⟩
  ·rintro (h | ⟨h1, h3⟩)
   ·exact .inl h
   ·exact .inr ⟨by omega, by omega, h3⟩
open Go.RowKit Go.Shelf
attribute [local go_sem] Oper.semAt_some
/-- What others makes of All's set s: g. -/
def OthG (b s g : Nat) : Prop := ∃ z z1 lo hi h2 : Nat, IntKind.u64.wrap (2 ^ b) = (z : Int) ∧ IntKind.u64.wrap ((z : Int) - 1) = (z1 : Int) ∧ bits .and .u64 (s : Int) (z1 : Int) = (lo : Int) ∧ bits .xor .u64 (s : Int) (lo : Int) = (hi : Int) ∧ IntKind.u64.wrap ((hi : Int) * 2) = (h2 : Int) ∧ bits .or .u64 (lo : Int) (h2 : Int) = (g : Int)
theorem qn7 (m l C bn bk bb n b : Nat) (k : Int) (f ix G : Nat → Nat) (W0 : World) (T : Nat → World → Prop) (Tx : World → Prop) (hn1 : 1 ≤ n) (hn : n ≤ 64) (hb : b < n)
  (AF : AllF ((n : Int) - 1) k C f ix) (hG : ∀ j, j < C → OthG b (f j) (G j))
  (hC : ∀ j W, T j W → W.cell? ⟨bn, 0, none⟩ = some (.int .i64 (n : Int)) ∧ W.cell? ⟨bk, 0, none⟩ = some (.int .i64 k) ∧ W.cell? ⟨bb, 0, none⟩ = some (.int .i64 (b : Int)))
  (hT : ∀ j W W', T j W → Below W0.heap.size W W' → T j W') (hTx : ∀ W W', Tx W → Below W0.heap.size W W' → Tx W') (hsz : ∀ j W, T j W → W0.heap.size ≤ W.heap.size) (hsx : ∀ W, Tx W → W0.heap.size ≤ W.heap.size)
  (hY : ∀ q j W, j < C → T j W → YieldAt Fence.wide q Tryz.prog l #[.int .u64 (G j : Nat)] W (fun e W' => ((e = .returned (.bool true) ∧ T (j + 1) W') ∨ (e = .returned (.bool false) ∧ Tx W')) ∧ W.heap.size ≤ W'.heap.size ∧ ∀ i, W0.heap.size ≤ i → i < W.heap.size → W'.heap[i]? = W.heap[i]?))
  (h0 : T 0 W0) :
  CallsIn Fence.wide m Tryz.prog 76 #[.func (.yield l) #[] #[], .pointer (some ⟨bn, 0, none⟩), .pointer (some ⟨bk, 0, none⟩), .pointer (some ⟨bb, 0, none⟩)] W0 fun e W' => (∃ v, e = .returned v) ∧ (T C W' ∨ Tx W') := by
 have HT := qa3 hT
 have HTx := qa3 hTx
 have HC := qa3 hC
 have HY := qa3 hY
 have HG := qa3 hG
 have HS := qa3 hsz
 have HSx := qa3 hsx
 have H0 : Hid (T 0 W0) := h0
 have hb64 : b < 64 := by omega
 obtain ⟨N1, hN1⟩ : ∃ N1, n - 1 = N1 := ⟨_, rfl⟩
 have en : (n : Int) - 1 = (N1 : Int) := by omega
 rw [en] at AF
 have HAF := qa3 AF
 obtain ⟨wb, HW⟩ : ∃ wb, Hid (wb = W0.alloc (.cells #[.func (.yield l) #[] #[]] 109)) := ⟨_, rfl⟩
 have HBb : Hid (Below W0.heap.size W0 wb) := by rw [HW.out]; exact qa0 _ _
 have HVy : Hid (Cl wb W0.heap.size (.func (.yield l) #[] #[]) 109) := by rw [HW.out]; exact Cl.new _ _ _
 have HTb : Hid (T 0 wb) := hT 0 W0 wb h0 HBb.out
 obtain ⟨c1, c2, c3⟩ := hC 0 wb HTb.out
 rw [HW.out] at c1 c2 c3
 clear hT hTx hC hY hG hsz hsx h0 AF
 refine callsIn_wide.2 ((callsIn_wide (n := 4)).1 (callsIn_of_wp_marks Tryz.func76 rfl trivial ?_ rfl))
 simp only [Tryz.ntmps76, List.size_toArray, List.length_cons, List.length_nil, Nat.reduceAdd, Nat.reduceSub, Array.replicate_succ, Array.replicate_zero, List.push_toArray, List.append_toArray, List.nil_append, List.cons_append]
 refine wpIn_wide.2 ?_
 go_wp2_with (go_at_call 77; rw [← HW.out]; refine (qjl _ _ _).mono ?_; rintro e w1 ⟨rfl, hd1, hd2, hs1, hb1⟩; have HB1 : Hid (Below wb.heap.size wb w1) := hb1; have HD1 := qa3 hd1; have HD2 := qa3 hd2; have HS1 := qa3 hs1; clear hd1 hd2 hs1 hb1)
 obtain ⟨bn2, Hbn2⟩ : ∃ x, Hid (x = wb.heap.size) := ⟨_, rfl⟩
 obtain ⟨bk2, Hbk2⟩ : ∃ x, Hid (x = wb.heap.size + 1) := ⟨_, rfl⟩
 have hwb : W0.heap.size + 1 ≤ wb.heap.size := by have := HVy.out.lt; omega
 have h1s := HS1.out
 have HE1 : Hid (w1.cell? ⟨bn2, 0, none⟩ = some (.int .i64 (N1 : Int))) := by rw [Hbn2.out]; exact HD1.out
 have HE2 : Hid (w1.cell? ⟨bk2, 0, none⟩ = some (.int .i64 k)) := by rw [Hbk2.out]; exact HD2.out
 have hl1 : bn2 < w1.heap.size := by rw [Hbn2.out]; omega
 have hl2 : bk2 < w1.heap.size := by rw [Hbk2.out]; omega
 have hl3 : W0.heap.size ≤ bn2 := by rw [Hbn2.out]; omega
 have hl4 : W0.heap.size ≤ bk2 := by rw [Hbk2.out]; omega
 have HVy1 : Hid (w1.cell? ⟨W0.heap.size, 0, none⟩ = some (.func (.yield l) #[] #[])) := (HVy.out.later HB1.out).cell
 have HT1 : Hid (T 0 w1) := HT.out 0 wb w1 HTb.out (HB1.out.mono (by omega))
 have hyl : W0.heap.size < w1.heap.size := by omega
 rw [← Hbk2.out, ← Hbn2.out]
 clear HD1 HD2 Hbn2 Hbk2 HTb HVy HS1 c1 c2 c3 HW
 refine (wpIn_wide (n := 4)).1 ?_
 refine qkk (nn := 4) (C := C) (bn := bn2) (bk := bk2) (N1 : Int) k f ix
  (fun j W => T j W ∧ w1.heap.size ≤ W.heap.size ∧ W.cell? ⟨bn2, 0, none⟩ = some (.int .i64 (N1 : Int)) ∧ W.cell? ⟨bk2, 0, none⟩ = some (.int .i64 k) ∧ W.cell? ⟨W0.heap.size, 0, none⟩ = some (.func (.yield l) #[] #[]))
  (fun c W => c = .ret ∧ Tx W ∧ w1.heap.size ≤ W.heap.size) (by omega) HAF.out.ix HAF.out.a0 HAF.out.a1 HAF.out.n1 HAF.out.n0 rfl ?hKp ?hKx ?hKc ?h0
  (fun s => { tmps := #[.func (.yield l) #[] #[], .pointer (some ⟨bn, 0, none⟩), .pointer (some ⟨bk, 0, none⟩), .pointer (some ⟨bb, 0, none⟩), .pointer (some ⟨W0.heap.size, 0, none⟩), .int .u64 (s : Int), undef, .int .i64 (n : Int), .int .i64 (N1 : Int), .int .i64 k, .func (.func 94) #[] #[.pointer (some ⟨bn2, 0, none⟩), .pointer (some ⟨bk2, 0, none⟩)], .int .u64 (s : Int), undef, undef, undef, undef, undef, undef, undef, undef, undef, undef, undef, undef, undef, undef], defers := [] }) ?hassign ?hbody ?hdone ?hstop
 case hKp =>
  rintro j W W' row ⟨h1, h2, h3, h4, h5⟩ hg hrow
  have hbl : Below W0.heap.size W W' := jbelow hg (by omega) (fun g e => by have := hrow g e; omega)
  have kc : ∀ x v, x < w1.heap.size → W.cell? ⟨x, 0, none⟩ = some v → W'.cell? ⟨x, 0, none⟩ = some v := fun x v hx hc => by
   rw [World.cell?_of_block (a := ⟨x, 0, none⟩) (hg.block x (by omega) (fun e => by have := hrow x e.symm; omega))]
   exact hc
  exact ⟨HT.out j W W' h1 hbl, Nat.le_trans h2 hg.size, kc _ _ hl1 h3, kc _ _ hl2 h4, kc _ _ hyl h5⟩
 case hKx =>
  rintro c W W' row ⟨h1, h2, h3⟩ hg hrow
  exact ⟨h1, HTx.out W W' h2 (jbelow hg (by omega) (fun g e => by have := hrow g e; omega)), Nat.le_trans h3 hg.size⟩
 case hKc => exact fun j W h => ⟨h.2.2.1, h.2.2.2.1⟩
 case h0 => exact ⟨HT1.out, Nat.le_refl _, HE1.out, HE2.out, HVy1.out⟩
 case hassign =>
  intro l2 s W K hK
  gi_wp2
  exact hK
 case hbody =>
  rintro l2 j W hj ⟨h1, h2, h3, h4, h5⟩
  obtain ⟨z, z1, lo, hi, h2', q1, q2, q3, q4, q5, q6⟩ := HG.out j hj
  obtain ⟨x, HX⟩ : ∃ x, Hid (f j = x) := ⟨_, rfl⟩
  rw [HX.out] at q3 q4 ⊢
  have c3 := (HC.out j W h1).2.2
  obtain ⟨y, HYy⟩ : ∃ y, Hid (G j = y) := ⟨_, rfl⟩
  rw [HYy.out] at q6
  obtain ⟨fn, tmps, assign, body, hy, hR⟩ := HY.out 1 j W hj h1
  rw [HYy.out] at hy
  have HRd := qa3 hR
  have H3 := qa3 h3
  have H4 := qa3 h4
  have H1 := qa3 h1
  clear hR h1 h3 h4 HX HYy
  gi_wp2
  have hR2 : RoundIn (Fence.wide.inRound l2) 1 Tryz.prog l fn tmps assign body W _ := HRd.out
  refine RoundIn.mono hR2 ?_
  clear hR2 HRd hy
  rintro e W3 ⟨hc, hs3, hbl⟩
  have HK3 : Hid (∀ x v, W0.heap.size ≤ x → x < w1.heap.size → W.cell? ⟨x, 0, none⟩ = some v → W3.cell? ⟨x, 0, none⟩ = some v) := fun x v hx hx2 hcc => by
   rw [World.cell?_of_block (a := ⟨x, 0, none⟩) (hbl x hx (by omega))]
   exact hcc
  have HBl : Hid (∀ i, w1.heap.size ≤ i → i < W.heap.size → W3.heap[i]? = W.heap[i]?) := fun i hi hi2 => hbl i (by omega) hi2
  clear hbl
  rcases hc with ⟨rfl, ht⟩ | ⟨rfl, hx⟩
  ·have HT3 := qa3 ht
   clear ht
   gi_wp2
   exact ⟨⟨HT3.out, by omega, HK3.out _ _ hl3 hl1 H3.out, HK3.out _ _ hl4 hl2 H4.out, HK3.out _ _ (Nat.le_refl _) hyl h5⟩, hs3, HBl.out⟩
  ·have HX3 := qa3 hx
   clear hx
   gi_wp2
   exact ⟨⟨rfl, HX3.out, by omega⟩, hs3, HBl.out⟩
 case hdone =>
  rintro D W hD ⟨h1, h2, _, _, _⟩ hdf
  have HDf := qa3 hdf
  have H1 := qa3 h1
  clear hdf h1
  go_wp2
  refine ⟨by simp, .inl ⟨_, _, rfl, run_takeDeferred HDf.out, ?_⟩⟩
  refine ⟨_, results_none rfl _ _ _, ?_⟩
  exact ⟨⟨_, rfl⟩, .inl (HT.out C W _ H1.out (jbelow (grownBy_putObj' W D (.deferred none)) (by omega) (fun g e => by have h := Option.some.inj e; omega)))⟩
 case hstop =>
  rintro D c W hD ⟨rfl, h1, h2⟩ hdf
  have HDf := qa3 hdf
  have H1 := qa3 h1
  clear hdf h1
  refine wpIn_wide.2 ?_
  go_wp2
  refine ⟨by simp, .inl ⟨_, _, rfl, run_takeDeferred HDf.out, ?_⟩⟩
  refine ⟨_, results_none rfl _ _ _, ?_⟩
  exact ⟨⟨_, rfl⟩, .inr (HTx.out W _ H1.out (jbelow (grownBy_putObj' W D (.deferred none)) (by omega) (fun g e => by have h := Option.some.inj e; omega)))⟩
open Go.RowKit Go.Shelf
attribute [local go_sem] Oper.semAt_some
theorem qhd {gop : Operand} {p : Tmp} {assign body : Code} {Q : Exit → Act → World → Prop} {a : Act} {w : World} {nn C bn bk bb n b : Nat} (k : Int) (f ix G : Nat → Nat) (Kp : Nat → World → Prop) (Kx : Code → World → Prop) (hn1 : 1 ≤ n) (hn : n ≤ 64) (hb : b < n)
  (AF : AllF ((n : Int) - 1) k C f ix) (hG : ∀ j, j < C → OthG b (f j) (G j))
  (hg : a.eval gop = .func (.func 76) #[] #[.pointer (some ⟨bn, 0, none⟩), .pointer (some ⟨bk, 0, none⟩), .pointer (some ⟨bb, 0, none⟩)])
  (hKp : ∀ j W W', Kp j W → Below w.heap.size W W' → Kp j W') (hKx : ∀ c W W', Kx c W → Below w.heap.size W W' → Kx c W')
  (hKc : ∀ j W, Kp j W → W.cell? ⟨bn, 0, none⟩ = some (.int .i64 (n : Int)) ∧ W.cell? ⟨bk, 0, none⟩ = some (.int .i64 k) ∧ W.cell? ⟨bb, 0, none⟩ = some (.int .i64 (b : Int)))
  (h0 : Kp 0 w) (a₁ : Nat → Act)
  (hassign : ∀ (q l s : Nat) (W : World) (K : Act → World → Prop), K (a₁ s) W → assign.wpIn (Fence.wide.inRound l) q Tryz.prog (Exit.then K (fun _ _ _ => False)) { tmps := a.tmps.setIfInBounds p (.int .u64 (s : Int)), defers := [] } W)
  (hbody : ∀ (q l j : Nat) (W : World), j < C → Kp j W → body.wpIn (Fence.wide.inRound l) q Tryz.prog (rndR Kp Kx j w.heap.size W) (a₁ (G j)) W)
  (hdone : ∀ (D : Nat) (W : World), w.heap.size ≤ D → Kp C W → W.heap[D]? = some (.deferred (some [])) → Q .normal { a with defers := { target := .collected D, args := #[] } :: a.defers } W)
  (hstop : ∀ (D : Nat) (c : Code) (W : World), w.heap.size ≤ D → Kx c W → W.heap[D]? = some (.deferred (some [])) → c.wpIn Fence.wide nn Tryz.prog Q { a with defers := { target := .collected D, args := #[] } :: a.defers } W) :
  (Code.rangeFunc gop #[p] assign body).wpIn Fence.wide nn Tryz.prog Q a w := by
 refine wpIn_rangeFunc ?_
 intro fn hfn
 obtain ⟨rc, hrc⟩ : ∃ rc : LoopState → Option Code → Loop, rc = fun st pe => { state := st, pending := pe, fn, tmps := a.tmps, params := #[p], assign, body, defers := w.heap.size } := ⟨_, rfl⟩
 obtain ⟨W1, hW1⟩ : ∃ W1, (w.alloc (.deferred (some []))).alloc (.loop (rc .ready none)) = W1 := ⟨_, rfl⟩
 have hs1 : W1.heap.size = w.heap.size + 2 := by rw [← hW1]; simp
 have hL1 : W1.heap[w.heap.size + 1]? = some (.loop (rc .ready none)) := by rw [← hW1]; exact heap_alloc2_new _ _ _
 have hD1 : W1.heap[w.heap.size]? = some (.deferred (some [])) := by rw [← hW1]; exact heap_alloc2_old _ _ _
 have hb1 : Below w.heap.size w W1 := by rw [← hW1]; exact jtwo (jlow _ _) (jlow _ _)
 have hK1 : Kp 0 W1 := hKp 0 w W1 h0 hb1
 have put : ∀ (W : World) (o : Obj), W.grownBy (W.putObj (w.heap.size + 1) o) (some (w.heap.size + 1)) := fun W o => grownBy_putObj' W (w.heap.size + 1) o
 have putB : ∀ (W : World) (o : Obj), w.heap.size ≤ W.heap.size → Below w.heap.size W (W.putObj (w.heap.size + 1) o) := fun W o h => jbelow (put W o) h (fun g e => by have h := Option.some.inj e; omega)
 refine ⟨w.heap.size + 1, [{ target := .collected w.heap.size, args := #[] }], W1, { target := .fn (.func 76) #[.pointer (some ⟨bn, 0, none⟩), .pointer (some ⟨bk, 0, none⟩), .pointer (some ⟨bb, 0, none⟩)], args := #[.func (.yield (w.heap.size + 1)) #[] #[]] }, W1, 76,
  #[.func (.yield (w.heap.size + 1)) #[] #[]] ++ #[.pointer (some ⟨bn, 0, none⟩), .pointer (some ⟨bk, 0, none⟩), .pointer (some ⟨bb, 0, none⟩)], W1, ?_, ?_, ?_, ?_, fun h => (by cases h), ?_⟩
 ·rw [← hW1, hrc]; exact run_enterLoop_outer _ _ _ _ _
 ·simp only [resolve, hg]
  simp [go_sem]
 ·intro f' _; trivial
 ·simp [invoke, go_sem]
 ·refine (qn7 (nn - 1) (w.heap.size + 1) C bn bk bb n b k f ix G W1
   (fun j W => Kp j W ∧ W.heap[w.heap.size + 1]? = some (.loop (rc .ready none)) ∧ W.heap[w.heap.size]? = some (.deferred (some [])))
   (fun W => ∃ c, Kx c W ∧ W.heap[w.heap.size + 1]? = some (.loop (rc .done (some c))) ∧ W.heap[w.heap.size]? = some (.deferred (some [])))
   hn1 hn hb AF hG (fun j W h => hKc j W h.1) ?_ ?_ ?_ ?_ ?_ ⟨hK1, hL1, hD1⟩).mono ?_
  ·rintro j W W' ⟨h1, h2, h3⟩ hbw
   rw [hs1] at hbw
   exact ⟨hKp j W W' h1 (hbw.mono (by omega)), by rw [hbw.block _ (by omega)]; exact h2, by rw [hbw.block _ (by omega)]; exact h3⟩
  ·rintro W W' ⟨c, h1, h2, h3⟩ hbw
   rw [hs1] at hbw
   exact ⟨c, hKx c W W' h1 (hbw.mono (by omega)), by rw [hbw.block _ (by omega)]; exact h2, by rw [hbw.block _ (by omega)]; exact h3⟩
  ·rintro j W ⟨_, h2, _⟩
   have := lt_of_block h2
   omega
  ·rintro W ⟨c, _, h2, _⟩
   have := lt_of_block h2
   omega
  ·rintro q j W hj ⟨h1, h2, h3⟩
   have l2 := lt_of_block h2
   have hy := run_yield (P := Tryz.prog) (args := #[.int .u64 (G j : Nat)]) h2 (by rw [hrc]; rfl)
   rw [hrc] at hy
   refine ⟨fn, _, assign, body, hy, roundIn_of_wpIn hfn ?_⟩
   have htm : ((#[p] : Array Tmp).zip #[Value.int .u64 (G j : Nat)]).foldl (fun tmps (t, a) => tmps.setIfInBounds t a) a.tmps = a.tmps.setIfInBounds p (.int .u64 (G j : Nat)) := by simp
   rw [htm]
   refine hassign _ _ (G j) W _ ?_
   refine ⟨_, run_beginRound h2 (by rw [hrc]), ?_⟩
   obtain ⟨W2, hW2⟩ : ∃ W2, W.putObj (w.heap.size + 1) (.loop { rc .ready none with state := .busy }) = W2 := ⟨_, rfl⟩
   have hg2 : W.grownBy W2 (some (w.heap.size + 1)) := by rw [← hW2]; exact put _ _
   have hz2 : W2.heap.size = W.heap.size := by rw [← hW2]; simp
   have k2 : Kp j W2 := hKp j W W2 h1 (by rw [← hW2]; exact putB W _ (by omega))
   have h22 : W2.heap[w.heap.size + 1]? = some (.loop { rc .ready none with state := .busy }) := by rw [← hW2]; exact World.putObj_heap_same l2
   have h32 : W2.heap[w.heap.size]? = some (.deferred (some [])) := by rw [hg2.block _ (lt_of_block h3) (fun e => by simp at e)]; exact h3
   rw [hW2]
   refine wpIn_mono (hbody _ _ j W2 hj k2) ?_
   rintro e a3 W3 hp
   have keep : ∀ (o : Obj), (∀ i, w.heap.size ≤ i → i < W2.heap.size → W3.heap[i]? = W2.heap[i]?) → W2.heap.size ≤ W3.heap.size → W.heap.size ≤ (W3.putObj (w.heap.size + 1) o).heap.size ∧ ∀ i, W1.heap.size ≤ i → i < W.heap.size → (W3.putObj (w.heap.size + 1) o).heap[i]? = W.heap[i]? := fun o hbl hs3 => by
    refine ⟨by have := (put W3 o).size; omega, fun i hi hi2 => ?_⟩
    rw [(put W3 o).block i (by omega) (fun e => by have h := Option.some.inj e; omega), hbl i (by omega) (by omega), hg2.block i hi2 (fun e => by have h := Option.some.inj e; omega)]
   cases e with
   | normal =>
    obtain ⟨hk3, hs3, hbl⟩ := hp
    have hl3 : W3.heap[w.heap.size + 1]? = some (.loop { rc .ready none with state := .busy }) := by rw [hbl _ (by omega) (lt_of_block h22)]; exact h22
    have hd3 : W3.heap[w.heap.size]? = some (.deferred (some [])) := by rw [hbl _ (by omega) (lt_of_block h32)]; exact h32
    have hend := run_endRound (P := Tryz.prog) none hl3
    refine ⟨_, _, hend, .inl ⟨rfl, hKp (j + 1) W3 _ hk3 (putB W3 _ (by omega)), ?_, ?_⟩, keep _ hbl hs3⟩
    ·rw [World.putObj_heap_same (lt_of_block hl3), hrc]; rfl
    ·exact (World.putObj_heap_other (by omega)).trans hd3
   | exit id =>
    obtain ⟨hk3, hs3, hbl⟩ := hp
    have hl3 : W3.heap[w.heap.size + 1]? = some (.loop { rc .ready none with state := .busy }) := by rw [hbl _ (by omega) (lt_of_block h22)]; exact h22
    have hd3 : W3.heap[w.heap.size]? = some (.deferred (some [])) := by rw [hbl _ (by omega) (lt_of_block h32)]; exact h32
    have hend := run_endRound (P := Tryz.prog) (some (.exit id)) hl3
    refine ⟨_, _, hend, .inr ⟨rfl, _, hKx _ W3 _ hk3 (putB W3 _ (by omega)), ?_, ?_⟩, keep _ hbl hs3⟩
    ·rw [World.putObj_heap_same (lt_of_block hl3), hrc]; rfl
    ·exact (World.putObj_heap_other (by omega)).trans hd3
   | ret =>
    obtain ⟨hk3, hs3, hbl⟩ := hp
    have hl3 : W3.heap[w.heap.size + 1]? = some (.loop { rc .ready none with state := .busy }) := by rw [hbl _ (by omega) (lt_of_block h22)]; exact h22
    have hd3 : W3.heap[w.heap.size]? = some (.deferred (some [])) := by rw [hbl _ (by omega) (lt_of_block h32)]; exact h32
    have hend := run_endRound (P := Tryz.prog) (some .ret) hl3
    refine ⟨_, _, hend, .inr ⟨rfl, _, hKx _ W3 _ hk3 (putB W3 _ (by omega)), ?_, ?_⟩, keep _ hbl hs3⟩
    ·rw [World.putObj_heap_same (lt_of_block hl3), hrc]; rfl
    ·exact (World.putObj_heap_other (by omega)).trans hd3
   | goto t => exact hp.elim
   | panic ch => exact hp.elim
   | outgrown => exact hp.elim
  ·rintro e W2 ⟨⟨v, rfl⟩, (⟨h1, h2, h3⟩ | ⟨c, h1, h2, h3⟩)⟩
   ·have l2 := lt_of_block h2
    refine ⟨none, _, by have := run_endLoop (P := Tryz.prog) h2 (by rw [hrc]; simp); rw [hrc] at this; exact this, ?_⟩
    exact hdone _ _ (Nat.le_refl _) (hKp C W2 _ h1 (putB W2 _ (by omega))) ((World.putObj_heap_other (by omega)).trans h3)
   ·have l2 := lt_of_block h2
    refine ⟨some c, _, by have := run_endLoop (P := Tryz.prog) h2 (by rw [hrc]; simp); rw [hrc] at this; exact this, ?_⟩
    exact hstop _ c _ (Nat.le_refl _) (hKx c W2 _ h1 (putB W2 _ (by omega))) ((World.putObj_heap_other (by omega)).trans h3)
end Go.Proofs.YtblagbghpfopcaaGreat
