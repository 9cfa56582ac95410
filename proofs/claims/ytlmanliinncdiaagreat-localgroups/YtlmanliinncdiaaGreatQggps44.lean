/-
  slices.Values over a list of sets, and slices.Collect of it: a list of its own with the same sets.
-/
import Derived.Test.YtlmanliinncdiaaGreatQggps00
import Derived.Test.YtlmanliinncdiaaGreatQggps43
import Derived.RangeFuncNested
import Derived.RangeFuncCalls
import Derived.RangeFuncLeaves
import Derived.RangeFuncBound
import Derived.RangeFuncKeeps
import Derived.RangeFuncFrom
import Derived.Shelf.Abstract
import Derived.Shelf.RegionOpen
import Derived.LoopNIn
import Derived.LoopIn
import Derived.TacticsInMore
import Derived.OwnWalkIn
set_option maxRecDepth 100000
set_option maxHeartbeats 16000000
namespace Go.Proofs.YtlmanliinncdiaaGreat
open Go.RowKit Go.Shelf
attribute [local go_sem] Oper.semAt_some
theorem jhidv {p : Prop} (h : p) : Hid p := h
theorem values16 (w : World) (a : Option Addr) (n k : Nat) :
  Calls Tryz.prog 100 #[.slice a n k] w fun e w' => e = .returned (.func (.func 117) #[] #[.pointer (some ⟨w.heap.size, 0, none⟩)]) ∧ w.alloc (.cells #[.slice a n k] 39) = w' := by
 have hmf : ∀ (fn : Fn) (first cap : Array Value) (w : World), (Instr.makeFunc fn first cap).run Tryz.prog w = .ok (.func fn first cap) w := fun _ _ _ _ => rfl
 go_enter Tryz.func100, Tryz.ntmps100
 go_wp2
 go_ret
 exact ⟨rfl, rfl⟩
theorem values_in (m l n k bv : Nat) (a : Option Addr) (q : Nat → Nat) (W0 : World) (T : Nat → World → Prop) (hm : 1 ≤ m) (hn : n ≤ 17592186044416)
  (hC : ∀ j W, T j W → W.cell? ⟨bv, 0, none⟩ = some (.slice a n k) ∧ Jl W a .u64 n (fun i => (q i : Int)))
  (hY : ∀ j W, j < n → T j W → YieldAt Fence.wide (m - 1) Tryz.prog l #[.int .u64 (q j : Nat)] W (fun e W' => e = .returned (.bool true) ∧ T (j + 1) W'))
  (h0 : T 0 W0) :
  CallsIn Fence.wide m Tryz.prog 117 #[.func (.yield l) #[] #[], .pointer (some ⟨bv, 0, none⟩)] W0 fun e W' => (∃ v, e = .returned v) ∧ T n W' := by
 have HC := jhidv hC
 have HYd := jhidv hY
 have H0 : Hid (T 0 W0) := h0
 have c1 := (hC 0 W0 h0).1
 clear hC hY h0
 refine callsIn_of_wp Tryz.func117 rfl trivial ?_ rfl
 simp only [Tryz.ntmps117, List.size_toArray, List.length_cons, List.length_nil, Nat.reduceAdd, Nat.reduceSub, Array.replicate_succ, Array.replicate_zero, List.push_toArray, List.append_toArray, List.nil_append, List.cons_append]
 gi_wp2
 gi_loopw [4, 7] (fun _ vi wr => ∃ j : Nat, j ≤ n ∧ vi = .int .i64 (j : Int) ∧ T j wr) (fun _ vi _ => n - (intOf vi).toNat)
 case atStart => exact ⟨0, by omega, rfl, H0.out⟩
 case round =>
  clear H0 c1
  obtain ⟨j, hj, rfl, hT⟩ := hrel
  have HT : Hid (T j wr) := hT
  by_cases hlt : j < n
  ·obtain ⟨x, o, ea, hc⟩ := (HC.out j wr hT).2 j hlt
   obtain ⟨y, HY⟩ : ∃ y, Hid (q j = y) := ⟨_, rfl⟩
   have hc2 : wr.cell? ⟨x, o + j, none⟩ = some (.int .u64 (y : Int)) := by rw [← HY.out]; exact hc
   obtain ⟨fn, tmps, assign, body, hy, hR⟩ := HYd.out j wr hlt hT
   rw [HY.out] at hy
   have HRd := jhidv hR
   have p0 : (0 : Int) ≤ (j : Int) := by omega
   have p1 : (j : Int) < (n : Int) := by omega
   subst ea
   clear hR hT hc
   gi_wp2
   refine HRd.out.mono ?_
   rintro e W3 ⟨rfl, ht3⟩
   have HT3 : Hid (T (j + 1) W3) := ht3
   clear ht3 hy HRd
   gi_wp2
   exact ⟨⟨j + 1, by omega, by go_num, HT3.out⟩, by simp [intOf]; omega⟩
  ·obtain rfl : j = n := by omega
   clear hT
   gi_wp2
   go_end0
   exact ⟨⟨_, rfl⟩, HT.out⟩
/-- A round's body goes on. -/
def rndV (Kp : Nat → World → Prop) (j B : Nat) (W : World) : Exit → Act → World → Prop
 | .normal, _, W' => Kp (j + 1) W' ∧ W'.heap[B]? = W.heap[B]? ∧ W'.heap[B + 1]? = W.heap[B + 1]?
 | _, _, _ => False
theorem qgu {gop : Operand} {p : Tmp} {assign body : Code} {Q : Exit → Act → World → Prop} {a : Act} {w : World} {nn n k bv : Nat} {sa : Option Addr} (q : Nat → Nat) (Kp : Nat → World → Prop)
  (hnn : 2 ≤ nn) (hn : n ≤ 17592186044416)
  (hg : a.eval gop = .func (.func 117) #[] #[.pointer (some ⟨bv, 0, none⟩)])
  (hKp : ∀ j W W', Kp j W → W.grownBy W' (some (w.heap.size + 1)) → Kp j W')
  (hKc : ∀ j W, Kp j W → W.cell? ⟨bv, 0, none⟩ = some (.slice sa n k) ∧ Jl W sa .u64 n (fun i => (q i : Int)))
  (h0 : ∀ W1, Below w.heap.size w W1 → w.heap.size + 2 ≤ W1.heap.size → Kp 0 W1) (a₁ : Nat → Act)
  (hassign : ∀ (l s : Nat) (W : World) (K : Act → World → Prop), K (a₁ s) W → assign.wpIn (Fence.wide.inRound l) (nn - 1 - 1) Tryz.prog (Exit.then K (fun _ _ _ => False)) { tmps := a.tmps.setIfInBounds p (.int .u64 (s : Int)), defers := [] } W)
  (hbody : ∀ (l j : Nat) (W : World), j < n → Kp j W → body.wpIn (Fence.wide.inRound l) (nn - 1 - 1) Tryz.prog (rndV Kp j w.heap.size W) (a₁ (q j)) W)
  (hdone : ∀ (D : Nat) (W : World), w.heap.size = D → Kp n W → W.heap[D]? = some (.deferred (some [])) → Q .normal { a with defers := { target := .collected D, args := #[] } :: a.defers } W) :
  (Code.rangeFunc gop #[p] assign body).wpIn Fence.wide nn Tryz.prog Q a w := by
 refine wpIn_rangeFunc ?_
 intro fn hfn
 obtain ⟨rc, hrc⟩ : ∃ rc : LoopState → Option Code → Loop, rc = fun st pe => { state := st, pending := pe, fn, tmps := a.tmps, params := #[p], assign, body, defers := w.heap.size } := ⟨_, rfl⟩
 obtain ⟨W1, hW1⟩ : ∃ W1, (w.alloc (.deferred (some []))).alloc (.loop (rc .ready none)) = W1 := ⟨_, rfl⟩
 have hs1 : W1.heap.size = w.heap.size + 2 := by rw [← hW1]; simp
 have hL1 : W1.heap[w.heap.size + 1]? = some (.loop (rc .ready none)) := by rw [← hW1]; exact heap_alloc2_new _ _ _
 have hD1 : W1.heap[w.heap.size]? = some (.deferred (some [])) := by rw [← hW1]; exact heap_alloc2_old _ _ _
 have hb1 : Below w.heap.size w W1 := by rw [← hW1]; exact jtwo (jlow _ _) (jlow _ _)
 have hK1 : Kp 0 W1 := h0 W1 hb1 (by omega)
 have put : ∀ (W : World) (o : Obj), W.grownBy (W.putObj (w.heap.size + 1) o) (some (w.heap.size + 1)) := fun W o => grownBy_putObj' W (w.heap.size + 1) o
 refine ⟨w.heap.size + 1, [{ target := .collected w.heap.size, args := #[] }], W1, { target := .fn (.func 117) #[.pointer (some ⟨bv, 0, none⟩)], args := #[.func (.yield (w.heap.size + 1)) #[] #[]] }, W1, 117,
  #[.func (.yield (w.heap.size + 1)) #[] #[]] ++ #[.pointer (some ⟨bv, 0, none⟩)], W1, ?_, ?_, ?_, ?_, fun h => (by cases h), ?_⟩
 ·rw [← hW1, hrc]; exact run_enterLoop_outer _ _ _ _ _
 ·simp only [resolve, hg]
  simp [go_sem]
 ·intro f' _; trivial
 ·simp [invoke, go_sem]
 ·refine (values_in (nn - 1) (w.heap.size + 1) n k bv sa q W1
   (fun j W => Kp j W ∧ W.heap[w.heap.size + 1]? = some (.loop (rc .ready none)) ∧ W.heap[w.heap.size]? = some (.deferred (some [])))
   (by omega) hn (fun j W h => hKc j W h.1) ?_ ⟨hK1, hL1, hD1⟩).mono ?_
  ·rintro j W hj ⟨h1, h2, h3⟩
   have l2 := lt_of_block h2
   have hy := run_yield (P := Tryz.prog) (args := #[.int .u64 (q j : Nat)]) h2 (by rw [hrc]; rfl)
   rw [hrc] at hy
   refine ⟨fn, _, assign, body, hy, roundIn_of_wpIn hfn ?_⟩
   have htm : ((#[p] : Array Tmp).zip #[Value.int .u64 (q j : Nat)]).foldl (fun tmps (t, a) => tmps.setIfInBounds t a) a.tmps = a.tmps.setIfInBounds p (.int .u64 (q j : Nat)) := by simp
   rw [htm]
   refine hassign _ (q j) W _ ?_
   refine ⟨_, run_beginRound h2 (by rw [hrc]), ?_⟩
   obtain ⟨W2, hW2⟩ : ∃ W2, W.putObj (w.heap.size + 1) (.loop { rc .ready none with state := .busy }) = W2 := ⟨_, rfl⟩
   have hg2 : W.grownBy W2 (some (w.heap.size + 1)) := by rw [← hW2]; exact put _ _
   have k2 : Kp j W2 := hKp j W W2 h1 hg2
   have h22 : W2.heap[w.heap.size + 1]? = some (.loop { rc .ready none with state := .busy }) := by rw [← hW2]; exact World.putObj_heap_same l2
   have h32 : W2.heap[w.heap.size]? = some (.deferred (some [])) := by rw [hg2.block _ (lt_of_block h3) (fun e => by simp at e)]; exact h3
   rw [hW2]
   refine wpIn_mono (hbody _ j W2 hj k2) ?_
   rintro e a3 W3 hp
   cases e with
   | normal =>
    obtain ⟨hk3, hb3, hb4⟩ := hp
    have hl3 : W3.heap[w.heap.size + 1]? = some (.loop { rc .ready none with state := .busy }) := by rw [hb4]; exact h22
    have hd3 : W3.heap[w.heap.size]? = some (.deferred (some [])) := by rw [hb3]; exact h32
    have hend := run_endRound (P := Tryz.prog) none hl3
    refine ⟨_, _, hend, rfl, hKp (j + 1) W3 _ hk3 (put _ _), ?_, ?_⟩
    ·rw [World.putObj_heap_same (lt_of_block hl3), hrc]; rfl
    ·exact (World.putObj_heap_other (by omega)).trans hd3
   | exit id => exact hp.elim
   | ret => exact hp.elim
   | goto t => exact hp.elim
   | panic ch => exact hp.elim
   | outgrown => exact hp.elim
  ·rintro e W2 ⟨⟨v, rfl⟩, ⟨h1, h2, h3⟩⟩
   refine ⟨none, _, by have := run_endLoop (P := Tryz.prog) h2 (by rw [hrc]; simp); rw [hrc] at this; exact this, ?_⟩
   exact hdone _ _ rfl (hKp n W2 _ h1 (put _ _)) ((World.putObj_heap_other (by omega)).trans h3)
/-- What is kept while a list is gathered. -/
structure GaI (w W : World) (bv n k : Nat) (a : Option Addr) (q : Nat → Nat) (j : Nat) : Prop where
 ex : ∃ s d, Vq W w.heap.size 39 #[.slice s j d] ∧ Jo W (w.heap.size + 3) 26 .u64 (.slice s j d) j q
 src : W.cell? ⟨bv, 0, none⟩ = some (.slice a n k) ∧ Jl W a .u64 n (fun i => (q i : Int))
 below : Below w.heap.size w W
 size : w.heap.size + 3 ≤ W.heap.size
theorem appseq16 (w : World) (a : Option Addr) (n k bv : Nat) (q : Nat → Nat) (hn : n ≤ 17592186044416) (hv : w.cell? ⟨bv, 0, none⟩ = some (.slice a n k)) (hj : Jl w a .u64 n (fun i => (q i : Int))) :
  Calls Tryz.prog 129 #[.slice none 0 0, .func (.func 117) #[] #[.pointer (some ⟨bv, 0, none⟩)]] w fun e w' => ∃ s d, e = .returned (.slice s n d) ∧ Jo w' w.heap.size 26 .u64 (.slice s n d) n q ∧ Below w.heap.size w w' := by
 obtain ⟨u0, hu0, hy0, hy1, hy2⟩ := info_parts ju64
 obtain ⟨wb, HW⟩ : ∃ wb, Hid (w.alloc (.cells #[.slice none 0 0] 39) = wb) := ⟨_, rfl⟩
 have hsb : wb.heap.size = w.heap.size + 1 := by rw [← HW.out, qcv]
 have HBb : Hid (Below w.heap.size w wb) := by rw [← HW.out]; exact qa1 _ _
 have HVb : Hid (Vq wb w.heap.size 39 #[.slice none 0 0]) := by rw [← HW.out]; exact Vq.new w _ _
 have hbvw : bv < w.heap.size := qds hv
 have HS : Hid (w.cell? ⟨bv, 0, none⟩ = some (.slice a n k) ∧ Jl w a .u64 n (fun i => (q i : Int))) := ⟨hv, hj⟩
 have HAw : Hid (∀ i, i < n → ∀ x, a = some x → x.block < w.heap.size) := fun i hi x hx => by
  obtain ⟨b, o, e, hc⟩ := hj i hi
  rw [e] at hx
  cases hx
  exact qds hc
 clear hv hj
 refine (callsIn_wide (n := 4)).1 (callsIn_of_wp_marks Tryz.func129 rfl trivial ?_ rfl)
 simp only [Tryz.ntmps129, List.size_toArray, List.length_cons, List.length_nil, Nat.reduceAdd, Nat.reduceSub, Array.replicate_succ, Array.replicate_zero, List.push_toArray, List.append_toArray, List.nil_append, List.cons_append]
 refine wpIn_wide.2 ?_
 go_wp2
 rw [HW.out]
 refine (wpIn_wide (n := 4)).1 ?_
 refine qgu (nn := 4) (n := n) (k := k) (bv := bv) (sa := a) q (fun j W => GaI w W bv n k a q j) (by omega) hn rfl ?hKp ?hKc ?h0
  (fun s => { tmps := #[.slice none 0 0, .func (.func 117) #[] #[.pointer (some ⟨bv, 0, none⟩)], .pointer (some ⟨w.heap.size, 0, none⟩), undef, .slice none 0 0, .int .u64 (s : Int), .func (.func 117) #[] #[.pointer (some ⟨bv, 0, none⟩)], .int .u64 (s : Int), undef, undef, undef, undef, undef], defers := [] }) ?hassign ?hbody ?hdone
 case hKp =>
  rintro j W W' ⟨⟨s, d, h1, h2⟩, h3, h4, h5⟩ hg
  rw [hsb] at hg
  refine ⟨⟨s, d, h1.kept hg (by omega), h2.kept hg (qf7 h2 (by omega))⟩, ⟨?_, fun i hi => ?_⟩, h4.grown hg h4.size (fun g e => by cases e; omega), Nat.le_trans h5 hg.size⟩
  ·rw [World.cell?_of_block (a := ⟨bv, 0, none⟩) (hg.block bv (by omega) (fun e => by cases e; omega))]; exact h3.1
  ·obtain ⟨b, o, e, hc⟩ := h3.2 i hi
   have hb := HAw.out i hi _ e
   exact ⟨b, o, e, by rw [World.cell?_of_block (a := ⟨b, o + i, none⟩) (hg.block b (by show b < _; have : b < w.heap.size := hb; omega) (fun e => by cases e; have : w.heap.size + 1 + 1 < w.heap.size := hb; omega))]; exact hc⟩
 case hKc => exact fun j W h => h.src
 case h0 =>
  intro W1 hb hs
  have hBW : Below w.heap.size w W1 := jtwo HBb.out hb
  exact ⟨⟨none, 0, HVb.out.later hb, Jo.nil _ _ _ _ _⟩, ⟨keepc hBW HS.out.1, HS.out.2.later hBW⟩, hBW, by omega⟩
 case hassign =>
  intro l s W1 K hK
  gi_wp2
  exact hK
 case hbody =>
  rintro l j W hj ⟨⟨s, d, h1, h2⟩, h3, h4, h5⟩
  have HV : Hid (Vq W w.heap.size 39 #[.slice s j d]) := h1
  have HJ : Hid (Jo W (w.heap.size + 3) 26 .u64 (.slice s j d) j q) := h2
  have HB : Hid (Below w.heap.size w W) := h4
  have c0 := h1.cell 0 _ rfl
  obtain ⟨y, HY⟩ : ∃ y, Hid (q j = y) := ⟨_, rfl⟩
  rw [HY.out]
  have hml : j + 1 ≤ maxLen := by unfold maxLen; omega
  clear h1 h2 h4
  gi_wp2_with (gi_at_builtin; refine wpListIn_append_own _ rfl _ _ 39 rfl (w.heap.size + 3) 26 u0 (.int .u64 0) 1 8 Tryz.underlying39 hu0 hy0 hy1 hy2 rfl (by decide) _ j (jrow .u64 j q).toList rfl (World.ownsRow.alloc HJ.out _) ⟨W.heap.size, 0, none⟩ 1 1 [.int .u64 (y : Int)] rfl rfl (qdt _ _ _ _) (qdu _ _) hml (by omega) (by simp; omega) ?_; intro v3 w3 hown3 hgrow3 _; have HO3 : Hid (Jo w3 (w.heap.size + 3) 26 .u64 v3 (j + 1) q) := (by show World.ownsRow _ _ _ _ _ _ _; rw [← qin, HY.out]; exact hown3); have HB3 : Hid (Below (w.heap.size + 3) W w3) := ((Below.refl _ _).alloc h5 _).grown hgrow3 (by simp; omega) (qaa HJ.out); have HV3 : Hid (Vq w3 w.heap.size 39 #[.slice s j d]) := HV.out.lowB HB3.out (by omega); have c3 := HV3.out.cell 0 _ rfl; have f3 := HV3.out.free 0; obtain ⟨s3, d3, e3, _⟩ := HO3.out.form; subst e3; clear hown3 hgrow3)
  have gs := qa2 w3 w.heap.size 0 (.slice s3 (j + 1) d3)
  have hb3 := HB3.out.size
  refine ⟨⟨⟨s3, d3, HV3.out.set 0 _, HO3.out.kept gs (qf7 HO3.out (by omega))⟩, ⟨?_, fun i hi => ?_⟩, (HB.out.trans (HB3.out.mono (by omega))).grown gs (by have := HB.out.size; omega) (fun g e => by cases e; omega), ?_⟩, ?_, ?_⟩
  ·rw [World.cell?_of_block (a := ⟨bv, 0, none⟩) (gs.block bv (by omega) (fun e => by cases e; omega)), HB3.out.cell (p := ⟨bv, 0, none⟩) (by show bv < _; omega)]; exact h3.1
  ·obtain ⟨b, o, e, hc⟩ := h3.2 i hi
   have hb : b < w.heap.size := HAw.out i hi _ e
   exact ⟨b, o, e, by rw [World.cell?_of_block (a := ⟨b, o + i, none⟩) (gs.block b (by omega) (fun e => by cases e; omega)), HB3.out.cell (p := ⟨b, o + i, none⟩) (by show b < _; omega)]; exact hc⟩
  ·have : (w3.setCell ⟨w.heap.size, 0, none⟩ (.slice s3 (j + 1) d3)).heap.size = w3.heap.size := by simp
   omega
  ·rw [hsb, gs.block _ (by omega) (fun e => by have h := Option.some.inj e; omega), HB3.out.block _ (by omega)]
  ·rw [hsb, gs.block _ (by omega) (fun e => by have h := Option.some.inj e; omega), HB3.out.block _ (by omega)]
 case hdone =>
  rintro D W hD ⟨⟨s, d, h1, h2⟩, h3, h4, h5⟩ hdf
  have HDf := jhidv hdf
  have HJ : Hid (Jo W (w.heap.size + 3) 26 .u64 (.slice s n d) n q) := h2
  have HB : Hid (Below w.heap.size w W) := h4
  have c0 := h1.cell 0 _ rfl
  clear hdf h1 h2 h3 h4
  go_wp2
  have hB9 := HB.out.grown (grownBy_putObj' W D (.deferred none)) HB.out.size (fun g e => by cases e; omega)
  have hJ9 := HJ.out.kept (grownBy_putObj' W D (.deferred none)) (qf7 HJ.out (by omega))
  refine ⟨by simp, .inl ⟨_, _, rfl, run_takeDeferred HDf.out, ?_⟩⟩
  refine ⟨.slice s n d, by simp [results, Tryz.results129, go_sem], ?_⟩
  exact ⟨s, d, rfl, hJ9.mono (by omega), hB9⟩
theorem qio (w : World) (a : Option Addr) (n k bv : Nat) (q : Nat → Nat) (hn : n ≤ 17592186044416) (hv : w.cell? ⟨bv, 0, none⟩ = some (.slice a n k)) (hj : Jl w a .u64 n (fun i => (q i : Int))) :
  Calls Tryz.prog 115 #[.func (.func 117) #[] #[.pointer (some ⟨bv, 0, none⟩)]] w fun e w' => ∃ s d, e = .returned (.slice s n d) ∧ Jo w' w.heap.size 26 .u64 (.slice s n d) n q ∧ Below w.heap.size w w' := by
 have HC : Hid (∃ P : Ending → World → Prop, P = (fun e w' => ∃ s d, e = .returned (.slice s n d) ∧ Jo w' w.heap.size 26 .u64 (.slice s n d) n q ∧ Below w.heap.size w w')) := ⟨_, rfl⟩
 have HA := jhidv (appseq16 w a n k bv q hn hv hj)
 clear hv hj HC
 go_enter Tryz.func115, Tryz.ntmps115
 go_wp2_with (go_at_call 129; refine HA.out.mono ?_; rintro e w1 ⟨s, d, rfl, ho, hb⟩; have HO : Hid (Jo w1 w.heap.size 26 .u64 (.slice s n d) n q) := ho; have HB : Hid (Below w.heap.size w w1) := hb; clear ho hb)
 go_ret
 exact ⟨s, d, rfl, HO.out, HB.out⟩
end Go.Proofs.YtlmanliinncdiaaGreat
