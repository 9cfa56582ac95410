/-
  slices.Values over a list of sets, and slices.Collect of it: a list of its own with the same sets.
  slices.Sorted and slices.Compact of a list of one set.
  What the program's matroid rests on: spans told by kernels, rows of noughts, factors of combinations. No Go in sight.
  Groups that hang together: allNought, hang.
  Groups that hang together: hang.
  A code with one group: allHang, isGenerator, May; the laws' anchor.
-/
import Derived.Test.YtmgfeepnkahkmaaGreatQggid00
import Derived.Test.YtmgfeepnkahkmaaGreatQggid37
import Derived.RangeFuncNested
import Derived.RangeFuncCalls
import Derived.RangeFuncLeaves
import Derived.RangeFuncBound
import Derived.RangeFuncKeeps
import Derived.RangeFuncFrom
import Derived.Shelf.Abstract
import Derived.Shelf.RegionOpen
import Derived.LoopNIn
import Derived.LoopIn
import Derived.TacticsInMore
import Derived.OwnWalkIn
import Derived.Test.YtmgfeepnkahkmaaGreatQggid38
import Derived.Test.YtmgfeepnkahkmaaGreatQggid25
import Derived.Test.YtmgfeepnkahkmaaGreatQggid26
import Derived.Test.YtmgfeepnkahkmaaGreatQggid22
import Derived.Test.YtmgfeepnkahkmaaGreatQggid41
import Derived.Test.YtmgfeepnkahkmaaGreatQggid31
import Derived.Test.YtmgfeepnkahkmaaGreatQggid13
import Derived.Test.YtmgfeepnkahkmaaGreatQggid12
set_option maxRecDepth 100000
set_option maxHeartbeats 16000000
namespace Go.Proofs.YtmgfeepnkahkmaaGreat
open Go.RowKit Go.Shelf
attribute [local go_sem] Oper.semAt_some
theorem jhidv {p : Prop} (h : p) : Hid p := h
theorem qhl (w : World) (a : Option Addr) (n k : Nat) :
  Calls Tryz.prog 74 #[.slice a n k] w fun e w' => e = .returned (.func (.func 94) #[] #[.pointer (some ⟨w.heap.size, 0, none⟩)]) ∧ w.alloc (.cells #[.slice a n k] 25) = w' := by
 have hmf : ∀ (fn : Fn) (first cap : Array Value) (w : World), (Instr.makeFunc fn first cap).run Tryz.prog w = .ok (.func fn first cap) w := fun _ _ _ _ => rfl
 go_enter Tryz.func74, Tryz.ntmps74
 go_wp2
 go_ret
 exact ⟨rfl, rfl⟩
theorem values_in (m l n k bv : Nat) (a : Option Addr) (q : Nat → Nat) (W0 : World) (T : Nat → World → Prop) (hm : 1 ≤ m) (hn : n ≤ 17592186044416)
  (hC : ∀ j W, T j W → W.cell? ⟨bv, 0, none⟩ = some (.slice a n k) ∧ Jl W a .u64 n (fun i => (q i : Int)))
  (hY : ∀ j W, j < n → T j W → YieldAt Fence.wide (m - 1) Tryz.prog l #[.int .u64 (q j : Nat)] W (fun e W' => e = .returned (.bool true) ∧ T (j + 1) W'))
  (h0 : T 0 W0) :
  CallsIn Fence.wide m Tryz.prog 94 #[.func (.yield l) #[] #[], .pointer (some ⟨bv, 0, none⟩)] W0 fun e W' => (∃ v, e = .returned v) ∧ T n W' := by
 have HC := jhidv hC
 have HYd := jhidv hY
 have H0 : Hid (T 0 W0) := h0
 have c1 := (hC 0 W0 h0).1
 clear hC hY h0
 refine callsIn_of_wp Tryz.func94 rfl trivial ?_ rfl
 simp only [Tryz.ntmps94, List.size_toArray, List.length_cons, List.length_nil, Nat.reduceAdd, Nat.reduceSub, Array.replicate_succ, Array.replicate_zero, List.push_toArray, List.append_toArray, List.nil_append, List.cons_append]
 gi_wp2
 gi_loopw [4, 7] (fun _ vi wr => ∃ j : Nat, j ≤ n ∧ vi = .int .i64 (j : Int) ∧ T j wr) (fun _ vi _ => n - (intOf vi).toNat)
 case atStart => exact ⟨0, by omega, rfl, H0.out⟩
 case round =>
  clear H0 c1
  obtain ⟨j, hj, rfl, hT⟩ := hrel
  have HT : Hid (T j wr) := hT
  by_cases hlt : j < n
  ·obtain ⟨x, o, ea, hc⟩ := (HC.out j wr hT).2 j hlt
   obtain ⟨y, HY⟩ : ∃ y, Hid (q j = y) := ⟨_, rfl⟩
   have hc2 : wr.cell? ⟨x, o + j, none⟩ = some (.int .u64 (y : Int)) := by rw [← HY.out]; exact hc
   obtain ⟨fn, tmps, assign, body, hy, hR⟩ := HYd.out j wr hlt hT
   rw [HY.out] at hy
   have HRd := jhidv hR
   have p0 : (0 : Int) ≤ (j : Int) := by omega
   have p1 : (j : Int) < (n : Int) := by omega
   subst ea
   clear hR hT hc
   gi_wp2
   refine HRd.out.mono ?_
   rintro e W3 ⟨rfl, ht3⟩
   have HT3 : Hid (T (j + 1) W3) := ht3
   clear ht3 hy HRd
   gi_wp2
   exact ⟨⟨j + 1, by omega, by go_num, HT3.out⟩, by simp [intOf]; omega⟩
  ·obtain rfl : j = n := by omega
   clear hT
   gi_wp2
   go_end0
   exact ⟨⟨_, rfl⟩, HT.out⟩
/-- A round's body goes on. -/
def rndV (Kp : Nat → World → Prop) (j B : Nat) (W : World) : Exit → Act → World → Prop
 | .normal, _, W' => Kp (j + 1) W' ∧ W'.heap[B]? = W.heap[B]? ∧ W'.heap[B + 1]? = W.heap[B + 1]?
 | _, _, _ => False
theorem qii {gop : Operand} {p : Tmp} {assign body : Code} {Q : Exit → Act → World → Prop} {a : Act} {w : World} {nn n k bv : Nat} {sa : Option Addr} (q : Nat → Nat) (Kp : Nat → World → Prop)
  (hnn : 2 ≤ nn) (hn : n ≤ 17592186044416)
  (hg : a.eval gop = .func (.func 94) #[] #[.pointer (some ⟨bv, 0, none⟩)])
  (hKp : ∀ j W W', Kp j W → W.grownBy W' (some (w.heap.size + 1)) → Kp j W')
  (hKc : ∀ j W, Kp j W → W.cell? ⟨bv, 0, none⟩ = some (.slice sa n k) ∧ Jl W sa .u64 n (fun i => (q i : Int)))
  (h0 : ∀ W1, Below w.heap.size w W1 → w.heap.size + 2 ≤ W1.heap.size → Kp 0 W1) (a₁ : Nat → Act)
  (hassign : ∀ (l s : Nat) (W : World) (K : Act → World → Prop), K (a₁ s) W → assign.wpIn (Fence.wide.inRound l) (nn - 1 - 1) Tryz.prog (Exit.then K (fun _ _ _ => False)) { tmps := a.tmps.setIfInBounds p (.int .u64 (s : Int)), defers := [] } W)
  (hbody : ∀ (l j : Nat) (W : World), j < n → Kp j W → body.wpIn (Fence.wide.inRound l) (nn - 1 - 1) Tryz.prog (rndV Kp j w.heap.size W) (a₁ (q j)) W)
  (hdone : ∀ (D : Nat) (W : World), w.heap.size = D → Kp n W → W.heap[D]? = some (.deferred (some [])) → Q .normal { a with defers := { target := .collected D, args := #[] } :: a.defers } W) :
  (Code.rangeFunc gop #[p] assign body).wpIn Fence.wide nn Tryz.prog Q a w := by
 refine wpIn_rangeFunc ?_
 intro fn hfn
 obtain ⟨rc, hrc⟩ : ∃ rc : LoopState → Option Code → Loop, rc = fun st pe => { state := st, pending := pe, fn, tmps := a.tmps, params := #[p], assign, body, defers := w.heap.size } := ⟨_, rfl⟩
 obtain ⟨W1, hW1⟩ : ∃ W1, (w.alloc (.deferred (some []))).alloc (.loop (rc .ready none)) = W1 := ⟨_, rfl⟩
 have hs1 : W1.heap.size = w.heap.size + 2 := by rw [← hW1]; simp
 have hL1 : W1.heap[w.heap.size + 1]? = some (.loop (rc .ready none)) := by rw [← hW1]; exact heap_alloc2_new _ _ _
 have hD1 : W1.heap[w.heap.size]? = some (.deferred (some [])) := by rw [← hW1]; exact heap_alloc2_old _ _ _
 have hb1 : Below w.heap.size w W1 := by rw [← hW1]; exact jtwo (jlow _ _) (jlow _ _)
 have hK1 : Kp 0 W1 := h0 W1 hb1 (by omega)
 have put : ∀ (W : World) (o : Obj), W.grownBy (W.putObj (w.heap.size + 1) o) (some (w.heap.size + 1)) := fun W o => grownBy_putObj' W (w.heap.size + 1) o
 refine ⟨w.heap.size + 1, [{ target := .collected w.heap.size, args := #[] }], W1, { target := .fn (.func 94) #[.pointer (some ⟨bv, 0, none⟩)], args := #[.func (.yield (w.heap.size + 1)) #[] #[]] }, W1, 94,
  #[.func (.yield (w.heap.size + 1)) #[] #[]] ++ #[.pointer (some ⟨bv, 0, none⟩)], W1, ?_, ?_, ?_, ?_, fun h => (by cases h), ?_⟩
 ·rw [← hW1, hrc]; exact run_enterLoop_outer _ _ _ _ _
 ·simp only [resolve, hg]
  simp [go_sem]
 ·intro f' _; trivial
 ·simp [invoke, go_sem]
 ·refine (values_in (nn - 1) (w.heap.size + 1) n k bv sa q W1
   (fun j W => Kp j W ∧ W.heap[w.heap.size + 1]? = some (.loop (rc .ready none)) ∧ W.heap[w.heap.size]? = some (.deferred (some [])))
   (by omega) hn (fun j W h => hKc j W h.1) ?_ ⟨hK1, hL1, hD1⟩).mono ?_
  ·rintro j W hj ⟨h1, h2, h3⟩
   have l2 := lt_of_block h2
   have hy := run_yield (P := Tryz.prog) (args := #[.int .u64 (q j : Nat)]) h2 (by rw [hrc]; rfl)
   rw [hrc] at hy
   refine ⟨fn, _, assign, body, hy, roundIn_of_wpIn hfn ?_⟩
   have htm : ((#[p] : Array Tmp).zip #[Value.int .u64 (q j : Nat)]).foldl (fun tmps (t, a) => tmps.setIfInBounds t a) a.tmps = a.tmps.setIfInBounds p (.int .u64 (q j : Nat)) := by simp
   rw [htm]
   refine hassign _ (q j) W _ ?_
   refine ⟨_, run_beginRound h2 (by rw [hrc]), ?_⟩
   obtain ⟨W2, hW2⟩ : ∃ W2, W.putObj (w.heap.size + 1) (.loop { rc .ready none with state := .busy }) = W2 := ⟨_, rfl⟩
   have hg2 : W.grownBy W2 (some (w.heap.size + 1)) := by rw [← hW2]; exact put _ _
   have k2 : Kp j W2 := hKp j W W2 h1 hg2
   have h22 : W2.heap[w.heap.size + 1]? = some (.loop { rc .ready none with state := .busy }) := by rw [← hW2]; exact World.putObj_heap_same l2
   have h32 : W2.heap[w.heap.size]? = some (.deferred (some [])) := by rw [hg2.block _ (lt_of_block h3) (fun e => by simp at e)]; exact h3
   rw [hW2]
   refine wpIn_mono (hbody _ j W2 hj k2) ?_
   rintro e a3 W3 hp
   cases e with
   | normal =>
    obtain ⟨hk3, hb3, hb4⟩ := hp
    have hl3 : W3.heap[w.heap.size + 1]? = some (.loop { rc .ready none with state := .busy }) := by rw [hb4]; exact h22
    have hd3 : W3.heap[w.heap.size]? = some (.deferred (some [])) := by rw [hb3]; exact h32
    have hend := run_endRound (P := Tryz.prog) none hl3
    refine ⟨_, _, hend, rfl, hKp (j + 1) W3 _ hk3 (put _ _), ?_, ?_⟩
    ·rw [World.putObj_heap_same (lt_of_block hl3), hrc]; rfl
    ·exact (World.putObj_heap_other (by omega)).trans hd3
   | exit id => exact hp.elim
   | ret => exact hp.elim
   | goto t => exact hp.elim
   | panic ch => exact hp.elim
   | outgrown => exact hp.elim
  ·rintro e W2 ⟨⟨v, rfl⟩, ⟨h1, h2, h3⟩⟩
   refine ⟨none, _, by have := run_endLoop (P := Tryz.prog) h2 (by rw [hrc]; simp); rw [hrc] at this; exact this, ?_⟩
   exact hdone _ _ rfl (hKp n W2 _ h1 (put _ _)) ((World.putObj_heap_other (by omega)).trans h3)
/-- What is kept while a list is gathered. -/
structure GaI (w W : World) (bv n k : Nat) (a : Option Addr) (q : Nat → Nat) (j : Nat) : Prop where
 ex : ∃ s d, Vq W w.heap.size 25 #[.slice s j d] ∧ Jo W (w.heap.size + 3) 52 .u64 (.slice s j d) j q
 src : W.cell? ⟨bv, 0, none⟩ = some (.slice a n k) ∧ Jl W a .u64 n (fun i => (q i : Int))
 below : Below w.heap.size w W
 size : w.heap.size + 3 ≤ W.heap.size
theorem appseq16 (w : World) (a : Option Addr) (n k bv : Nat) (q : Nat → Nat) (hn : n ≤ 17592186044416) (hv : w.cell? ⟨bv, 0, none⟩ = some (.slice a n k)) (hj : Jl w a .u64 n (fun i => (q i : Int))) :
  Calls Tryz.prog 115 #[.slice none 0 0, .func (.func 94) #[] #[.pointer (some ⟨bv, 0, none⟩)]] w fun e w' => ∃ s d, e = .returned (.slice s n d) ∧ Jo w' w.heap.size 52 .u64 (.slice s n d) n q ∧ Below w.heap.size w w' := by
 obtain ⟨u0, hu0, hy0, hy1, hy2⟩ := info_parts ju64
 obtain ⟨wb, HW⟩ : ∃ wb, Hid (w.alloc (.cells #[.slice none 0 0] 25) = wb) := ⟨_, rfl⟩
 have hsb : wb.heap.size = w.heap.size + 1 := by rw [← HW.out, qal]
 have HBb : Hid (Below w.heap.size w wb) := by rw [← HW.out]; exact qa1 _ _
 have HVb : Hid (Vq wb w.heap.size 25 #[.slice none 0 0]) := by rw [← HW.out]; exact Vq.new w _ _
 have hbvw : bv < w.heap.size := qen hv
 have HS : Hid (w.cell? ⟨bv, 0, none⟩ = some (.slice a n k) ∧ Jl w a .u64 n (fun i => (q i : Int))) := ⟨hv, hj⟩
 have HAw : Hid (∀ i, i < n → ∀ x, a = some x → x.block < w.heap.size) := fun i hi x hx => by
  obtain ⟨b, o, e, hc⟩ := hj i hi
  rw [e] at hx
  cases hx
  exact qen hc
 clear hv hj
 refine (callsIn_wide (n := 4)).1 (callsIn_of_wp_marks Tryz.func115 rfl trivial ?_ rfl)
 simp only [Tryz.ntmps115, List.size_toArray, List.length_cons, List.length_nil, Nat.reduceAdd, Nat.reduceSub, Array.replicate_succ, Array.replicate_zero, List.push_toArray, List.append_toArray, List.nil_append, List.cons_append]
 refine wpIn_wide.2 ?_
 go_wp2
 rw [HW.out]
 refine (wpIn_wide (n := 4)).1 ?_
 refine qii (nn := 4) (n := n) (k := k) (bv := bv) (sa := a) q (fun j W => GaI w W bv n k a q j) (by omega) hn rfl ?hKp ?hKc ?h0
  (fun s => { tmps := #[.slice none 0 0, .func (.func 94) #[] #[.pointer (some ⟨bv, 0, none⟩)], .pointer (some ⟨w.heap.size, 0, none⟩), undef, .slice none 0 0, .int .u64 (s : Int), .func (.func 94) #[] #[.pointer (some ⟨bv, 0, none⟩)], .int .u64 (s : Int), undef, undef, undef, undef, undef], defers := [] }) ?hassign ?hbody ?hdone
 case hKp =>
  rintro j W W' ⟨⟨s, d, h1, h2⟩, h3, h4, h5⟩ hg
  rw [hsb] at hg
  refine ⟨⟨s, d, h1.kept hg (by omega), h2.kept hg (qfa h2 (by omega))⟩, ⟨?_, fun i hi => ?_⟩, h4.grown hg h4.size (fun g e => by cases e; omega), Nat.le_trans h5 hg.size⟩
  ·rw [World.cell?_of_block (a := ⟨bv, 0, none⟩) (hg.block bv (by omega) (fun e => by cases e; omega))]; exact h3.1
  ·obtain ⟨b, o, e, hc⟩ := h3.2 i hi
   have hb := HAw.out i hi _ e
   exact ⟨b, o, e, by rw [World.cell?_of_block (a := ⟨b, o + i, none⟩) (hg.block b (by show b < _; have : b < w.heap.size := hb; omega) (fun e => by cases e; have : w.heap.size + 1 + 1 < w.heap.size := hb; omega))]; exact hc⟩
 case hKc => exact fun j W h => h.src
 case h0 =>
  intro W1 hb hs
  have hBW : Below w.heap.size w W1 := jtwo HBb.out hb
  exact ⟨⟨none, 0, HVb.out.later hb, Jo.nil _ _ _ _ _⟩, ⟨keepc hBW HS.out.1, HS.out.2.later hBW⟩, hBW, by omega⟩
 case hassign =>
  intro l s W1 K hK
  gi_wp2
  exact hK
 case hbody =>
  rintro l j W hj ⟨⟨s, d, h1, h2⟩, h3, h4, h5⟩
  have HV : Hid (Vq W w.heap.size 25 #[.slice s j d]) := h1
  have HJ : Hid (Jo W (w.heap.size + 3) 52 .u64 (.slice s j d) j q) := h2
  have HB : Hid (Below w.heap.size w W) := h4
  have c0 := h1.cell 0 _ rfl
  obtain ⟨y, HY⟩ : ∃ y, Hid (q j = y) := ⟨_, rfl⟩
  rw [HY.out]
  have hml : j + 1 ≤ maxLen := by unfold maxLen; omega
  clear h1 h2 h4
  gi_wp2_with (gi_at_builtin; refine wpListIn_append_own _ rfl _ _ 25 rfl (w.heap.size + 3) 52 u0 (.int .u64 0) 1 8 Tryz.underlying25 hu0 hy0 hy1 hy2 rfl (by decide) _ j (jrow .u64 j q).toList rfl (World.ownsRow.alloc HJ.out _) ⟨W.heap.size, 0, none⟩ 1 1 [.int .u64 (y : Int)] rfl rfl (qcn _ _ _ _) (qco _ _) hml (by omega) (by simp; omega) ?_; intro v3 w3 hown3 hgrow3 _; have HO3 : Hid (Jo w3 (w.heap.size + 3) 52 .u64 v3 (j + 1) q) := (by show World.ownsRow _ _ _ _ _ _ _; rw [← qe5, HY.out]; exact hown3); have HB3 : Hid (Below (w.heap.size + 3) W w3) := ((Below.refl _ _).alloc h5 _).grown hgrow3 (by simp; omega) (qab HJ.out); have HV3 : Hid (Vq w3 w.heap.size 25 #[.slice s j d]) := HV.out.lowB HB3.out (by omega); have c3 := HV3.out.cell 0 _ rfl; have f3 := HV3.out.free 0; obtain ⟨s3, d3, e3, _⟩ := HO3.out.form; subst e3; clear hown3 hgrow3)
  have gs := qa2 w3 w.heap.size 0 (.slice s3 (j + 1) d3)
  have hb3 := HB3.out.size
  refine ⟨⟨⟨s3, d3, HV3.out.set 0 _, HO3.out.kept gs (qfa HO3.out (by omega))⟩, ⟨?_, fun i hi => ?_⟩, (HB.out.trans (HB3.out.mono (by omega))).grown gs (by have := HB.out.size; omega) (fun g e => by cases e; omega), ?_⟩, ?_, ?_⟩
  ·rw [World.cell?_of_block (a := ⟨bv, 0, none⟩) (gs.block bv (by omega) (fun e => by cases e; omega)), HB3.out.cell (p := ⟨bv, 0, none⟩) (by show bv < _; omega)]; exact h3.1
  ·obtain ⟨b, o, e, hc⟩ := h3.2 i hi
   have hb : b < w.heap.size := HAw.out i hi _ e
   exact ⟨b, o, e, by rw [World.cell?_of_block (a := ⟨b, o + i, none⟩) (gs.block b (by omega) (fun e => by cases e; omega)), HB3.out.cell (p := ⟨b, o + i, none⟩) (by show b < _; omega)]; exact hc⟩
  ·have : (w3.setCell ⟨w.heap.size, 0, none⟩ (.slice s3 (j + 1) d3)).heap.size = w3.heap.size := by simp
   omega
  ·rw [hsb, gs.block _ (by omega) (fun e => by have h := Option.some.inj e; omega), HB3.out.block _ (by omega)]
  ·rw [hsb, gs.block _ (by omega) (fun e => by have h := Option.some.inj e; omega), HB3.out.block _ (by omega)]
 case hdone =>
  rintro D W hD ⟨⟨s, d, h1, h2⟩, h3, h4, h5⟩ hdf
  have HDf := jhidv hdf
  have HJ : Hid (Jo W (w.heap.size + 3) 52 .u64 (.slice s n d) n q) := h2
  have HB : Hid (Below w.heap.size w W) := h4
  have c0 := h1.cell 0 _ rfl
  clear hdf h1 h2 h3 h4
  go_wp2
  have hB9 := HB.out.grown (grownBy_putObj' W D (.deferred none)) HB.out.size (fun g e => by cases e; omega)
  have hJ9 := HJ.out.kept (grownBy_putObj' W D (.deferred none)) (qfa HJ.out (by omega))
  refine ⟨by simp, .inl ⟨_, _, rfl, run_takeDeferred HDf.out, ?_⟩⟩
  refine ⟨.slice s n d, by simp [results, Tryz.results115, go_sem], ?_⟩
  exact ⟨s, d, rfl, hJ9.mono (by omega), hB9⟩
theorem qfu (w : World) (a : Option Addr) (n k bv : Nat) (q : Nat → Nat) (hn : n ≤ 17592186044416) (hv : w.cell? ⟨bv, 0, none⟩ = some (.slice a n k)) (hj : Jl w a .u64 n (fun i => (q i : Int))) :
  Calls Tryz.prog 92 #[.func (.func 94) #[] #[.pointer (some ⟨bv, 0, none⟩)]] w fun e w' => ∃ s d, e = .returned (.slice s n d) ∧ Jo w' w.heap.size 52 .u64 (.slice s n d) n q ∧ Below w.heap.size w w' := by
 have HC : Hid (∃ P : Ending → World → Prop, P = (fun e w' => ∃ s d, e = .returned (.slice s n d) ∧ Jo w' w.heap.size 52 .u64 (.slice s n d) n q ∧ Below w.heap.size w w')) := ⟨_, rfl⟩
 have HA := jhidv (appseq16 w a n k bv q hn hv hj)
 clear hv hj HC
 go_enter Tryz.func92, Tryz.ntmps92
 go_wp2_with (go_at_call 115; refine HA.out.mono ?_; rintro e w1 ⟨s, d, rfl, ho, hb⟩; have HO : Hid (Jo w1 w.heap.size 52 .u64 (.slice s n d) n q) := ho; have HB : Hid (Below w.heap.size w w1) := hb; clear ho hb)
 go_ret
 exact ⟨s, d, rfl, HO.out, HB.out⟩
open Go.RowKit
theorem ins1 (w : World) (a : Option Addr) (n k : Nat) : Calls Tryz.prog 128 #[.slice a n k, .int .i64 0, .int .i64 1] w fun e w' => e = .returned (.tuple #[]) ∧ w = w' := by
 go_enter Tryz.func128, Tryz.ntmps128
 go_wp2
 go_loopw [6] (fun vi wr => vi = .int .i64 1 ∧ w = wr) (fun _ _ => 0)
 case atStart => exact ⟨rfl, rfl⟩
 case round =>
  obtain ⟨rfl, rfl⟩ := hrel
  go_wp2
  go_end0
  exact ⟨rfl, rfl⟩
theorem pdq1 (w : World) (a : Option Addr) (n k : Nat) (L : Int) : Calls Tryz.prog 116 #[.slice a n k, .int .i64 0, .int .i64 1, .int .i64 L] w fun e w' => e = .returned (.tuple #[]) ∧ w = w' := by
 go_enter Tryz.func116, Tryz.ntmps116
 go_wp2
 refine wp_loop_rounds 1 ?_
 rw [rounds_succ]
 go_wp2_with (go_at_call 128; refine (ins1 _ _ _ _).mono ?_; rintro e w' ⟨rfl, rfl⟩)
 refine bodyPost_ret (v := .tuple #[]) (by simp [results, Tryz.results116, go_sem]) rfl ?_
 exact ⟨rfl, rfl⟩
theorem sort1 (w : World) (a : Option Addr) (k : Nat) : Calls Tryz.prog 93 #[.slice a 1 k] w fun e w' => e = .returned (.tuple #[]) ∧ w = w' := by
 obtain ⟨L, hL⟩ := len16 w 1 (by omega) (by omega)
 have HL : Hid (Calls Tryz.prog 117 #[.int .u64 1] w fun e w' => e = .returned (.int .i64 L) ∧ w = w') := hL
 clear hL
 go_enter Tryz.func93, Tryz.ntmps93
 go_wp2_with (first
  | (go_at_call 117; refine HL.out.mono ?_; rintro e w' ⟨rfl, rfl⟩)
  | (go_at_call 116; refine (pdq1 _ _ _ _ _).mono ?_; rintro e w' ⟨rfl, rfl⟩))
 go_end0
 exact ⟨rfl, rfl⟩
theorem sorted1 (w : World) (a : Option Addr) (k bv q : Nat) (hv : w.cell? ⟨bv, 0, none⟩ = some (.slice a 1 k)) (hj : Jl w a .u64 1 (fun _ => (q : Int))) :
  Calls Tryz.prog 73 #[.func (.func 94) #[] #[.pointer (some ⟨bv, 0, none⟩)]] w fun e w' => ∃ s d, e = .returned (.slice s 1 d) ∧ Jo w' w.heap.size 52 .u64 (.slice s 1 d) 1 (fun _ => q) ∧ Below w.heap.size w w' := by
 have HC := jhidv (qfu w a 1 k bv (fun _ => q) (by omega) hv hj)
 clear hv hj
 go_enter Tryz.func73, Tryz.ntmps73
 go_wp2_with (first
  | (go_at_call 92; refine HC.out.mono ?_; rintro e w1 ⟨s, d, rfl, ho, hb⟩; have HO : Hid (Jo w1 w.heap.size 52 .u64 (.slice s 1 d) 1 (fun _ => q)) := ho; have HB : Hid (Below w.heap.size w w1) := hb; clear ho hb)
  | (go_at_call 93; refine (sort1 _ _ _).mono ?_; rintro e w' ⟨rfl, rfl⟩))
 go_ret
 exact ⟨s, d, rfl, HO.out, HB.out⟩
theorem compact1 (w : World) (a : Option Addr) (k : Nat) : Calls Tryz.prog 72 #[.slice a 1 k] w fun e w' => e = .returned (.slice a 1 k) ∧ w = w' := by
 go_enter Tryz.func72, Tryz.ntmps72
 go_wp2
 go_ret
 exact ⟨rfl, rfl⟩
open Go.RowKit
theorem dt_comm7 {x y : Nat → Nat} (hx : El x) (hy : El y) (c : Nat) : dt x y c = dt y x c := qa7 (fun l _ => qaf _ _ (hx l) (hy l))
theorem qkt {G PF : Nat → Nat} {K c : Nat} (hS : SpEq (m2 G K c) K (m2 PF K c) K) : El2 (m2 G K c) := fun i j => by
 by_cases hi : i < K
 ·exact (hS.1 i hi).el j
 ·rw [m2_low _ (by omega)]; decide
/-- A list is a combination of some rows just if its Dots with the kernel's lists are 0. -/
theorem ker_dots {PF G H p : Nat → Nat} {K c kr top : Nat} (hR : Rdf (m2 G K c) K top p) (hS : SpEq (m2 G K c) K (m2 PF K c) K) (hc : ∀ i, i < top → p i < c) (ek : kr = cnt (fre p top) c)
  (eH : ∀ u l, u < kr → l < c → H (u * c + l) = kv (m2 G K c) p top (nth (fre p top) c u) l) {y : Nat → Nat} (hy : El y) (h0 : ∀ j, c ≤ j → y j = 0) :
  Spn (m2 PF K c) K y ↔ ∀ u, u < kr → xs (fun l => fm (y l) (H (u * c + l))) c = 0 := by
 have hG := qkt hS
 have key : ∀ u, u < kr → xs (fun l => fm (y l) (H (u * c + l))) c = dt (kv (m2 G K c) p top (nth (fre p top) c u)) y c := fun u hu => by
  rw [dt_comm7 (qj2 hG p top _) hy]
  exact qa7 (fun l hl => by rw [eH u l hu hl])
 constructor
 ·intro h u hu
  rw [key u hu]
  obtain ⟨a, b, _⟩ := qbm (fre p top) c u (by omega)
  exact qjm hG hR hc (Spn.trans h hS.2) a (by simpa [fre] using b)
 ·intro h
  refine Spn.trans (chk_span hG hR hc (fun i j _ hj => qat _ hj) hy h0 (fun f hf hp => ?_)) hS.1
  have hfr : fre p top f = true := by simp [fre, hp]
  have h1 := cnt_lt hf hfr
  have h2 := h (cnt (fre p top) f) (by omega)
  rw [key _ (by omega), qg8 hf hfr] at h2
  exact h2
/-- Column j of the kernel has noughts alone just if the rows' span has the list that is 1 there and 0 elsewhere. -/
theorem qku {PF G H p : Nat → Nat} {K c kr top : Nat} (hR : Rdf (m2 G K c) K top p) (hS : SpEq (m2 G K c) K (m2 PF K c) K) (hc : ∀ i, i < top → p i < c) (ek : kr = cnt (fre p top) c)
  (eH : ∀ u l, u < kr → l < c → H (u * c + l) = kv (m2 G K c) p top (nth (fre p top) c u) l) {j : Nat} (hj : j < c) :
  Spn (m2 PF K c) K (dl j) ↔ ∀ u, u < kr → H (u * c + j) = 0 := by
 rw [ker_dots hR hS hc ek eH (dl_el j) (fun l hl => qes (by omega))]
 have hG := qkt hS
 have key : ∀ u, u < kr → xs (fun l => fm (dl j l) (H (u * c + l))) c = H (u * c + j) := fun u hu => by
  rw [qbu hj (fun l _ hne => by rw [qes hne, qad]), qbk, eH u j hu hj, qay _ (qj2 hG p top _ j)]
 exact ⟨fun h u hu => by rw [← key u hu]; exact h u hu, fun h u hu => by rw [key u hu]; exact h u hu⟩
/-- A combination that comes to noughts, in which the row i of s has a factor that is not 0: the row is a combination of the others. -/
theorem dep_ss {M : Nat → Nat → Nat} (hM : El2 M) {R s i : Nat} (hR : R ≤ 64) (hs : s < 2 ^ R) (hi : i < R) (hb : bt s i = 1) {x : Nat → Nat} (hx : El x) (h0 : ∀ j, lc x (fun t => M (lf s R t)) (cn s R) j = 0) (hne : x (cn s i) ≠ 0) : SS M R (rem s i) (M i) := by
 have hs64 := qfp hR hs
 obtain ⟨hK, hlf⟩ := lf_cn hi hb
 have h1 : Spn (mk M (rem s i)) R (lc (fun t => if t = cn s i then 0 else x t) (fun t => M (lf s R t)) (cn s R)) := qg9 (fun t => by show (if t = cn s i then 0 else x t) < 256; split; decide; exact hx t) (fun t ht hnz => by
  by_cases e : t = cn s i
  ·rw [if_pos e] at hnz; exact absurd rfl hnz
  ·obtain ⟨a, b, c⟩ := qan ht
   exact qek hM a ((qkr hs64 (by omega) _).2 ⟨b, fun e2 => e (by rw [← c, e2])⟩))
 have h2 : ∀ j, lc (fun t => if t = cn s i then 0 else x t) (fun t => M (lf s R t)) (cn s R) j = fm (x (cn s i)) (M i j) := fun j => by
  have e1 : lc x (fun t => M (lf s R t)) (cn s R) j = lc (fun t => (if t = cn s i then x (cn s i) else 0) ^^^ (if t = cn s i then 0 else x t)) (fun t => M (lf s R t)) (cn s R) j := qbl (fun t _ => by
   by_cases e : t = cn s i
   ·rw [if_pos e, if_pos e, Nat.xor_zero, e]
   ·rw [if_neg e, if_neg e, Nat.zero_xor]) (fun _ _ => rfl)
  have e2 := h0 j
  rw [e1, lc_add (fun t => by show (if t = cn s i then x (cn s i) else 0) < 256; split; exact hx _; decide) (fun t => by show (if t = cn s i then 0 else x t) < 256; split; decide; exact hx t)] at e2
  rw [← qix e2]
  unfold lc
  rw [qbu hK (fun k _ hk => by show fm (if k = cn s i then x (cn s i) else 0) _ = 0; rw [if_neg hk, qad])]
  show fm (if cn s i = cn s i then x (cn s i) else 0) (M (lf s R (cn s i)) j) = _
  rw [if_pos rfl, hlf]
 refine (qb1 (qac (x (cn s i))) h1).congr (fun j => ?_)
 rw [h2 j, ← qah _ _ _ (qac _) (hx _), qaf _ _ (qac _) (hx _), qav _ (hx _) hne, qay _ (hM i j)]
/-- A row is needed just if its factors in the combinations that come to noughts are 0. -/
theorem qhp {F G H p : Nat → Nat} {r c n s i kr top : Nat} (hF : ∀ i, i < n → F i < 256) (R : Rt r c n) (hs : s < 2 ^ r) (hi : i < r) (hb : bt s i = 1)
  (hR : Rdf (m2 G c (cn s r)) c top p) (hS : SpEq (m2 G c (cn s r)) c (m2 (trf (pkf F (lf s r) c) (cn s r) c) c (cn s r)) c) (hc : ∀ i, i < top → p i < cn s r) (ek : kr = cnt (fre p top) (cn s r))
  (eH : ∀ u l, u < kr → l < cn s r → H (u * cn s r + l) = kv (m2 G c (cn s r)) p top (nth (fre p top) (cn s r) u) l) :
  (∀ u, u < kr → H (u * cn s r + cn s i) = 0) ↔ ¬ SS (m2 F r c) r (rem s i) (m2 F r c i) := by
 have hM := qf0 hF R
 have hr64 := R.r64
 have hs64 := qfp R.r64 hs
 have hG := qkt hS
 obtain ⟨hK, hlf⟩ := lf_cn hi hb
 have eT : ∀ j u, j < c → u < cn s r → m2 (trf (pkf F (lf s r) c) (cn s r) c) c (cn s r) j u = m2 F r c (lf s r u) j := fun j u hj hu => qia F (fun t ht => (qan ht).1) j u hj hu
 have hT : El2 (m2 (trf (pkf F (lf s r) c) (cn s r) c) c (cn s r)) := fun j u => by
  by_cases hj : j < c
  ·by_cases hu : u < cn s r
   ·rw [eT j u hj hu]; exact hM _ _
   ·rw [qat _ (by omega)]; decide
  ·rw [m2_low _ (by omega)]; decide
 rw [← qku hR hS hc ek eH hK]
 constructor
 ·rintro ⟨b, hbe, e⟩ hss
  have hdot : ∀ u, u < cn s r → dt (m2 F r c (lf s r u)) b c = dl (cn s i) u := fun u hu => by
   rw [e u]
   exact qa7 (fun j hj => by rw [eT j u hj hu]; exact qaf _ _ (hM _ _) (hbe j))
  have h1 : dt (m2 F r c i) b c = 1 := by
   have := hdot _ hK
   rw [hlf, qbk] at this
   exact this
  have h2 : dt (m2 F r c i) b c = 0 := qga (qko hM _) hss (fun j hj => by
   by_cases hbj : bt (rem s i) j = 1
   ·rw [mk_in hbj]
    obtain ⟨h3, h4⟩ := (qkr hs64 (by omega) j).1 hbj
    obtain ⟨h5, h6⟩ := lf_cn hj h3
    have h7 := hdot _ h5
    rw [h6] at h7
    rw [h7]
    refine qes (fun e => h4 ?_)
    rw [← h6, e, hlf]
   ·rw [mk_out hbj]
    exact qaj (fun l _ => qad _))
  omega
 ·intro hn
  rw [qku hR hS hc ek eH hK]
  intro u hu
  apply Classical.byContradiction
  intro hne
  obtain ⟨a, b, _⟩ := qbm (fre p top) (cn s r) u (by omega)
  have hk0 := hR.kv hG hc (f := nth (fre p top) (cn s r) u) (by simpa [fre] using b) a
  have hx := qj2 hG p top (nth (fre p top) (cn s r) u)
  rw [eH u _ hu hK] at hne
  refine hn (dep_ss hM R.r64 hs hi hb hx (fun j => ?_) hne)
  by_cases hj : j < c
  ·have h1 : dt (m2 (trf (pkf F (lf s r) c) (cn s r) c) c (cn s r) j) (kv (m2 G c (cn s r)) p top (nth (fre p top) (cn s r) u)) (cn s r) = 0 := qga hG (hS.2 j hj) hk0
   rw [← h1]
   exact qa7 (fun t ht => by rw [eT j t hj ht]; exact qaf _ _ (hx t) (hM _ _))
  ·exact qaj (fun t _ => by show fm _ (m2 F r c (lf s r t) j) = 0; rw [qat _ (by omega), qa9])
open Go.RowKit
/-- A group hangs together: it has only numbers of rows, each a combination of the others. -/
def HangP (F : Nat → Nat) (r c s : Nat) : Prop := s < 2 ^ r ∧ ∀ i, i < r → bt s i = 1 → SS (m2 F r c) r (rem s i) (m2 F r c i)
theorem qik (w : World) (kr c N d j : Nat) (a : Option Addr) (H : Nat → Nat) (ha : Mt w a N d H) (R : Rt kr c N) (hj : j < c) (b : Bool) (hb : b = true ↔ ∀ u, u < kr → H (u * c + j) = 0) :
  Calls Tryz.prog 98 #[mv kr c a N d, .int .i64 (j : Int)] w fun e w' => e = .returned (.bool b) ∧ Below w.heap.size w w' := by
 have HR : Hid (Rt kr c N) := R
 have hN := R.le
 have hkr := R.r64
 have hc64 := R.c64
 obtain ⟨wb, HW⟩ : ∃ wb, Hid (w.alloc (.cells #[.int .i64 (kr : Int), .int .i64 (c : Int), .slice a N d] 63) = wb) := ⟨_, rfl⟩
 have HB0 : Hid (Below w.heap.size w wb) := by rw [← HW.out]; exact qa1 _ _
 have HV : Hid (Vq wb w.heap.size 63 #[.int .i64 (kr : Int), .int .i64 (c : Int), .slice a N d]) := by rw [← HW.out]; exact Vq.new w _ _
 have HM : Hid (Mt wb a N d H) := ha.later HB0.out
 have HBb : Hid (b = true ↔ ∀ u, u < kr → H (u * c + j) = 0) := hb
 clear ha R hb
 go_enter Tryz.func98, Tryz.ntmps98
 go_wp2
 rw [HW.out]
 go_loopw [5, 9] (fun _ vi wr => ∃ u : Nat, u ≤ kr ∧ vi = .int .i64 (u : Int) ∧ (∀ v, v < u → H (v * c + j) = 0) ∧ Below wb.heap.size wb wr) (fun _ vi _ => kr - (intOf vi).toNat)
 case atStart => exact ⟨0, by omega, rfl, fun v hv => by omega, Below.refl _ _⟩
 case round =>
  obtain ⟨u, hu, rfl, h0, hbr⟩ := hrel
  have H0 : Hid (∀ v, v < u → H (v * c + j) = 0) := h0
  have HB : Hid (Below wb.heap.size wb wr) := hbr
  have v0 := (HV.out.later hbr).cell 0 _ rfl
  have v1 := (HV.out.later hbr).cell 1 _ rfl
  have v2 := (HV.out.later hbr).cell 2 _ rfl
  have HMr : Hid (Mt wr a N d H) := HM.out.later hbr
  clear h0 hbr
  by_cases hlt : u < kr
  ·obtain ⟨p, HP⟩ : ∃ p, Hid (u * c = p) := ⟨_, rfl⟩
   have HF : Hid (p + c ≤ N) := by have := HR.out.fit hlt; rw [HP.out] at this; exact this
   obtain ⟨s, HS⟩ : ∃ s, Hid (pc a p c = s) := ⟨_, rfl⟩
   obtain ⟨bb, o, es, hcell⟩ := (HMr.out.piece HF.out).2 j hj
   rw [HS.out] at es
   obtain ⟨y, HY⟩ : ∃ y, Hid (H (p + j) = y) := ⟨_, rfl⟩
   have hc2 : wr.cell? ⟨bb, o + j, none⟩ = some (.int .u8 (y : Int)) := by rw [← HY.out]; exact hcell
   have j0 : (0 : Int) ≤ (j : Int) := Int.natCast_nonneg _
   have j1 : (j : Int) < (c : Int) := by omega
   subst es
   clear hcell
   by_cases hy : y = 0
   ·have gy : ((y : Int) != 0) = false := by simp [hy]
    have HN : Hid (∀ v, v < u + 1 → H (v * c + j) = 0) := fun v hv => by
     by_cases e : v = u
     ·subst e; rw [HP.out, HY.out]; exact hy
     ·exact H0.out v (by omega)
    clear hy
    go_wp2_with (go_at_call 68; refine (qgj _ _ c N d u p a (some ⟨bb, o, none⟩) HMr.out.nil HMr.out.room HF.out hN (by omega) HP HS).mono ?_; rintro e w1 ⟨rfl, hb1⟩; have HB1 : Hid (Below wb.heap.size wb w1) := qa0 HB.out hb1; have hc3 := keepc hb1 hc2; clear hb1)
    exact ⟨⟨u + 1, by omega, by go_num, HN.out, HB1.out⟩, by simp [intOf]; omega⟩
   ·have gy : ((y : Int) != 0) = true := by simp; omega
    obtain rfl : b = false := by
     cases b with
     | false => rfl
     | true => exact absurd (HBb.out.1 rfl u hlt) (by rw [HP.out, HY.out]; exact hy)
    clear hy HBb
    go_wp2_with (go_at_call 68; refine (qgj _ _ c N d u p a (some ⟨bb, o, none⟩) HMr.out.nil HMr.out.room HF.out hN (by omega) HP HS).mono ?_; rintro e w1 ⟨rfl, hb1⟩; have HB1 : Hid (Below wb.heap.size wb w1) := qa0 HB.out hb1; have hc3 := keepc hb1 hc2; clear hb1)
    go_ret
    exact ⟨rfl, qa0 HB0.out HB1.out⟩
  ·obtain rfl : u = kr := by omega
   obtain rfl : b = true := HBb.out.2 H0.out
   clear HBb
   go_wp2
   go_ret
   exact ⟨rfl, qa0 HB0.out HB.out⟩
theorem hang_in {F G H p : Nat → Nat} {r c n s kr top : Nat} (hF : ∀ i, i < n → F i < 256) (R : Rt r c n) (hs : s < 2 ^ r)
  (hR : Rdf (m2 G c (cn s r)) c top p) (hS : SpEq (m2 G c (cn s r)) c (m2 (trf (pkf F (lf s r) c) (cn s r) c) c (cn s r)) c) (hc : ∀ i, i < top → p i < cn s r) (ek : kr = cnt (fre p top) (cn s r))
  (eH : ∀ u l, u < kr → l < cn s r → H (u * cn s r + l) = kv (m2 G c (cn s r)) p top (nth (fre p top) (cn s r) u) l) :
  HangP F r c s ↔ ∀ t, t < cn s r → ¬ ∀ u, u < kr → H (u * cn s r + t) = 0 := by
 constructor
 ·rintro ⟨_, h⟩ t ht h0
  obtain ⟨a1, a2, a3⟩ := qan ht
  exact (qhp hF R hs a1 a2 hR hS hc ek eH).1 (by rw [a3]; exact h0) (h _ a1 a2)
 ·intro h
  refine ⟨hs, fun i hi hb => ?_⟩
  have ht : cn s i < cn s r := by
   have := qbw (s := s) (show i + 1 ≤ r by omega)
   rw [qbt, hb] at this
   omega
  by_cases hss : SS (m2 F r c) r (rem s i) (m2 F r c i)
  ·exact hss
  ·exact absurd ((qhp hF R hs hi hb hR hS hc ek eH).2 hss) (h _ ht)
open Go.RowKit
theorem qkv {s r : Nat} (hr : r ≤ 64) (hs : s < 18446744073709551616) (h : ¬ s < 2 ^ r) : cn s r < cn s 64 ∧ r ≤ lf s 64 (cn s r) ∧ ∀ i, i < cn s r → lf s 64 i < r := by
 have h1 : cn s r < cn s 64 := by
  have hm := qbw (s := s) hr
  rcases Nat.lt_or_ge (cn s r) (cn s 64) with x | x
  ·exact x
  ·exfalso
   have e := mod_same hr (show cn s r = cn s 64 by omega)
   rw [Nat.mod_eq_of_lt (show s < 2 ^ 64 from hs)] at e
   exact h (by rw [← e]; exact Nat.mod_lt _ (Nat.pow_pos (by omega)))
 obtain ⟨a1, a2, a3⟩ := qan h1
 refine ⟨h1, ?_, fun i hi => ?_⟩
 ·rcases Nat.lt_or_ge (lf s 64 (cn s r)) r with x | x
  ·exfalso
   have := qbw (s := s) (show lf s 64 (cn s r) + 1 ≤ r by omega)
   rw [qbt, a2, a3] at this
   omega
  ·exact x
 ·obtain ⟨b1, b2, b3⟩ := qan (s := s) (i := 64) (t := i) (by omega)
  rcases Nat.lt_or_ge (lf s 64 i) r with x | x
  ·exact x
  ·have := qbw (s := s) x
   omega
theorem bool_of (p : Prop) : ∃ b : Bool, b = true ↔ p := by
 by_cases h : p
 ·exact ⟨true, ⟨fun _ => h, fun _ => rfl⟩⟩
 ·exact ⟨false, ⟨(fun x => by cases x), fun x => absurd x h⟩⟩
theorem hang_out (w : World) (r c n k s : Nat) (a : Option Addr) (R : Rt r c n) (hs : s < 18446744073709551616) (h : ¬ s < 2 ^ r) :
  Calls Tryz.prog 75 #[mv r c a n k, .int .u64 (s : Int)] w fun e w' => e = .returned (.bool false) ∧ Below w.heap.size w w' := by
 obtain ⟨wb, HW⟩ : ∃ wb, Hid (w.alloc (.cells #[.int .i64 (r : Int), .int .i64 (c : Int), .slice a n k] 63) = wb) := ⟨_, rfl⟩
 have HB0 : Hid (Below w.heap.size w wb) := by rw [← HW.out]; exact qa1 _ _
 have HV : Hid (Vq wb w.heap.size 63 #[.int .i64 (r : Int), .int .i64 (c : Int), .slice a n k]) := by rw [← HW.out]; exact Vq.new w _ _
 obtain ⟨h1, h2, h3⟩ := qkv R.r64 hs h
 obtain ⟨m, HM⟩ : ∃ m, Hid (cn s 64 = m) := ⟨_, rfl⟩
 obtain ⟨L, HL⟩ : ∃ L : Nat → Nat, Hid (lf s 64 = L) := ⟨_, rfl⟩
 have hm64 : m ≤ 64 := by rw [← HM.out]; exact qaz 64 s
 have HLi : Hid (∀ w, Calls Tryz.prog 65 #[.int .u64 (s : Int)] w fun e w' => ∃ v, e = .returned v ∧ Jo w' w.heap.size 3 .i64 v m L ∧ Below w.heap.size w w') := fun w => by rw [← HM.out, ← HL.out]; exact qcx s w hs
 obtain ⟨t, HT⟩ : ∃ t, Hid (cn s r = t) := ⟨_, rfl⟩
 rw [HM.out, HT.out] at h1
 rw [HL.out, HT.out] at h2 h3
 have HPk : Hid (∀ (w : World) (b : Option Addr) (d : Nat), Jl w b .i64 m (fun i => (L i : Int)) → Calls Tryz.prog 95 #[mv r c a n k, .slice b m d] w fun e w' => e = .returned (.tuple #[mv 0 0 none 0 0, .int .i64 2]) ∧ Below w.heap.size w w') := fun w b d hj => qk2 w r c n k m d t a b (fun i => (L i : Int)) R (by omega) hj h1 (fun i hi => by have := h3 i hi; omega) (by omega)
 clear R h h1 h2 h3 HM HL HT
 go_enter Tryz.func75, Tryz.ntmps75
 go_wp2_with (first
  | (go_at_call 65; rw [HW.out]; refine (HLi.out _).mono ?_; rintro e w1 ⟨v, rfl, ho1, hb1⟩; obtain ⟨sl, d, rfl, hnil⟩ := ho1.form; have HJ1 : Hid (Jl w1 sl .i64 m (fun i => (L i : Int))) := ho1.jl; have HB1 : Hid (Below w.heap.size w w1) := qa0 HB0.out hb1; have v0 := (HV.out.later hb1).cell 0 _ rfl; have v1 := (HV.out.later hb1).cell 1 _ rfl; have v2 := (HV.out.later hb1).cell 2 _ rfl; clear ho1 hb1 hnil)
  | (go_at_call 95; refine (HPk.out _ _ _ HJ1.out).mono ?_; rintro e w2 ⟨rfl, hb2⟩; have HB2 : Hid (Below w.heap.size w w2) := qa0 HB1.out hb2; clear hb2))
 go_ret
 exact ⟨rfl, qa0 HB2.out (qa1 _ _)⟩
theorem hang_yes (w : World) (r c n k s : Nat) (a : Option Addr) (F : Nat → Nat) (ha : Mt w a n k F) (R : Rt r c n) (hs : s < 18446744073709551616) (h : s < 2 ^ r) (b : Bool) (hb : b = true ↔ HangP F r c s) :
  Calls Tryz.prog 75 #[mv r c a n k, .int .u64 (s : Int)] w fun e w' => e = .returned (.bool b) ∧ Below w.heap.size w w' := by
 obtain ⟨wb, HW⟩ : ∃ wb, Hid (w.alloc (.cells #[.int .i64 (r : Int), .int .i64 (c : Int), .slice a n k] 63) = wb) := ⟨_, rfl⟩
 have HB0 : Hid (Below w.heap.size w wb) := by rw [← HW.out]; exact qa1 _ _
 have HV : Hid (Vq wb w.heap.size 63 #[.int .i64 (r : Int), .int .i64 (c : Int), .slice a n k]) := by rw [← HW.out]; exact Vq.new w _ _
 have HA : Hid (Mt w a n k F) := ha
 have hr64 := R.r64
 have hc64 := R.c64
 have hlh := qds (s := s) (i := r) (64 - r) h
 rw [show r + (64 - r) = 64 by omega] at hlh
 obtain ⟨m, HM⟩ : ∃ m, Hid (cn s r = m) := ⟨_, rfl⟩
 obtain ⟨L, HL⟩ : ∃ L : Nat → Nat, Hid (lf s r = L) := ⟨_, rfl⟩
 have hm64 : m ≤ 64 := by rw [← HM.out]; exact Nat.le_trans (qaz r s) hr64
 have HLi : Hid (∀ w, Calls Tryz.prog 65 #[.int .u64 (s : Int)] w fun e w' => ∃ v, e = .returned v ∧ Jo w' w.heap.size 3 .i64 v m L ∧ Below w.heap.size w w') := fun w => by
  have := qcx s w hs
  rw [hlh.1, HM.out, show lf s 64 = L from funext fun t => by rw [hlh.2 t, HL.out]] at this
  exact this
 obtain ⟨N, HN⟩ : ∃ N, Hid (m * c = N) := ⟨_, rfl⟩
 have HRP : Hid (Rt m c N) := ⟨hm64, hc64, HN.out⟩
 have HPk : Hid (∀ (w : World) (b : Option Addr) (d : Nat), Mt w a n k F → Jl w b .i64 m (fun i => (L i : Int)) → Calls Tryz.prog 95 #[mv r c a n k, .slice b m d] w fun e w' => ∃ g, e = .returned (.tuple #[mv m c (some ⟨g, 0, none⟩) N N, .int .i64 0]) ∧ RowAt w' g 5 N (pkf F L c) ∧ w.heap.size ≤ g ∧ Below w.heap.size w w') := fun w b d h1 hj => mpick_ok w r c n k m d N a b F L h1 R hj (fun i hi => by rw [← HL.out]; exact (qan (by rw [HM.out]; exact hi)).1) hm64 HN
 have HPl : Hid (∀ q, q < N → pkf F L c q < 256) := fun q hq => by
  rw [← HN.out] at hq
  exact qh3 ha.sl.1 R (fun i hi => by rw [← HL.out]; exact (qan (by rw [HM.out]; exact hi)).1) q hq
 obtain ⟨PF, HPF⟩ : ∃ PF : Nat → Nat, Hid (pkf F L c = PF) := ⟨_, rfl⟩
 rw [HPF.out] at HPk HPl
 obtain ⟨TF, HTF⟩ : ∃ TF : Nat → Nat, Hid (trf PF m c = TF) := ⟨_, rfl⟩
 have HTr : Hid (∀ (w : World) (g : Nat), RowAt w g 5 N PF → Calls Tryz.prog 96 #[mv m c (some ⟨g, 0, none⟩) N N] w fun e w' => ∃ g, e = .returned (.tuple #[mv c m (some ⟨g, 0, none⟩) N N, .int .i64 0]) ∧ RowAt w' g 5 N TF ∧ w.heap.size ≤ g ∧ Below w.heap.size w w') := fun w g h => by rw [← HTF.out]; exact qk1 w m c N N _ PF (h.mt HPl.out) HRP.out
 have HTl : Hid (∀ q, q < N → TF q < 256) := by rw [← HTF.out]; exact trf_all HPl.out HRP.out
 have HHa : Hid (∀ (G H p : Nat → Nat) (kr top : Nat), Rdf (m2 G c m) c top p → SpEq (m2 G c m) c (m2 TF c m) c → (∀ i, i < top → p i < m) → kr = cnt (fre p top) m → (∀ u l, u < kr → l < m → H (u * m + l) = kv (m2 G c m) p top (nth (fre p top) m u) l) → (b = true ↔ ∀ t, t < m → ¬ ∀ u, u < kr → H (u * m + t) = 0)) := fun G H p kr top h1 h2 h3 h4 h5 => by
  rw [hb]
  rw [← HTF.out, ← HPF.out, ← HL.out, ← HM.out] at *
  exact hang_in ha.sl.1 R h h1 h2 h3 h4 h5
 clear ha R h hlh HM HL HPF HTF hb
 go_enter Tryz.func75, Tryz.ntmps75
 go_wp2_with (first
  | (go_at_call 65; rw [HW.out]; refine (HLi.out _).mono ?_; rintro e w1 ⟨v, rfl, ho1, hb1⟩; obtain ⟨sl, d, rfl, hnil⟩ := ho1.form; have HJ1 : Hid (Jl w1 sl .i64 m (fun i => (L i : Int))) := ho1.jl; have HB1 : Hid (Below w.heap.size w w1) := qa0 HB0.out hb1; have v0 := (HV.out.later hb1).cell 0 _ rfl; have v1 := (HV.out.later hb1).cell 1 _ rfl; have v2 := (HV.out.later hb1).cell 2 _ rfl; clear ho1 hb1 hnil)
  | (go_at_call 95; refine (HPk.out _ _ _ (HA.out.later HB1.out) HJ1.out).mono ?_; rintro e w2 ⟨g2, rfl, hr2, hg2, hb2⟩; have HB2 : Hid (Below w.heap.size w (w2.alloc (.cells #[.int .i64 (m : Int), .int .i64 (c : Int), .slice (some ⟨g2, 0, none⟩) N N] 24))) := qa0 (qa0 HB1.out hb2) (qa1 _ _); have HR2 : Hid (RowAt (w2.alloc (.cells #[.int .i64 (m : Int), .int .i64 (c : Int), .slice (some ⟨g2, 0, none⟩) N N] 24)) g2 5 N PF) := hr2.later (qa1 _ _); have HV2 : Hid (Vq (w2.alloc (.cells #[.int .i64 (m : Int), .int .i64 (c : Int), .slice (some ⟨g2, 0, none⟩) N N] 24)) w2.heap.size 24 #[.int .i64 (m : Int), .int .i64 (c : Int), .slice (some ⟨g2, 0, none⟩) N N]) := Vq.new w2 _ _; have p0 := HV2.out.cell 0 _ rfl; have p1 := HV2.out.cell 1 _ rfl; have p2 := HV2.out.cell 2 _ rfl; clear hr2 hg2 hb2)
  | (go_at_call 96; refine (HTr.out _ _ HR2.out).mono ?_; rintro e w3 ⟨g3, rfl, hr3, hg3, hb3⟩; have HB3 : Hid (Below w.heap.size w (w3.alloc (.cells #[.int .i64 (c : Int), .int .i64 (m : Int), .slice (some ⟨g3, 0, none⟩) N N] 24))) := qa0 (qa0 HB2.out hb3) (qa1 _ _); have HM3 : Hid (Mt (w3.alloc (.cells #[.int .i64 (c : Int), .int .i64 (m : Int), .slice (some ⟨g3, 0, none⟩) N N] 24)) (some ⟨g3, 0, none⟩) N N TF) := (hr3.later (qa1 _ _)).mt HTl.out; have HV3 : Hid (Vq (w3.alloc (.cells #[.int .i64 (c : Int), .int .i64 (m : Int), .slice (some ⟨g3, 0, none⟩) N N] 24)) w3.heap.size 24 #[.int .i64 (c : Int), .int .i64 (m : Int), .slice (some ⟨g3, 0, none⟩) N N]) := Vq.new w3 _ _; have q0 := HV3.out.cell 0 _ rfl; have q1 := HV3.out.cell 1 _ rfl; have q2 := HV3.out.cell 2 _ rfl; clear hr3 hg3 hb3)
  | (go_at_call 97; refine (gker_ok _ c m N N _ TF HM3.out HRP.out.turn).mono ?_; rintro e w4 ⟨s4, d4, kr, top, p, G, H, rfl, hm4, hd4, hsp4, hp4, hk4, hH4, hb4⟩; obtain ⟨K4, HK4⟩ : ∃ K4, Hid (kr * m = K4) := ⟨_, rfl⟩; rw [HK4.out] at hm4 ⊢; have HB4 : Hid (Below w.heap.size w ((w4.alloc (.cells #[.int .i64 (kr : Int), .int .i64 (m : Int), .slice s4 K4 d4] 24)).alloc (.cells #[.int .i64 (kr : Int), .int .i64 (m : Int), .slice s4 K4 d4] 63))) := qa0 (qa0 (qa0 HB3.out hb4) (qa1 _ _)) (qa1 _ _); have HM4 : Hid (Mt ((w4.alloc (.cells #[.int .i64 (kr : Int), .int .i64 (m : Int), .slice s4 K4 d4] 24)).alloc (.cells #[.int .i64 (kr : Int), .int .i64 (m : Int), .slice s4 K4 d4] 63)) s4 K4 d4 H) := (hm4.later (qa1 _ _)).later (qa1 _ _); have HV4 : Hid (Vq (w4.alloc (.cells #[.int .i64 (kr : Int), .int .i64 (m : Int), .slice s4 K4 d4] 24)) w4.heap.size 24 #[.int .i64 (kr : Int), .int .i64 (m : Int), .slice s4 K4 d4]) := Vq.new w4 _ _; have HV5 : Hid (Vq ((w4.alloc (.cells #[.int .i64 (kr : Int), .int .i64 (m : Int), .slice s4 K4 d4] 24)).alloc (.cells #[.int .i64 (kr : Int), .int .i64 (m : Int), .slice s4 K4 d4] 63)) (w4.heap.size + 1) 63 #[.int .i64 (kr : Int), .int .i64 (m : Int), .slice s4 K4 d4]) := Vq.new1 _ _ _ _; have HHb := jhidv (HHa.out G H p kr top hd4 hsp4 hp4 hk4 hH4); have hkm : kr ≤ m := (by rw [hk4]; have := qeu (fre p top) m; omega); have r0 := HV4.out.cell 0 _ rfl; have r1 := HV4.out.cell 1 _ rfl; have r2 := HV4.out.cell 2 _ rfl; clear hm4 hd4 hsp4 hp4 hk4 hH4 hb4))
 have HRK : Hid (Rt kr m K4) := ⟨by omega, hm64, HK4.out⟩
 obtain ⟨wl, HWl⟩ : ∃ wl, Hid (((w4.alloc (.cells #[.int .i64 (kr : Int), .int .i64 (m : Int), .slice s4 K4 d4] 24)).alloc (.cells #[.int .i64 (kr : Int), .int .i64 (m : Int), .slice s4 K4 d4] 63)) = wl) := ⟨_, rfl⟩
 rw [HWl.out] at HB4 HM4 HV5
 rw [HWl.out]
 go_loopw [13, 39] (fun _ vi wr => ∃ j : Nat, j ≤ m ∧ vi = .int .i64 (j : Int) ∧ (∀ t, t < j → ¬ ∀ u, u < kr → H (u * m + t) = 0) ∧ Below wl.heap.size wl wr) (fun _ vi _ => m - (intOf vi).toNat)
 case atStart => exact ⟨0, by omega, rfl, fun t ht => by omega, Below.refl _ _⟩
 case round =>
  obtain ⟨j, hj, rfl, h0, hbr⟩ := hrel
  have H0 : Hid (∀ t, t < j → ¬ ∀ u, u < kr → H (u * m + t) = 0) := h0
  have HB : Hid (Below wl.heap.size wl wr) := hbr
  have z0 := (HV5.out.later hbr).cell 0 _ rfl
  have z1 := (HV5.out.later hbr).cell 1 _ rfl
  have z2 := (HV5.out.later hbr).cell 2 _ rfl
  have HMr : Hid (Mt wr s4 K4 d4 H) := HM4.out.later hbr
  clear h0 hbr
  by_cases hlt : j < m
  ·obtain ⟨bj, hbj⟩ := bool_of (∀ u, u < kr → H (u * m + j) = 0)
   have HBj : Hid (bj = true ↔ ∀ u, u < kr → H (u * m + j) = 0) := hbj
   have HC : Hid (Calls Tryz.prog 98 #[mv kr m s4 K4 d4, .int .i64 (j : Int)] wr fun e w' => e = .returned (.bool bj) ∧ Below wr.heap.size wr w') := qik wr kr m K4 d4 j s4 H HMr.out HRK.out hlt bj hbj
   clear hbj
   cases bj with
   | true =>
    obtain rfl : b = false := by
     cases b with
     | false => rfl
     | true => exact absurd (HBj.out.1 rfl) (HHb.out.1 rfl j hlt)
    clear HBj HHb HHa
    go_wp2_with (go_at_call 98; refine HC.out.mono ?_; rintro e w6 ⟨rfl, hb6⟩; have HB6 : Hid (Below wl.heap.size wl w6) := qa0 HB.out hb6; clear hb6)
    go_ret
    exact ⟨rfl, qa0 HB4.out HB6.out⟩
   | false =>
    have HN2 : Hid (∀ t, t < j + 1 → ¬ ∀ u, u < kr → H (u * m + t) = 0) := fun t ht hz => by
     by_cases e : t = j
     ·subst e; have := HBj.out.2 hz; cases this
     ·exact H0.out t (by omega) hz
    clear HBj
    go_wp2_with (go_at_call 98; refine HC.out.mono ?_; rintro e w6 ⟨rfl, hb6⟩; have HB6 : Hid (Below wl.heap.size wl w6) := qa0 HB.out hb6; clear hb6)
    exact ⟨⟨j + 1, by omega, by go_num, HN2.out, HB6.out⟩, by simp [intOf]; omega⟩
  ·obtain rfl : j = m := by omega
   obtain rfl : b = true := HHb.out.2 H0.out
   clear HHb HHa
   go_wp2
   go_ret
   exact ⟨rfl, qa0 HB4.out HB.out⟩
theorem hang16 (w : World) (r c n k s : Nat) (a : Option Addr) (F : Nat → Nat) (ha : Mt w a n k F) (R : Rt r c n) (hs : s < 18446744073709551616) (b : Bool) (hb : b = true ↔ HangP F r c s) :
  Calls Tryz.prog 75 #[mv r c a n k, .int .u64 (s : Int)] w fun e w' => e = .returned (.bool b) ∧ Below w.heap.size w w' := by
 by_cases h : s < 2 ^ r
 ·exact hang_yes w r c n k s a F ha R hs h b hb
 ·obtain rfl : b = false := by
   cases b with
   | false => rfl
   | true => exact absurd (hb.1 rfl).1 h
  exact hang_out w r c n k s a R hs h
open Go.RowKit
theorem allhang1 (w : World) (r c n k d q : Nat) (a b : Option Addr) (F : Nat → Nat) (ha : Mt w a n k F) (hb : Jl w b .u64 1 (fun _ => (q : Int))) (R : Rt r c n) (hq : q < 18446744073709551616) (h : HangP F r c q) :
  Calls Tryz.prog 47 #[mv r c a n k, .slice b 1 d] w fun e w' => e = .returned (.bool true) ∧ Below w.heap.size w w' := by
 obtain ⟨wb, HW⟩ : ∃ wb, Hid (w.alloc (.cells #[.int .i64 (r : Int), .int .i64 (c : Int), .slice a n k] 63) = wb) := ⟨_, rfl⟩
 have HB0 : Hid (Below w.heap.size w wb) := by rw [← HW.out]; exact qa1 _ _
 have HV : Hid (Vq wb w.heap.size 63 #[.int .i64 (r : Int), .int .i64 (c : Int), .slice a n k]) := by rw [← HW.out]; exact Vq.new w _ _
 have HA : Hid (Mt w a n k F) := ha
 have HJ : Hid (Jl wb b .u64 1 (fun _ => (q : Int))) := hb.later HB0.out
 have HHg : Hid (∀ w, Mt w a n k F → Calls Tryz.prog 75 #[mv r c a n k, .int .u64 (q : Int)] w fun e w' => e = .returned (.bool true) ∧ Below w.heap.size w w') := fun w hw => hang16 w r c n k q a F hw R hq true ⟨fun _ => h, fun _ => rfl⟩
 clear ha hb R h
 go_enter Tryz.func47, Tryz.ntmps47
 go_wp2_with (first
  | (go_at_call 74; rw [HW.out]; refine (qhl _ _ _ _).mono ?_; rintro e w1 ⟨rfl, hw1⟩; have HB1 : Hid (Below wb.heap.size wb w1) := (by rw [← hw1]; exact qa1 _ _); have hcv : w1.cell? ⟨wb.heap.size, 0, none⟩ = some (.slice b 1 d) := (by rw [← hw1]; exact (Vq.new wb _ _).cell 0 _ rfl); clear hw1)
  | (go_at_call 73; refine (sorted1 _ b d wb.heap.size q hcv (HJ.out.later HB1.out)).mono ?_; rintro e w2 ⟨s2, d2, rfl, ho2, hb2⟩; have HO2 : Hid (Jo w2 w1.heap.size 52 .u64 (.slice s2 1 d2) 1 (fun _ => q)) := ho2; have HB2 : Hid (Below wb.heap.size wb w2) := qa0 HB1.out hb2; clear ho2 hb2 hcv)
  | (go_at_call 72; refine (compact1 _ _ _).mono ?_; rintro e w' ⟨rfl, rfl⟩))
 obtain ⟨g, rfl, hgB, hgw⟩ := HO2.out.addr (by omega)
 have hc0 : w2.cell? ⟨g, 0, none⟩ = some (.int .u64 (q : Int)) := HO2.out.cell 0 (by omega)
 go_loopw [7, 14] (fun _ vi wr => ∃ i : Nat, i ≤ 1 ∧ vi = .int .i64 (i : Int) ∧ Below w2.heap.size w2 wr) (fun _ vi _ => 1 - (intOf vi).toNat)
 case atStart => exact ⟨0, by omega, rfl, Below.refl _ _⟩
 case round =>
  obtain ⟨i, hi, rfl, hbr⟩ := hrel
  have HB : Hid (Below w2.heap.size w2 wr) := hbr
  have v0 := ((HV.out.later HB2.out).later hbr).cell 0 _ rfl
  have v1 := ((HV.out.later HB2.out).later hbr).cell 1 _ rfl
  have v2 := ((HV.out.later HB2.out).later hbr).cell 2 _ rfl
  have hcr := keepc hbr hc0
  have HMr : Hid (Mt wr a n k F) := HA.out.later (qa0 (qa0 HB0.out HB2.out) hbr)
  clear hbr
  rcases (by omega : i = 0 ∨ i = 1) with rfl | rfl
  ·go_wp2_with (go_at_call 75; refine (HHg.out _ HMr.out).mono ?_; rintro e w3 ⟨rfl, hb3⟩; have HB3 : Hid (Below w2.heap.size w2 w3) := qa0 HB.out hb3; clear hb3)
   exact ⟨⟨1, by omega, by go_num, HB3.out⟩, by simp [intOf]⟩
  ·go_wp2
   go_ret
   exact ⟨rfl, qa0 (qa0 HB0.out HB2.out) HB.out⟩
theorem gen_yes (w : World) (r c n k : Nat) (a : Option Addr) (R : Rt r c n) (hc : 1 ≤ c) (hr : c ≤ r) :
  Calls Tryz.prog 43 #[mv r c a n k] w fun e w' => e = .returned (.bool true) ∧ Below w.heap.size w w' := by
 have HP : Hid (RightP r c n) := R.p
 obtain ⟨wb, HW⟩ : ∃ wb, Hid (w.alloc (.cells #[.int .i64 (r : Int), .int .i64 (c : Int), .slice a n k] 24) = wb) := ⟨_, rfl⟩
 have HB0 : Hid (Below w.heap.size w wb) := by rw [← HW.out]; exact qa1 _ _
 have HV : Hid (Vq wb w.heap.size 24 #[.int .i64 (r : Int), .int .i64 (c : Int), .slice a n k]) := by rw [← HW.out]; exact Vq.new w _ _
 have g1 : decide ((1 : Int) ≤ (c : Int)) = true := by simp; omega
 have g2 : decide ((c : Int) ≤ (r : Int)) = true := by simp; omega
 have g3 : decide (c ≤ r) = true := by simpa using hr
 clear R
 go_enter Tryz.func43, Tryz.ntmps43
 go_wp2_with (go_at_call 70; rw [HW.out]; refine (qak _ _ _ _ _ _ HP.out).mono ?_; rintro e w1 ⟨rfl, hb1⟩; have HB1 : Hid (Below wb.heap.size wb w1) := hb1; have v0 := (HV.out.later hb1).cell 0 _ rfl; have v1 := (HV.out.later hb1).cell 1 _ rfl; clear hb1)
 go_ret
 exact ⟨rfl, qa0 HB0.out HB1.out⟩
theorem may1 (w : World) (r c n k d q : Nat) (a b : Option Addr) (F : Nat → Nat) (ha : Mt w a n k F) (hb : Jl w b .u64 1 (fun _ => (q : Int))) (R : Rt r c n) (hc : 1 ≤ c) (hr : c ≤ r) (hq : q < 18446744073709551616) (h : HangP F r c q) :
  Calls Tryz.prog 16 #[cv r c a n k b 1 d] w fun e w' => e = .returned (.bool true) ∧ Below w.heap.size w w' := by
 obtain ⟨wb, HW⟩ : ∃ wb, Hid (w.alloc (.cells #[.int .i64 (r : Int), .int .i64 (c : Int), .slice a n k, .slice b 1 d] 27) = wb) := ⟨_, rfl⟩
 have HB0 : Hid (Below w.heap.size w wb) := by rw [← HW.out]; exact qa1 _ _
 have HV : Hid (Vq wb w.heap.size 27 #[.int .i64 (r : Int), .int .i64 (c : Int), .slice a n k, .slice b 1 d]) := by rw [← HW.out]; exact Vq.new w _ _
 have HG : Hid (∀ w, Calls Tryz.prog 43 #[mv r c a n k] w fun e w' => e = .returned (.bool true) ∧ Below w.heap.size w w') := fun w => gen_yes w r c n k a R hc hr
 have HH : Hid (∀ w', Below w.heap.size w w' → Calls Tryz.prog 47 #[mv r c a n k, .slice b 1 d] w' fun e w'' => e = .returned (.bool true) ∧ Below w'.heap.size w' w'') := fun w' hw => allhang1 w' r c n k d q a b F (ha.later hw) (hb.later hw) R hq h
 clear ha hb R h
 go_enter Tryz.func16, Tryz.ntmps16
 go_wp2_with (first
  | (go_at_call 43; rw [HW.out]; refine (HG.out _).mono ?_; rintro e w1 ⟨rfl, hb1⟩; have HB1 : Hid (Below w.heap.size w w1) := qa0 HB0.out hb1; have v0 := (HV.out.later hb1).cell 0 _ rfl; have v1 := (HV.out.later hb1).cell 1 _ rfl; have v2 := (HV.out.later hb1).cell 2 _ rfl; have v3 := (HV.out.later hb1).cell 3 _ rfl; clear hb1)
  | (go_at_call 47; refine (HH.out _ HB1.out).mono ?_; rintro e w2 ⟨rfl, hb2⟩; have HB2 : Hid (Below w.heap.size w w2) := qa0 HB1.out hb2; clear hb2))
 go_ret
 exact ⟨rfl, HB2.out⟩
end Go.Proofs.YtmgfeepnkahkmaaGreat
