/-
  Contract of the reference's Next.
  Contracts of the reference's Place and At.
  The reference's All; All's function value.
  All's function, told one set after another.
  The walk through a loop over All's sets, which may be left by a break.
  What the loop over All's sets needs: of any n and k, how many sets there are and which, and that the program and the reference tell the same.
  Variables of one cell; what the loop over All's sets leaves to be done.
  The program's verdict.left: its function tells the rows that are not lost, one after another; the law for a range over it.
-/
import Derived.Test.YtokdejhbjoglcaaQffer00
import Derived.Test.YtokdejhbjoglcaaQffer40
import Derived.RangeFuncNested
import Derived.RangeFuncBound
import Derived.RangeFuncCalls
import Derived.RangeFuncLeaves
import Derived.Shelf.Abstract
import Derived.Shelf.RegionOpen
import Derived.WalkKit
import Derived.OwnWalkIn
import Derived.TacticsInMore
import Derived.LoopNIn
import Derived.LoopIn
import Derived.Test.YtokdejhbjoglcaaQffer45
import Derived.RangeFuncKeeps
import Derived.RangeFuncFrom
set_option maxRecDepth 100000
set_option maxHeartbeats 16000000
namespace Go.Proofs.Ytokdejhbjoglcaa
open Go.RowKit
theorem Jo.set {w : World} {B n d g : Nat} {T : TypeId} {K : IntKind} {f : Nat → Nat} (h : Jo w B T K (.slice (some ⟨g, 0, none⟩) n d) n f) (j v : Nat) : Jo (w.setCell ⟨g, j, none⟩ (.int K (v : Int))) B T K (.slice (some ⟨g, 0, none⟩) n d) n (fun i => if i = j then v else f i) := by
 have := (World.ownsRow.stored h j (.int K (v : Int))).1
 unfold Jo
 rw [← jrow_set, Array.toList_setIfInBounds]
 exact this
open Go.RowKit Go.Shelf
attribute [local go_sem] Oper.semAt_some
open Go.RowKit Go.Shelf
attribute [local go_sem] Oper.semAt_some
open Go.RowKit Go.Shelf
/-- A variable of one cell. -/
def Cl (w : World) (b : Nat) (v : Value) (T : TypeId) : Prop := w.heap[b]? = some (.cells #[v] T (0, 0))
theorem Cl.lt {w : World} {b : Nat} {v : Value} {T : TypeId} (h : Cl w b v T) : b < w.heap.size := lt_of_block h
theorem Cl.cell {w : World} {b : Nat} {v : Value} {T : TypeId} (h : Cl w b v T) : w.cell? ⟨b, 0, none⟩ = some v := by rw [cell_of_row w b 0 _ _ _ h]; rfl
theorem Cl.free {w : World} {b : Nat} {v : Value} {T : TypeId} (h : Cl w b v T) : w.frozen? ⟨b, 0, none⟩ = false := by
 unfold Cl at h
 simp [World.frozen?, h]
theorem Cl.later {w w' : World} {b : Nat} {v : Value} {T : TypeId} (h : Cl w b v T) (hb : Below w.heap.size w w') : Cl w' b v T := by unfold Cl; rw [hb.block b h.lt]; exact h
theorem Cl.kept {w w' : World} {b : Nat} {v : Value} {T : TypeId} {row : Option Nat} (h : Cl w b v T) (hg : w.grownBy w' row) (hn : row ≠ some b) : Cl w' b v T := by unfold Cl; rw [hg.block b h.lt (fun e => hn e.symm)]; exact h
theorem Cl.set {w : World} {b : Nat} {v : Value} {T : TypeId} (h : Cl w b v T) (v' : Value) : Cl (w.setCell ⟨b, 0, none⟩ v') b v' T := by
 unfold Cl at *
 rw [setCell_eq_setRow w b 0 _ _ (0, 0) _ h, setRow_heap w b _ _ _ (0, 0) h]
 rfl
theorem Cl.new (w : World) (v : Value) (T : TypeId) : Cl (w.alloc (.cells #[v] T)) w.heap.size v T := heap_alloc_new w _
open Go.RowKit Go.Shelf
attribute [local go_sem] Oper.semAt_some
theorem vleft18 (w : World) (r c : Int) (n k s : Nat) (a : Option Addr) :
  Calls Try.prog 65 #[mv r c a n k, .int .u64 (s : Int)] w fun e w' => ∃ bm bs, e = .returned (.func (.func 79) #[] #[.pointer (some ⟨bm, 0, none⟩), .pointer (some ⟨bs, 0, none⟩)]) ∧ Vr w' bm (.int .i64 r) (.int .i64 c) (.slice a n k) ∧ Cl w' bs (.int .u64 (s : Int)) 26 ∧ w.heap.size ≤ bm ∧ w.heap.size ≤ bs ∧ Below w.heap.size w w' := by
 have hmf : ∀ (fn : Fn) (first cap : Array Value) (w : World), (Instr.makeFunc fn first cap).run Try.prog w = .ok (.func fn first cap) w := fun _ _ _ _ => rfl
 go_enter Try.func65, Try.ntmps65
 go_wp2
 go_ret
 have e : (w.alloc (.cells #[.int .i64 r, .int .i64 c, .slice a n k] 24)).heap.size = w.heap.size + 1 := by simp
 refine ⟨w.heap.size, w.heap.size + 1, rfl, (Vr.new w _ _ _).later (qa0 _ _), ?_, by omega, by omega, qa1 (qa0 _ _) (qa0 _ _)⟩
 rw [← e]
 exact Cl.new _ _ _
theorem left_in (m l r s bm bs : Nat) (W0 : World) (T : Nat → World → Prop) (hm : 1 ≤ m) (hr : r ≤ 64) (hs : s < 18446744073709551616)
  (hC : ∀ j W, T j W → W.cell? ⟨bm, 0, none⟩ = some (.int .i64 (r : Int)) ∧ W.cell? ⟨bs, 0, none⟩ = some (.int .u64 (s : Int)))
  (hN : ∀ j W, j < r → bt s j = 1 → T j W → T (j + 1) W)
  (hY : ∀ j W, j < r → ¬ bt s j = 1 → T j W → YieldAt Fence.wide (m - 1) Try.prog l #[.int .i64 (j : Nat)] W (fun e W' => e = .returned (.bool true) ∧ T (j + 1) W'))
  (h0 : T 0 W0) :
  CallsIn Fence.wide m Try.prog 79 #[.func (.yield l) #[] #[], .pointer (some ⟨bm, 0, none⟩), .pointer (some ⟨bs, 0, none⟩)] W0 fun e W' => (∃ v, e = .returned v) ∧ T r W' := by
 have HC := qbq hC
 have HN := qbq hN
 have HYd := qbq hY
 have H0 : Hid (T 0 W0) := h0
 have HH : Hid (∀ (j : Nat) (b : Bool) (w : World), (b = true ↔ bt s j = 1) → Calls Try.prog 80 #[.int .u64 (s : Int), .int .i64 (j : Int)] w fun e w' => e = .returned (.bool b) ∧ w = w') := fun j b w hb => by
  have h := jhas_ok s j w hs
  rw [show decide (bt s j = 1) = b by cases b <;> simp_all] at h
  exact h
 have c1 := (hC 0 W0 h0).1
 clear hC hY h0 hN hs
 refine callsIn_of_wp Try.func79 rfl trivial ?_ rfl
 simp only [Try.ntmps79, List.size_toArray, List.length_cons, List.length_nil, Nat.reduceAdd, Nat.reduceSub, Array.replicate_succ, Array.replicate_zero, List.push_toArray, List.append_toArray, List.nil_append, List.cons_append]
 gi_wp2
 gi_loopw [4, 7] (fun _ vi wr => ∃ j : Nat, j ≤ r ∧ vi = .int .i64 (j : Int) ∧ T j wr) (fun _ vi _ => r - (intOf vi).toNat)
 case atStart => exact ⟨0, by omega, rfl, H0.out⟩
 case round =>
  clear H0 c1
  obtain ⟨j, hj, rfl, hT⟩ := hrel
  have HT : Hid (T j wr) := hT
  by_cases hlt : j < r
  ·have hc2 := (HC.out j wr hT).2
   have p1 : (j : Int) < (r : Int) := by omega
   by_cases hbt : bt s j = 1
   ·have HT3 : Hid (T (j + 1) wr) := HN.out j wr hlt hbt hT
    have HB : Hid (∀ w : World, Calls Try.prog 80 #[.int .u64 (s : Int), .int .i64 (j : Int)] w fun e w' => e = .returned (.bool true) ∧ w = w') := fun w => HH.out j true w (by simp [hbt])
    clear hT hbt
    gi_wp2_with (refine ⟨trivial, ?_⟩; gi_at_call 80; refine (callsIn_wide.2 (HB.out _)).mono ?_; rintro e w1 ⟨rfl, rfl⟩)
    refine ⟨fun _ h => (by cases h), ?_⟩
    gi_wp2
    exact ⟨⟨j + 1, by omega, by go_num, HT3.out⟩, by simp [intOf]; omega⟩
   ·have HB : Hid (∀ w : World, Calls Try.prog 80 #[.int .u64 (s : Int), .int .i64 (j : Int)] w fun e w' => e = .returned (.bool false) ∧ w = w') := fun w => HH.out j false w (by simp [hbt])
    obtain ⟨fn, tmps, assign, body, hy, hR⟩ := HYd.out j wr hlt hbt hT
    have HRd := qbq hR
    clear hR hT hbt
    gi_wp2_with (refine ⟨trivial, ?_⟩; gi_at_call 80; refine (callsIn_wide.2 (HB.out _)).mono ?_; rintro e w1 ⟨rfl, rfl⟩)
    refine HRd.out.mono ?_
    rintro e W3 ⟨rfl, ht3⟩
    have HT3 : Hid (T (j + 1) W3) := ht3
    clear ht3 hy HRd
    gi_wp2
    exact ⟨⟨j + 1, by omega, by go_num, HT3.out⟩, by simp [intOf]; omega⟩
  ·obtain rfl : j = r := by omega
   clear hT
   gi_wp2
   go_end0
   exact ⟨⟨_, rfl⟩, HT.out⟩
/-- A round's body goes on. -/
def rndL (Kp : Nat → World → Prop) (j B : Nat) (W : World) : Exit → Act → World → Prop
 | .normal, _, W' => Kp (j + 1) W' ∧ W'.heap[B]? = W.heap[B]? ∧ W'.heap[B + 1]? = W.heap[B + 1]?
 | _, _, _ => False
theorem qhj {gop : Operand} {p : Tmp} {assign body : Code} {Q : Exit → Act → World → Prop} {a : Act} {w : World} {nn r s bm bs : Nat} (Kp : Nat → World → Prop)
  (hnn : 2 ≤ nn) (hr : r ≤ 64) (hs : s < 18446744073709551616)
  (hg : a.eval gop = .func (.func 79) #[] #[.pointer (some ⟨bm, 0, none⟩), .pointer (some ⟨bs, 0, none⟩)])
  (hKp : ∀ j W W', Kp j W → W.grownBy W' (some (w.heap.size + 1)) → Kp j W')
  (hKc : ∀ j W, Kp j W → W.cell? ⟨bm, 0, none⟩ = some (.int .i64 (r : Int)) ∧ W.cell? ⟨bs, 0, none⟩ = some (.int .u64 (s : Int)))
  (hKn : ∀ j W, j < r → bt s j = 1 → Kp j W → Kp (j + 1) W)
  (h0 : ∀ W1, Below w.heap.size w W1 → w.heap.size + 2 ≤ W1.heap.size → Kp 0 W1) (a₁ : Nat → Act)
  (hassign : ∀ (l s : Nat) (W : World) (K : Act → World → Prop), K (a₁ s) W → assign.wpIn (Fence.wide.inRound l) (nn - 1 - 1) Try.prog (Exit.then K (fun _ _ _ => False)) { tmps := a.tmps.setIfInBounds p (.int .i64 (s : Int)), defers := [] } W)
  (hbody : ∀ (l j : Nat) (W : World), j < r → ¬ bt s j = 1 → Kp j W → body.wpIn (Fence.wide.inRound l) (nn - 1 - 1) Try.prog (rndL Kp j w.heap.size W) (a₁ j) W)
  (hdone : ∀ (D : Nat) (W : World), w.heap.size = D → Kp r W → W.heap[D]? = some (.deferred (some [])) → Q .normal { a with defers := { target := .collected D, args := #[] } :: a.defers } W) :
  (Code.rangeFunc gop #[p] assign body).wpIn Fence.wide nn Try.prog Q a w := by
 refine wpIn_rangeFunc ?_
 intro fn hfn
 obtain ⟨rc, hrc⟩ : ∃ rc : LoopState → Option Code → Loop, rc = fun st pe => { state := st, pending := pe, fn, tmps := a.tmps, params := #[p], assign, body, defers := w.heap.size } := ⟨_, rfl⟩
 obtain ⟨W1, hW1⟩ : ∃ W1, (w.alloc (.deferred (some []))).alloc (.loop (rc .ready none)) = W1 := ⟨_, rfl⟩
 have hs1 : W1.heap.size = w.heap.size + 2 := by rw [← hW1]; simp
 have hL1 : W1.heap[w.heap.size + 1]? = some (.loop (rc .ready none)) := by rw [← hW1]; exact heap_alloc2_new _ _ _
 have hD1 : W1.heap[w.heap.size]? = some (.deferred (some [])) := by rw [← hW1]; exact heap_alloc2_old _ _ _
 have hb1 : Below w.heap.size w W1 := by rw [← hW1]; exact jtwo (jlow _ _) (jlow _ _)
 have hK1 : Kp 0 W1 := h0 W1 hb1 (by omega)
 have put : ∀ (W : World) (o : Obj), W.grownBy (W.putObj (w.heap.size + 1) o) (some (w.heap.size + 1)) := fun W o => grownBy_putObj' W (w.heap.size + 1) o
 refine ⟨w.heap.size + 1, [{ target := .collected w.heap.size, args := #[] }], W1, { target := .fn (.func 79) #[.pointer (some ⟨bm, 0, none⟩), .pointer (some ⟨bs, 0, none⟩)], args := #[.func (.yield (w.heap.size + 1)) #[] #[]] }, W1, 79,
  #[.func (.yield (w.heap.size + 1)) #[] #[]] ++ #[.pointer (some ⟨bm, 0, none⟩), .pointer (some ⟨bs, 0, none⟩)], W1, ?_, ?_, ?_, ?_, fun h => (by cases h), ?_⟩
 ·rw [← hW1, hrc]; exact run_enterLoop_outer _ _ _ _ _
 ·simp only [resolve, hg]
  simp [go_sem]
 ·intro f' _; trivial
 ·simp [invoke, go_sem]
 ·refine (left_in (nn - 1) (w.heap.size + 1) r s bm bs W1
   (fun j W => Kp j W ∧ W.heap[w.heap.size + 1]? = some (.loop (rc .ready none)) ∧ W.heap[w.heap.size]? = some (.deferred (some [])))
   (by omega) hr hs (fun j W h => hKc j W h.1) (fun j W hj hb h => ⟨hKn j W hj hb h.1, h.2⟩) ?_ ⟨hK1, hL1, hD1⟩).mono ?_
  ·rintro j W hj hbt ⟨h1, h2, h3⟩
   have l2 := lt_of_block h2
   have hy := run_yield (P := Try.prog) (args := #[.int .i64 (j : Nat)]) h2 (by rw [hrc]; rfl)
   rw [hrc] at hy
   refine ⟨fn, _, assign, body, hy, roundIn_of_wpIn hfn ?_⟩
   have htm : ((#[p] : Array Tmp).zip #[Value.int .i64 (j : Nat)]).foldl (fun tmps (t, a) => tmps.setIfInBounds t a) a.tmps = a.tmps.setIfInBounds p (.int .i64 (j : Nat)) := by simp
   rw [htm]
   refine hassign _ j W _ ?_
   refine ⟨_, run_beginRound h2 (by rw [hrc]), ?_⟩
   obtain ⟨W2, hW2⟩ : ∃ W2, W.putObj (w.heap.size + 1) (.loop { rc .ready none with state := .busy }) = W2 := ⟨_, rfl⟩
   have hg2 : W.grownBy W2 (some (w.heap.size + 1)) := by rw [← hW2]; exact put _ _
   have k2 : Kp j W2 := hKp j W W2 h1 hg2
   have h22 : W2.heap[w.heap.size + 1]? = some (.loop { rc .ready none with state := .busy }) := by rw [← hW2]; exact World.putObj_heap_same l2
   have h32 : W2.heap[w.heap.size]? = some (.deferred (some [])) := by rw [hg2.block _ (lt_of_block h3) (fun e => by simp at e)]; exact h3
   rw [hW2]
   refine wpIn_mono (hbody _ j W2 hj hbt k2) ?_
   rintro e a3 W3 hp
   cases e with
   | normal =>
    obtain ⟨hk3, hb3, hb4⟩ := hp
    have hl3 : W3.heap[w.heap.size + 1]? = some (.loop { rc .ready none with state := .busy }) := by rw [hb4]; exact h22
    have hd3 : W3.heap[w.heap.size]? = some (.deferred (some [])) := by rw [hb3]; exact h32
    have hend := run_endRound (P := Try.prog) none hl3
    refine ⟨_, _, hend, rfl, hKp (j + 1) W3 _ hk3 (put _ _), ?_, ?_⟩
    ·rw [World.putObj_heap_same (lt_of_block hl3), hrc]; rfl
    ·exact (World.putObj_heap_other (by omega)).trans hd3
   | exit id => exact hp.elim
   | ret => exact hp.elim
   | goto t => exact hp.elim
   | panic ch => exact hp.elim
   | outgrown => exact hp.elim
  ·rintro e W2 ⟨⟨v, rfl⟩, ⟨h1, h2, h3⟩⟩
   refine ⟨none, _, by have := run_endLoop (P := Try.prog) h2 (by rw [hrc]; simp); rw [hrc] at this; exact this, ?_⟩
   exact hdone _ _ rfl (hKp r W2 _ h1 (put _ _)) ((World.putObj_heap_other (by omega)).trans h3)
end Go.Proofs.Ytokdejhbjoglcaa
