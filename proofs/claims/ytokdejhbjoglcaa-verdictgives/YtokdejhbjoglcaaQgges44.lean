/-
  Contract of the reference's Next.
  Contracts of the reference's Place and At.
  The reference's All; All's function value.
  All's function, told one set after another.
  The walk through a loop over All's sets, which may be left by a break.
  What the loop over All's sets needs: of any n and k, how many sets there are and which, and that the program and the reference tell the same.
  Variables of one cell; what the loop over All's sets leaves to be done.
  The program's verdict.left: its function tells the rows that are not lost, one after another; the law for a range over it.
  The program's verdict.firstLeft: the sources among the left rows.
  The program's verdict.ifRecovered of sets, Sources and Recovers.
-/
import Derived.Test.YtokdejhbjoglcaaQgges00
import Derived.Test.YtokdejhbjoglcaaQgges38
import Derived.RangeFuncNested
import Derived.RangeFuncBound
import Derived.RangeFuncCalls
import Derived.RangeFuncLeaves
import Derived.Shelf.Abstract
import Derived.Shelf.RegionOpen
import Derived.WalkKit
import Derived.OwnWalkIn
import Derived.TacticsInMore
import Derived.LoopNIn
import Derived.LoopIn
import Derived.Test.YtokdejhbjoglcaaQgges43
import Derived.RangeFuncKeeps
import Derived.RangeFuncFrom
import Derived.Deep.RegionHeld3
set_option maxRecDepth 100000
set_option maxHeartbeats 16000000
namespace Go.Proofs.Ytokdejhbjoglcaa
open Go.RowKit
theorem Jo.set {w : World} {B n d g : Nat} {T : TypeId} {K : IntKind} {f : Nat → Nat} (h : Jo w B T K (.slice (some ⟨g, 0, none⟩) n d) n f) (j v : Nat) : Jo (w.setCell ⟨g, j, none⟩ (.int K (v : Int))) B T K (.slice (some ⟨g, 0, none⟩) n d) n (fun i => if i = j then v else f i) := by
 have := (World.ownsRow.stored h j (.int K (v : Int))).1
 unfold Jo
 rw [← jrow_set, Array.toList_setIfInBounds]
 exact this
open Go.RowKit Go.Shelf
attribute [local go_sem] Oper.semAt_some
open Go.RowKit Go.Shelf
attribute [local go_sem] Oper.semAt_some
open Go.RowKit Go.Shelf
/-- A variable of one cell. -/
def Cl (w : World) (b : Nat) (v : Value) (T : TypeId) : Prop := w.heap[b]? = some (.cells #[v] T (0, 0))
theorem Cl.lt {w : World} {b : Nat} {v : Value} {T : TypeId} (h : Cl w b v T) : b < w.heap.size := lt_of_block h
theorem Cl.cell {w : World} {b : Nat} {v : Value} {T : TypeId} (h : Cl w b v T) : w.cell? ⟨b, 0, none⟩ = some v := by rw [cell_of_row w b 0 _ _ _ h]; rfl
theorem Cl.free {w : World} {b : Nat} {v : Value} {T : TypeId} (h : Cl w b v T) : w.frozen? ⟨b, 0, none⟩ = false := by
 unfold Cl at h
 simp [World.frozen?, h]
theorem Cl.later {w w' : World} {b : Nat} {v : Value} {T : TypeId} (h : Cl w b v T) (hb : Below w.heap.size w w') : Cl w' b v T := by unfold Cl; rw [hb.block b h.lt]; exact h
theorem Cl.kept {w w' : World} {b : Nat} {v : Value} {T : TypeId} {row : Option Nat} (h : Cl w b v T) (hg : w.grownBy w' row) (hn : row ≠ some b) : Cl w' b v T := by unfold Cl; rw [hg.block b h.lt (fun e => hn e.symm)]; exact h
theorem Cl.set {w : World} {b : Nat} {v : Value} {T : TypeId} (h : Cl w b v T) (v' : Value) : Cl (w.setCell ⟨b, 0, none⟩ v') b v' T := by
 unfold Cl at *
 rw [setCell_eq_setRow w b 0 _ _ (0, 0) _ h, setRow_heap w b _ _ _ (0, 0) h]
 rfl
theorem Cl.new (w : World) (v : Value) (T : TypeId) : Cl (w.alloc (.cells #[v] T)) w.heap.size v T := heap_alloc_new w _
open Go.RowKit Go.Shelf
attribute [local go_sem] Oper.semAt_some
theorem vleft18 (w : World) (r c : Int) (n k s : Nat) (a : Option Addr) :
  Calls Try.prog 65 #[mv r c a n k, .int .u64 (s : Int)] w fun e w' => ∃ bm bs, e = .returned (.func (.func 79) #[] #[.pointer (some ⟨bm, 0, none⟩), .pointer (some ⟨bs, 0, none⟩)]) ∧ Vr w' bm (.int .i64 r) (.int .i64 c) (.slice a n k) ∧ Cl w' bs (.int .u64 (s : Int)) 26 ∧ w.heap.size ≤ bm ∧ w.heap.size ≤ bs ∧ Below w.heap.size w w' := by
 have hmf : ∀ (fn : Fn) (first cap : Array Value) (w : World), (Instr.makeFunc fn first cap).run Try.prog w = .ok (.func fn first cap) w := fun _ _ _ _ => rfl
 go_enter Try.func65, Try.ntmps65
 go_wp2
 go_ret
 have e : (w.alloc (.cells #[.int .i64 r, .int .i64 c, .slice a n k] 24)).heap.size = w.heap.size + 1 := by simp
 refine ⟨w.heap.size, w.heap.size + 1, rfl, (Vr.new w _ _ _).later (qa1 _ _), ?_, by omega, by omega, qa0 (qa1 _ _) (qa1 _ _)⟩
 rw [← e]
 exact Cl.new _ _ _
theorem left_in (m l r s bm bs : Nat) (W0 : World) (T : Nat → World → Prop) (hm : 1 ≤ m) (hr : r ≤ 64) (hs : s < 18446744073709551616)
  (hC : ∀ j W, T j W → W.cell? ⟨bm, 0, none⟩ = some (.int .i64 (r : Int)) ∧ W.cell? ⟨bs, 0, none⟩ = some (.int .u64 (s : Int)))
  (hN : ∀ j W, j < r → bt s j = 1 → T j W → T (j + 1) W)
  (hY : ∀ j W, j < r → ¬ bt s j = 1 → T j W → YieldAt Fence.wide (m - 1) Try.prog l #[.int .i64 (j : Nat)] W (fun e W' => e = .returned (.bool true) ∧ T (j + 1) W'))
  (h0 : T 0 W0) :
  CallsIn Fence.wide m Try.prog 79 #[.func (.yield l) #[] #[], .pointer (some ⟨bm, 0, none⟩), .pointer (some ⟨bs, 0, none⟩)] W0 fun e W' => (∃ v, e = .returned v) ∧ T r W' := by
 have HC := qac hC
 have HN := qac hN
 have HYd := qac hY
 have H0 : Hid (T 0 W0) := h0
 have HH : Hid (∀ (j : Nat) (b : Bool) (w : World), (b = true ↔ bt s j = 1) → Calls Try.prog 80 #[.int .u64 (s : Int), .int .i64 (j : Int)] w fun e w' => e = .returned (.bool b) ∧ w = w') := fun j b w hb => by
  have h := jhas_ok s j w hs
  rw [show decide (bt s j = 1) = b by cases b <;> simp_all] at h
  exact h
 have c1 := (hC 0 W0 h0).1
 clear hC hY h0 hN hs
 refine callsIn_of_wp Try.func79 rfl trivial ?_ rfl
 simp only [Try.ntmps79, List.size_toArray, List.length_cons, List.length_nil, Nat.reduceAdd, Nat.reduceSub, Array.replicate_succ, Array.replicate_zero, List.push_toArray, List.append_toArray, List.nil_append, List.cons_append]
 gi_wp2
 gi_loopw [4, 7] (fun _ vi wr => ∃ j : Nat, j ≤ r ∧ vi = .int .i64 (j : Int) ∧ T j wr) (fun _ vi _ => r - (intOf vi).toNat)
 case atStart => exact ⟨0, by omega, rfl, H0.out⟩
 case round =>
  clear H0 c1
  obtain ⟨j, hj, rfl, hT⟩ := hrel
  have HT : Hid (T j wr) := hT
  by_cases hlt : j < r
  ·have hc2 := (HC.out j wr hT).2
   have p1 : (j : Int) < (r : Int) := by omega
   by_cases hbt : bt s j = 1
   ·have HT3 : Hid (T (j + 1) wr) := HN.out j wr hlt hbt hT
    have HB : Hid (∀ w : World, Calls Try.prog 80 #[.int .u64 (s : Int), .int .i64 (j : Int)] w fun e w' => e = .returned (.bool true) ∧ w = w') := fun w => HH.out j true w (by simp [hbt])
    clear hT hbt
    gi_wp2_with (refine ⟨trivial, ?_⟩; gi_at_call 80; refine (callsIn_wide.2 (HB.out _)).mono ?_; rintro e w1 ⟨rfl, rfl⟩)
    refine ⟨fun _ h => (by cases h), ?_⟩
    gi_wp2
    exact ⟨⟨j + 1, by omega, by go_num, HT3.out⟩, by simp [intOf]; omega⟩
   ·have HB : Hid (∀ w : World, Calls Try.prog 80 #[.int .u64 (s : Int), .int .i64 (j : Int)] w fun e w' => e = .returned (.bool false) ∧ w = w') := fun w => HH.out j false w (by simp [hbt])
    obtain ⟨fn, tmps, assign, body, hy, hR⟩ := HYd.out j wr hlt hbt hT
    have HRd := qac hR
    clear hR hT hbt
    gi_wp2_with (refine ⟨trivial, ?_⟩; gi_at_call 80; refine (callsIn_wide.2 (HB.out _)).mono ?_; rintro e w1 ⟨rfl, rfl⟩)
    refine HRd.out.mono ?_
    rintro e W3 ⟨rfl, ht3⟩
    have HT3 : Hid (T (j + 1) W3) := ht3
    clear ht3 hy HRd
    gi_wp2
    exact ⟨⟨j + 1, by omega, by go_num, HT3.out⟩, by simp [intOf]; omega⟩
  ·obtain rfl : j = r := by omega
   clear hT
   gi_wp2
   go_end0
   exact ⟨⟨_, rfl⟩, HT.out⟩
/-- A round's body goes on. -/
def rndL (Kp : Nat → World → Prop) (j B : Nat) (W : World) : Exit → Act → World → Prop
 | .normal, _, W' => Kp (j + 1) W' ∧ W'.heap[B]? = W.heap[B]? ∧ W'.heap[B + 1]? = W.heap[B + 1]?
 | _, _, _ => False
theorem qi0 {gop : Operand} {p : Tmp} {assign body : Code} {Q : Exit → Act → World → Prop} {a : Act} {w : World} {nn r s bm bs : Nat} (Kp : Nat → World → Prop)
  (hnn : 2 ≤ nn) (hr : r ≤ 64) (hs : s < 18446744073709551616)
  (hg : a.eval gop = .func (.func 79) #[] #[.pointer (some ⟨bm, 0, none⟩), .pointer (some ⟨bs, 0, none⟩)])
  (hKp : ∀ j W W', Kp j W → W.grownBy W' (some (w.heap.size + 1)) → Kp j W')
  (hKc : ∀ j W, Kp j W → W.cell? ⟨bm, 0, none⟩ = some (.int .i64 (r : Int)) ∧ W.cell? ⟨bs, 0, none⟩ = some (.int .u64 (s : Int)))
  (hKn : ∀ j W, j < r → bt s j = 1 → Kp j W → Kp (j + 1) W)
  (h0 : ∀ W1, Below w.heap.size w W1 → w.heap.size + 2 ≤ W1.heap.size → Kp 0 W1) (a₁ : Nat → Act)
  (hassign : ∀ (l s : Nat) (W : World) (K : Act → World → Prop), K (a₁ s) W → assign.wpIn (Fence.wide.inRound l) (nn - 1 - 1) Try.prog (Exit.then K (fun _ _ _ => False)) { tmps := a.tmps.setIfInBounds p (.int .i64 (s : Int)), defers := [] } W)
  (hbody : ∀ (l j : Nat) (W : World), j < r → ¬ bt s j = 1 → Kp j W → body.wpIn (Fence.wide.inRound l) (nn - 1 - 1) Try.prog (rndL Kp j w.heap.size W) (a₁ j) W)
  (hdone : ∀ (D : Nat) (W : World), w.heap.size = D → Kp r W → W.heap[D]? = some (.deferred (some [])) → Q .normal { a with defers := { target := .collected D, args := #[] } :: a.defers } W) :
  (Code.rangeFunc gop #[p] assign body).wpIn Fence.wide nn Try.prog Q a w := by
 refine wpIn_rangeFunc ?_
 intro fn hfn
 obtain ⟨rc, hrc⟩ : ∃ rc : LoopState → Option Code → Loop, rc = fun st pe => { state := st, pending := pe, fn, tmps := a.tmps, params := #[p], assign, body, defers := w.heap.size } := ⟨_, rfl⟩
 obtain ⟨W1, hW1⟩ : ∃ W1, (w.alloc (.deferred (some []))).alloc (.loop (rc .ready none)) = W1 := ⟨_, rfl⟩
 have hs1 : W1.heap.size = w.heap.size + 2 := by rw [← hW1]; simp
 have hL1 : W1.heap[w.heap.size + 1]? = some (.loop (rc .ready none)) := by rw [← hW1]; exact heap_alloc2_new _ _ _
 have hD1 : W1.heap[w.heap.size]? = some (.deferred (some [])) := by rw [← hW1]; exact heap_alloc2_old _ _ _
 have hb1 : Below w.heap.size w W1 := by rw [← hW1]; exact jtwo (jlow _ _) (jlow _ _)
 have hK1 : Kp 0 W1 := h0 W1 hb1 (by omega)
 have put : ∀ (W : World) (o : Obj), W.grownBy (W.putObj (w.heap.size + 1) o) (some (w.heap.size + 1)) := fun W o => grownBy_putObj' W (w.heap.size + 1) o
 refine ⟨w.heap.size + 1, [{ target := .collected w.heap.size, args := #[] }], W1, { target := .fn (.func 79) #[.pointer (some ⟨bm, 0, none⟩), .pointer (some ⟨bs, 0, none⟩)], args := #[.func (.yield (w.heap.size + 1)) #[] #[]] }, W1, 79,
  #[.func (.yield (w.heap.size + 1)) #[] #[]] ++ #[.pointer (some ⟨bm, 0, none⟩), .pointer (some ⟨bs, 0, none⟩)], W1, ?_, ?_, ?_, ?_, fun h => (by cases h), ?_⟩
 ·rw [← hW1, hrc]; exact run_enterLoop_outer _ _ _ _ _
 ·simp only [resolve, hg]
  simp [go_sem]
 ·intro f' _; trivial
 ·simp [invoke, go_sem]
 ·refine (left_in (nn - 1) (w.heap.size + 1) r s bm bs W1
   (fun j W => Kp j W ∧ W.heap[w.heap.size + 1]? = some (.loop (rc .ready none)) ∧ W.heap[w.heap.size]? = some (.deferred (some [])))
   (by omega) hr hs (fun j W h => hKc j W h.1) (fun j W hj hb h => ⟨hKn j W hj hb h.1, h.2⟩) ?_ ⟨hK1, hL1, hD1⟩).mono ?_
  ·rintro j W hj hbt ⟨h1, h2, h3⟩
   have l2 := lt_of_block h2
   have hy := run_yield (P := Try.prog) (args := #[.int .i64 (j : Nat)]) h2 (by rw [hrc]; rfl)
   rw [hrc] at hy
   refine ⟨fn, _, assign, body, hy, roundIn_of_wpIn hfn ?_⟩
   have htm : ((#[p] : Array Tmp).zip #[Value.int .i64 (j : Nat)]).foldl (fun tmps (t, a) => tmps.setIfInBounds t a) a.tmps = a.tmps.setIfInBounds p (.int .i64 (j : Nat)) := by simp
   rw [htm]
   refine hassign _ j W _ ?_
   refine ⟨_, run_beginRound h2 (by rw [hrc]), ?_⟩
   obtain ⟨W2, hW2⟩ : ∃ W2, W.putObj (w.heap.size + 1) (.loop { rc .ready none with state := .busy }) = W2 := ⟨_, rfl⟩
   have hg2 : W.grownBy W2 (some (w.heap.size + 1)) := by rw [← hW2]; exact put _ _
   have k2 : Kp j W2 := hKp j W W2 h1 hg2
   have h22 : W2.heap[w.heap.size + 1]? = some (.loop { rc .ready none with state := .busy }) := by rw [← hW2]; exact World.putObj_heap_same l2
   have h32 : W2.heap[w.heap.size]? = some (.deferred (some [])) := by rw [hg2.block _ (lt_of_block h3) (fun e => by simp at e)]; exact h3
   rw [hW2]
   refine wpIn_mono (hbody _ j W2 hj hbt k2) ?_
   rintro e a3 W3 hp
   cases e with
   | normal =>
    obtain ⟨hk3, hb3, hb4⟩ := hp
    have hl3 : W3.heap[w.heap.size + 1]? = some (.loop { rc .ready none with state := .busy }) := by rw [hb4]; exact h22
    have hd3 : W3.heap[w.heap.size]? = some (.deferred (some [])) := by rw [hb3]; exact h32
    have hend := run_endRound (P := Try.prog) none hl3
    refine ⟨_, _, hend, rfl, hKp (j + 1) W3 _ hk3 (put _ _), ?_, ?_⟩
    ·rw [World.putObj_heap_same (lt_of_block hl3), hrc]; rfl
    ·exact (World.putObj_heap_other (by omega)).trans hd3
   | exit id => exact hp.elim
   | ret => exact hp.elim
   | goto t => exact hp.elim
   | panic ch => exact hp.elim
   | outgrown => exact hp.elim
  ·rintro e W2 ⟨⟨v, rfl⟩, ⟨h1, h2, h3⟩⟩
   refine ⟨none, _, by have := run_endLoop (P := Try.prog) h2 (by rw [hrc]; simp); rw [hrc] at this; exact this, ?_⟩
   exact hdone _ _ rfl (hKp r W2 _ h1 (put _ _)) ((World.putObj_heap_other (by omega)).trans h3)
open Go.RowKit Go.Shelf
attribute [local go_sem] Oper.semAt_some
/-- What holds while the left rows are gathered: those below j. -/
structure LfI (w W : World) (r c : Int) (n k s t bm bs : Nat) (a : Option Addr) (j : Nat) : Prop where
 vg : Vr W w.heap.size (.int .i64 r) (.int .i64 c) (.slice a n k)
 cs : Cl W (w.heap.size + 1) (.int .u64 ((t % 2 ^ j : Nat) : Int)) 26
 vm : Vr W bm (.int .i64 r) (.int .i64 c) (.slice a n k)
 vs : Cl W bs (.int .u64 (s : Int)) 26
 below : Below w.heap.size w W
theorem LfI.later {w W W' : World} {r c : Int} {n k s t bm bs j : Nat} {a : Option Addr} (I : LfI w W r c n k s t bm bs a j) (hb : Below W.heap.size W W') : LfI w W' r c n k s t bm bs a j :=
 ⟨I.vg.later hb, I.cs.later hb, I.vm.later hb, I.vs.later hb, qa0 I.below hb⟩
theorem qct (w : World) (r c n k s t p : Nat) (a : Option Addr) (F : Nat → Nat) (ha : Mt w a n k F) (R : Rt r c n) (hs : s < 2 ^ r) (ht : t < 2 ^ r) (htb : ∀ i, i < r → (bt t i = 1 ↔ ¬ bt s i = 1)) (hp : BaS (m2 F r c) r t p) :
  Calls Try.prog 45 #[mv r c a n k, .int .u64 (s : Int)] w fun e w' => e = .returned (.int .u64 (p : Int)) ∧ Below w.heap.size w w' := by
 have hr := R.r64
 have hs6 := qay hr hs
 have HB : Hid (∀ w' : World, Below w.heap.size w w' → Calls Try.prog 66 #[mv r c a n k, .int .u64 (t : Int)] w' fun e w'' => e = .returned (.tuple #[.int .u64 (p : Int), .int .i64 0]) ∧ Below w'.heap.size w' w'') := base_num ha R ht hp
 have HT := qac htb
 have HL : Hid (t < 2 ^ r) := ht
 clear ha R hs ht htb hp
 obtain ⟨wb, HW⟩ : ∃ wb, Hid ((w.alloc (.cells #[.int .i64 (r : Int), .int .i64 (c : Int), .slice a n k] 24)).alloc (.cells #[.int .u64 0] 26) = wb) := ⟨_, rfl⟩
 have hsb : wb.heap.size = w.heap.size + 2 := by rw [← HW.out]; simp
 have HBb : Hid (Below w.heap.size w wb) := by rw [← HW.out]; exact qa0 (qa1 _ _) (qa1 _ _)
 have HVb : Hid (Vr wb w.heap.size (.int .i64 (r : Int)) (.int .i64 (c : Int)) (.slice a n k)) := by rw [← HW.out]; exact (Vr.new w _ _ _).later (qa1 _ _)
 have HCb : Hid (Cl wb (w.heap.size + 1) (.int .u64 0) 26) := by
  have e : (w.alloc (.cells #[.int .i64 (r : Int), .int .i64 (c : Int), .slice a n k] 24)).heap.size = w.heap.size + 1 := by simp
  rw [← HW.out, ← e]
  exact Cl.new _ _ _
 refine (callsIn_wide (n := 4)).1 (callsIn_of_wp_marks Try.func45 rfl trivial ?_ rfl)
 simp only [Try.ntmps45, List.size_toArray, List.length_cons, List.length_nil, Nat.reduceAdd, Nat.reduceSub, Array.replicate_succ, Array.replicate_zero, List.push_toArray, List.append_toArray, List.nil_append, List.cons_append]
 refine wpIn_wide.2 ?_
 go_wp2_with (go_at_call 65; rw [HW.out]; refine (vleft18 _ _ _ _ _ _ _).mono ?_; rintro e w1 ⟨bm, bs, rfl, hvm, hvs, hgm, hgs, hb⟩; have HB1 : Hid (Below wb.heap.size wb w1) := hb; have HI0 : Hid (LfI w w1 (r : Int) (c : Int) n k s t bm bs a 0) := ⟨HVb.out.later hb, (by rw [Nat.pow_zero, Nat.mod_one]; exact HCb.out.later hb), hvm, hvs, qa0 HBb.out hb⟩; clear hb hvm hvs)
 have hlm : bm < w1.heap.size := HI0.out.vm.lt
 have hls : bs < w1.heap.size := HI0.out.vs.lt
 have hl1 : w.heap.size + 2 ≤ w1.heap.size := by have := HB1.out.size; omega
 refine (wpIn_wide (n := 4)).1 ?_
 refine qi0 (nn := 4) (r := r) (s := s) (bm := bm) (bs := bs) (fun j W => LfI w W (r : Int) (c : Int) n k s t bm bs a j ∧ w1.heap.size + 2 ≤ W.heap.size) (by omega) hr hs6 rfl ?hKp ?hKc ?hKn ?h0
  (fun j => { tmps := #[mv r c a n k, .int .u64 (s : Int), .pointer (some ⟨w.heap.size, 0, none⟩), undef, .int .u64 0, .pointer (some ⟨w.heap.size + 1, 0, none⟩), .int .i64 (j : Int), undef, undef, mv r c a n k, .int .u64 (s : Int), .func (.func 79) #[] #[.pointer (some ⟨bm, 0, none⟩), .pointer (some ⟨bs, 0, none⟩)], .int .i64 (j : Int), undef, undef, undef, undef, undef, undef, undef, undef, undef, undef, undef], defers := [] }) ?hassign ?hbody ?hdone
 case hKp =>
  rintro j W W' ⟨I, hsz⟩ hg
  exact ⟨⟨I.vg.kept hg (by omega), I.cs.kept hg (fun e => by have h := Option.some.inj e; omega), I.vm.kept hg (by omega), I.vs.kept hg (fun e => by have h := Option.some.inj e; omega), I.below.grown hg I.below.size (fun g e => by have h := Option.some.inj e; omega)⟩, Nat.le_trans hsz hg.size⟩
 case hKc => exact fun j W h => ⟨h.1.vm.c0, h.1.vs.cell⟩
 case hKn =>
  rintro j W hj hbt ⟨I, hsz⟩
  refine ⟨⟨I.vg, ?_, I.vm, I.vs, I.below⟩, hsz⟩
  rw [qdw (fun h => (HT.out j hj).1 h hbt)]
  exact I.cs
 case h0 =>
  intro W1 hb hsz
  exact ⟨HI0.out.later hb, hsz⟩
 case hassign =>
  intro l j W K hK
  gi_wp2
  exact hK
 case hbody =>
  rintro l j W hj hbt ⟨I, hsz⟩
  have HI := qac I
  have hbj : bt t j = 1 := (HT.out j hj).2 hbt
  obtain ⟨x, HX⟩ : ∃ x, Hid (t % 2 ^ j = x) := ⟨_, rfl⟩
  obtain ⟨z, HZ⟩ : ∃ z : Nat, Hid ((2 ^ j : Nat) = z) := ⟨_, rfl⟩
  obtain ⟨u, HU⟩ : ∃ u, Hid (x ||| z = u) := ⟨_, rfl⟩
  have hxr : x < 2 ^ r := by rw [← HX.out]; exact Nat.lt_of_le_of_lt (Nat.mod_le _ _) HL.out
  have hp2 : IntKind.u64.wrap (2 ^ j) = (z : Int) := by rw [← HZ.out]; exact qhu j (by omega)
  have hor : bits .or .u64 (x : Int) (z : Int) = (u : Int) := j_or7 hr hxr hj HZ.out HU.out
  have HE : Hid (t % 2 ^ (j + 1) = u) := by
   show _ = _
   rw [qfh hbj, HX.out, HZ.out, HU.out]
  have HC : Hid (Cl W (w.heap.size + 1) (.int .u64 (x : Int)) 26) := by rw [← HX.out]; exact I.cs
  have c0 := HC.out.cell
  have f0 := HC.out.free
  have hj64 : j < 64 := by omega
  clear hbj hbt I hxr HX HZ HU
  have HF : Hid ((LfI w (W.setCell ⟨w.heap.size + 1, 0, none⟩ (.int .u64 (u : Int))).drew (r : Int) (c : Int) n k s t bm bs a (j + 1) ∧ w1.heap.size + 2 ≤ (W.setCell ⟨w.heap.size + 1, 0, none⟩ (.int .u64 (u : Int))).drew.heap.size) ∧ (W.setCell ⟨w.heap.size + 1, 0, none⟩ (.int .u64 (u : Int))).drew.heap[w1.heap.size]? = W.heap[w1.heap.size]? ∧ (W.setCell ⟨w.heap.size + 1, 0, none⟩ (.int .u64 (u : Int))).drew.heap[w1.heap.size + 1]? = W.heap[w1.heap.size + 1]?) := by
   have g0 := qa3 W (w.heap.size + 1) 0 (.int .u64 (u : Int))
   have gs : W.grownBy (W.setCell ⟨w.heap.size + 1, 0, none⟩ (.int .u64 (u : Int))).drew (some (w.heap.size + 1)) := ⟨g0.os, g0.tape, g0.output, g0.size, g0.block⟩
   have I := HI.out
   refine ⟨⟨⟨I.vg.kept gs (by omega), ?_, I.vm.kept gs ?_, I.vs.kept gs ?_, I.below.grown gs I.below.size (fun g e => by have h := Option.some.inj e; omega)⟩, Nat.le_trans hsz gs.size⟩, ?_, ?_⟩
   ·rw [HE.out]; exact HC.out.set _
   ·omega
   ·exact fun e => by have h := Option.some.inj e; omega
   ·exact gs.block _ (by omega) (fun e => by have h := Option.some.inj e; omega)
   ·exact gs.block _ (by omega) (fun e => by have h := Option.some.inj e; omega)
  have hmix : Try.prog.follows .mixedOrders = true := by kernel_rfl
  gi_wp2
  gi_region_o
  all_goals exact HF.out
 case hdone =>
  rintro D W hD ⟨I, hsz⟩ hdf
  have HDf := qac hdf
  have HI := qac I
  have HC : Hid (Cl W (w.heap.size + 1) (.int .u64 (t : Int)) 26) := by
   have h := I.cs
   rw [Nat.mod_eq_of_lt HL.out] at h
   exact h
  have c0 := HC.out.cell
  have v0 := I.vg.c0
  have v1 := I.vg.c1
  have v2 := I.vg.c2
  clear hdf I
  go_wp2_with (go_at_call 66; refine (HB.out _ HI.out.below).mono ?_; rintro e w5 ⟨rfl, hb⟩; have HD5 : Hid (w5.heap[D]? = some (.deferred (some []))) := (by rw [hb.block D (lt_of_block HDf.out)]; exact HDf.out); have HB5 : Hid (Below w.heap.size w w5) := qa0 HI.out.below hb; clear hb)
  refine ⟨by simp, .inl ⟨_, _, rfl, run_takeDeferred HD5.out, ?_⟩⟩
  refine ⟨.int .u64 (p : Int), by simp [results, Try.results45, go_sem], ?_⟩
  exact ⟨rfl, HB5.out.grown (grownBy_putObj' w5 D (.deferred none)) HB5.out.size (fun g e => by cases e; omega)⟩
open Go.RowKit Go.Shelf
attribute [local go_sem] Oper.semAt_some
theorem vsrc1_ok (w : World) (p : Nat) :
  Calls Try.prog 26 #[.int .u64 (p : Int)] w fun e w' => e = .returned (.int .u64 (p : Int)) ∧ w = w' := by
 go_enter Try.func26, Try.ntmps26
 go_wp2
 go_ret
 exact ⟨rfl, rfl⟩
theorem qjr (w : World) (r c : Int) (n k s : Nat) (a : Option Addr) (h : ¬ GenP r c n) :
  Calls Try.prog 25 #[mv r c a n k, .int .u64 (s : Int), .func (.func 26) #[] #[]] w fun e w' => e = .returned (.tuple #[.int .u64 0, .bool false, .int .i64 3]) ∧ Below w.heap.size w w' := by
 have HP : Hid (∀ w' : World, Calls Try.prog 43 #[mv r c a n k] w' fun e w'' => e = .returned (.bool false) ∧ Below w'.heap.size w' w'') := fun w' => qbs w' r c n k a false (by simp [h])
 clear h
 go_enter Try.func25, Try.ntmps25
 go_wp2_with (go_at_call 43; refine (HP.out _).mono ?_; rintro e w1 ⟨rfl, hb⟩; have HB1 : Hid (Below w.heap.size w w1) := qa0 (qa1 _ _) hb; clear hb)
 go_ret3
 exact ⟨rfl, HB1.out⟩
theorem vif_arg (w : World) (r c n k s : Nat) (a : Option Addr) (G : GenP r c n) (hr : r ≤ 64) (hs6 : s < 18446744073709551616) (h : ¬ s < 2 ^ r) :
  Calls Try.prog 25 #[mv r c a n k, .int .u64 (s : Int), .func (.func 26) #[] #[]] w fun e w' => e = .returned (.tuple #[.int .u64 0, .bool false, .int .i64 2]) ∧ Below w.heap.size w w' := by
 have HP : Hid (∀ w' : World, Calls Try.prog 43 #[mv r c a n k] w' fun e w'' => e = .returned (.bool true) ∧ Below w'.heap.size w' w'') := fun w' => qbs w' r c n k a true (by simp [G])
 have HR : Hid (∀ w' : World, Calls Try.prog 44 #[mv r c a n k, .int .u64 (s : Int)] w' fun e w'' => e = .returned (.bool false) ∧ Below w'.heap.size w' w'') := fun w' => by
  have h2 := qbt w' r s n k c a hr hs6
  rw [decide_eq_false h] at h2
  exact h2
 clear h G hr hs6
 go_enter Try.func25, Try.ntmps25
 go_wp2_with (first
  | (go_at_call 43; refine (HP.out _).mono ?_; rintro e w1 ⟨rfl, hb⟩; have HV1 : Hid (Vr w1 w.heap.size (.int .i64 (r : Int)) (.int .i64 (c : Int)) (.slice a n k)) := (Vr.new w _ _ _).later hb; have v0 := HV1.out.c0; have v1 := HV1.out.c1; have v2 := HV1.out.c2; have HB1 : Hid (Below w.heap.size w w1) := qa0 (qa1 _ _) hb; clear hb)
  | (go_at_call 44; refine (HR.out _).mono ?_; rintro e w2 ⟨rfl, hb⟩; have HB2 : Hid (Below w.heap.size w w2) := qa0 HB1.out hb; clear hb))
 go_ret3
 exact ⟨rfl, HB2.out⟩
theorem vif_ok (w : World) (r c n k s t p : Nat) (a : Option Addr) (F : Nat → Nat) (b : Bool) (q : Nat) (ha : Mt w a n k F) (R : Rt r c n) (G : GenP r c n) (hs : s < 2 ^ r) (ht : t < 2 ^ r) (htb : ∀ i, i < r → (bt t i = 1 ↔ ¬ bt s i = 1)) (hp : BaS (m2 F r c) r t p) (hb : b = true ↔ ¬ cn p r < c) (hq : q = if b then p else 0) :
  Calls Try.prog 25 #[mv r c a n k, .int .u64 (s : Int), .func (.func 26) #[] #[]] w fun e w' => e = .returned (.tuple #[.int .u64 (q : Int), .bool b, .int .i64 0]) ∧ Below w.heap.size w w' := by
 have hr := R.r64
 have HP : Hid (∀ w' : World, Calls Try.prog 43 #[mv r c a n k] w' fun e w'' => e = .returned (.bool true) ∧ Below w'.heap.size w' w'') := fun w' => qbs w' r c n k a true (by simp [G])
 have HR : Hid (∀ w' : World, Calls Try.prog 44 #[mv r c a n k, .int .u64 (s : Int)] w' fun e w'' => e = .returned (.bool true) ∧ Below w'.heap.size w' w'') := fun w' => by
  have h2 := qbt w' r s n k c a hr (qay hr hs)
  rw [decide_eq_true hs] at h2
  exact h2
 have HF : Hid (∀ w' : World, Below w.heap.size w w' → Calls Try.prog 45 #[mv r c a n k, .int .u64 (s : Int)] w' fun e w'' => e = .returned (.int .u64 (p : Int)) ∧ Below w'.heap.size w' w'') := fun w' hbl => qct w' r c n k s t p a F (ha.later hbl) R hs ht htb hp
 obtain ⟨K, HK⟩ : ∃ K, Hid (cn p r = K) := ⟨_, rfl⟩
 have HC : Hid (∀ w' : World, Calls Try.prog 46 #[.int .u64 (p : Int)] w' fun e w'' => e = .returned (.int .i64 (K : Int)) ∧ w' = w'') := fun w' => by
  have h := qba p w' (qay hr hp.1)
  rw [qcb hr hp.1, HK.out] at h
  exact h
 rw [HK.out] at hb
 clear ha R G hs ht htb hp hr HK
 cases b with
 | false =>
  have hlt : (K : Int) < (c : Int) := by
   apply Classical.byContradiction
   intro h
   have := hb.2 (by omega)
   cases this
  subst hq
  clear hb
  go_enter Try.func25, Try.ntmps25
  go_wp2_with (first
   | (go_at_call 43; refine (HP.out _).mono ?_; rintro e w1 ⟨rfl, hb⟩; have HV1 : Hid (Vr w1 w.heap.size (.int .i64 (r : Int)) (.int .i64 (c : Int)) (.slice a n k)) := (Vr.new w _ _ _).later hb; have v0 := HV1.out.c0; have v1 := HV1.out.c1; have v2 := HV1.out.c2; have HB1 : Hid (Below w.heap.size w w1) := qa0 (qa1 _ _) hb; clear hb)
   | (go_at_call 44; refine (HR.out _).mono ?_; rintro e w2 ⟨rfl, hb⟩; have HV2 : Hid (Vr w2 w.heap.size (.int .i64 (r : Int)) (.int .i64 (c : Int)) (.slice a n k)) := HV1.out.later hb; have v0' := HV2.out.c0; have v1' := HV2.out.c1; have v2' := HV2.out.c2; have HB2 : Hid (Below w.heap.size w w2) := qa0 HB1.out hb; clear hb)
   | (go_at_call 45; refine (HF.out _ HB2.out).mono ?_; rintro e w3 ⟨rfl, hb⟩; have HV3 : Hid (Vr w3 w.heap.size (.int .i64 (r : Int)) (.int .i64 (c : Int)) (.slice a n k)) := HV2.out.later hb; have v1'' := HV3.out.c1; have HB3 : Hid (Below w.heap.size w w3) := qa0 HB2.out hb; clear hb))
  go_region_held3 (fun w' => w'.cell? ⟨w.heap.size, 1, none⟩ = some (.int .i64 (c : Int)))
   (first | go_keep | assumption)
   (first | (go_at_call 46; refine (HC.out _).mono ?_; rintro e w' ⟨rfl, rfl⟩))
  go_wp2
  go_ret3
  exact ⟨rfl, HB3.out.drew⟩
 | true =>
  have hlt : ¬ (K : Int) < (c : Int) := by have := hb.1 rfl; omega
  have hlt2 : decide ((K : Int) < (c : Int)) = false := decide_eq_false hlt
  subst hq
  clear hb
  go_enter Try.func25, Try.ntmps25
  go_wp2_with (first
   | (go_at_call 43; refine (HP.out _).mono ?_; rintro e w1 ⟨rfl, hb⟩; have HV1 : Hid (Vr w1 w.heap.size (.int .i64 (r : Int)) (.int .i64 (c : Int)) (.slice a n k)) := (Vr.new w _ _ _).later hb; have v0 := HV1.out.c0; have v1 := HV1.out.c1; have v2 := HV1.out.c2; have HB1 : Hid (Below w.heap.size w w1) := qa0 (qa1 _ _) hb; clear hb)
   | (go_at_call 44; refine (HR.out _).mono ?_; rintro e w2 ⟨rfl, hb⟩; have HV2 : Hid (Vr w2 w.heap.size (.int .i64 (r : Int)) (.int .i64 (c : Int)) (.slice a n k)) := HV1.out.later hb; have v0' := HV2.out.c0; have v1' := HV2.out.c1; have v2' := HV2.out.c2; have HB2 : Hid (Below w.heap.size w w2) := qa0 HB1.out hb; clear hb)
   | (go_at_call 45; refine (HF.out _ HB2.out).mono ?_; rintro e w3 ⟨rfl, hb⟩; have HV3 : Hid (Vr w3 w.heap.size (.int .i64 (r : Int)) (.int .i64 (c : Int)) (.slice a n k)) := HV2.out.later hb; have v1'' := HV3.out.c1; have HB3 : Hid (Below w.heap.size w w3) := qa0 HB2.out hb; clear hb))
  go_region_held3 (fun w' => w'.cell? ⟨w.heap.size, 1, none⟩ = some (.int .i64 (c : Int)))
   (first | go_keep | assumption)
   (first | (go_at_call 46; refine (HC.out _).mono ?_; rintro e w' ⟨rfl, rfl⟩))
  go_wp2_with (go_at_call 26; refine (vsrc1_ok _ _).mono ?_; rintro e w' ⟨rfl, rfl⟩)
  go_ret3
  exact ⟨rfl, HB3.out.drew⟩
theorem vsrc_of (w : World) (r c E : Int) (n k s q : Nat) (a : Option Addr) (b : Bool)
  (HL : Hid (∀ w' : World, Below w.heap.size w w' → Calls Try.prog 25 #[mv r c a n k, .int .u64 (s : Int), .func (.func 26) #[] #[]] w' fun e w'' => e = .returned (.tuple #[.int .u64 (q : Int), .bool b, .int .i64 E]) ∧ Below w'.heap.size w' w'')) :
  Calls Try.prog 9 #[mv r c a n k, .int .u64 (s : Int)] w fun e w' => e = .returned (.tuple #[.int .u64 (q : Int), .bool b, .int .i64 E]) ∧ Below w.heap.size w w' := by
 go_enter Try.func9, Try.ntmps9
 go_wp2_with (go_at_call 25; refine (HL.out _ (qa1 _ _)).mono ?_; rintro e w1 ⟨rfl, hb⟩; have HB1 : Hid (Below w.heap.size w w1) := qa0 (qa1 _ _) hb; clear hb)
 go_ret3
 exact ⟨rfl, HB1.out⟩
theorem vrec_of (w : World) (r c E : Int) (n k s q : Nat) (a : Option Addr) (b : Bool)
  (HL : Hid (∀ w' : World, Below w.heap.size w w' → Calls Try.prog 9 #[mv r c a n k, .int .u64 (s : Int)] w' fun e w'' => e = .returned (.tuple #[.int .u64 (q : Int), .bool b, .int .i64 E]) ∧ Below w'.heap.size w' w'')) :
  Calls Try.prog 7 #[mv r c a n k, .int .u64 (s : Int)] w fun e w' => e = .returned (.tuple #[.bool b, .int .i64 E]) ∧ Below w.heap.size w w' := by
 go_enter Try.func7, Try.ntmps7
 go_wp2_with (go_at_call 9; refine (HL.out _ (qa1 _ _)).mono ?_; rintro e w1 ⟨rfl, hb⟩; have HB1 : Hid (Below w.heap.size w w1) := qa0 (qa1 _ _) hb; clear hb)
 go_ret2
 exact ⟨rfl, HB1.out⟩
end Go.Proofs.Ytokdejhbjoglcaa
