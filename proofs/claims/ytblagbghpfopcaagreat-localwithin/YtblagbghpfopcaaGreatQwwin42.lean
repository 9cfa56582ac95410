/-
  slices.Compact of a list of sets: which sets there are stays.
  slices.Values over a list of sets, and slices.Collect of it: a list of its own with the same sets.
  slices.Sorted and slices.Compact of a list of one set.
  Groups that hang together: allNought, hang.
  Groups that hang together: hang.
  Codes of portions: Pyramid.
  Codes of portions: Local.
  The document's answer: codes of portions.
  The document's answer: codes of portions, pyramids.
  The document's Local, Pyramid and Same; the law's like; what both sides answer, in pairs.
  A code with one group: allHang, isGenerator, May; the laws' anchor.
  shape.May of any code: isGenerator, allHang.
-/
import Derived.Test.YtblagbghpfopcaaGreatQwwin00
import Derived.Test.YtblagbghpfopcaaGreatQwwin22
import Derived.Deep.CutBlock
import Derived.Deep.LoopGhost
import Derived.Lib.SliceRun
import Derived.Test.YtblagbghpfopcaaGreatQwwin39
import Derived.RangeFuncNested
import Derived.RangeFuncCalls
import Derived.RangeFuncLeaves
import Derived.RangeFuncBound
import Derived.RangeFuncKeeps
import Derived.RangeFuncFrom
import Derived.Shelf.Abstract
import Derived.Shelf.RegionOpen
import Derived.LoopNIn
import Derived.LoopIn
import Derived.TacticsInMore
import Derived.OwnWalkIn
import Derived.Test.YtblagbghpfopcaaGreatQwwin23
import Derived.Test.YtblagbghpfopcaaGreatQwwin41
import Derived.Test.YtblagbghpfopcaaGreatQwwin38
import Derived.Test.YtblagbghpfopcaaGreatQwwin27
import Derived.Test.YtblagbghpfopcaaGreatQwwin26
import Derived.Test.YtblagbghpfopcaaGreatQwwin25
set_option maxRecDepth 100000
set_option maxHeartbeats 16000000
namespace Go.Proofs.YtblagbghpfopcaaGreat
open Go.RowKit
/-- What the inner loop of Compact knows: k numbers are kept, those up to k0 + k2 were looked at. -/
structure Cpk (w w' : World) (g o n c : Nat) (q : Nat → Nat) (k0 k k2 : Nat) (f : Nat → Nat) : Prop where
 cell : ∀ t, t < n → w'.cell? ⟨g, o + t, none⟩ = some (.int .u64 (f t : Nat))
 sh : ∃ cur, w'.heap[g]? = some (.cells cur 26 (0, 0)) ∧ cur.size = c
 gr : w.grownBy w' (some g)
 rest : ∀ t, k0 + k2 ≤ t + 1 → t < n → f t = q t
 same : ∀ v, (∃ i, i < k0 + k2 ∧ q i = v) ↔ ∃ i, i < k ∧ f i = v
theorem Cpk.free {w w' : World} {g o n c k0 k k2 : Nat} {q f : Nat → Nat} (h : Cpk w w' g o n c q k0 k k2 f) (t : Nat) : w'.frozen? ⟨g, o + t, none⟩ = false := by
 obtain ⟨cur, hc, _⟩ := h.sh
 simp [World.frozen?, hc]
theorem Cpk.drewN {w w' : World} {g o n c k0 k k2 : Nat} {q f : Nat → Nat} (h : Cpk w w' g o n c q k0 k k2 f) (m : Nat) : Cpk w (w'.drewN m) g o n c q k0 k k2 f :=
 ⟨fun t ht => h.cell t ht, h.sh, qe8 h.gr ⟨rfl, rfl, rfl, Nat.le_refl _, fun _ _ _ => rfl⟩, h.rest, h.same⟩
theorem Cpk.start {w w' : World} {g o n c k0 : Nat} {q : Nat → Nat} (h : Sq w w' g o n c q q) (h1 : 1 ≤ k0) (e : q k0 = q (k0 - 1)) : Cpk w w' g o n c q k0 k0 1 q :=
 ⟨h.cell, h.sh, h.gr, fun _ _ _ => rfl, fun v => by
  constructor
  ·rintro ⟨i, hi, e'⟩
   by_cases hk : i = k0
   ·subst hk; exact ⟨i - 1, by omega, by rw [← e, e']⟩
   ·exact ⟨i, by omega, e'⟩
  ·rintro ⟨i, hi, e'⟩
   exact ⟨i, by omega, e'⟩⟩
theorem Cpk.skip {w w' : World} {g o n c k0 k k2 : Nat} {q f : Nat → Nat} (h : Cpk w w' g o n c q k0 k k2 f) (h1 : 1 ≤ k2) (hk : k0 + k2 < n) (e : f (k0 + k2) = f (k0 + k2 - 1)) : Cpk w w' g o n c q k0 k (k2 + 1) f :=
 ⟨h.cell, h.sh, h.gr, fun t ht hn => h.rest t (by omega) hn, fun v => by
  rw [← h.same v]
  have e1 := h.rest (k0 + k2) (by omega) hk
  have e2 := h.rest (k0 + k2 - 1) (by omega) (by omega)
  constructor
  ·rintro ⟨i, hi, e'⟩
   by_cases hk : i = k0 + k2
   ·subst hk; exact ⟨k0 + k2 - 1, by omega, by rw [← e2, ← e, e1, e']⟩
   ·exact ⟨i, by omega, e'⟩
  ·rintro ⟨i, hi, e'⟩
   exact ⟨i, by omega, e'⟩⟩
theorem Cpk.put {w w' : World} {g o n c k0 k k2 : Nat} {q f : Nat → Nat} (h : Cpk w w' g o n c q k0 k k2 f) (hk : k0 + k2 < n) (hk2 : k + 1 ≤ k0 + k2) :
  Cpk w (w'.setCell ⟨g, o + k, none⟩ (.int .u64 (f (k0 + k2) : Nat))) g o n c q k0 (k + 1) (k2 + 1) (fun t => if t = k then f (k0 + k2) else f t) := by
 obtain ⟨c1, s1⟩ := Sq.set h.cell h.sh k (f (k0 + k2)) (by omega)
 refine ⟨c1, s1, qe8 h.gr (qcz _ _ _ _), fun t ht hn => ?_, fun v => ?_⟩
 ·show (if t = k then f (k0 + k2) else f t) = q t
  rw [if_neg (by omega)]; exact h.rest t (by omega) hn
 ·have e1 := h.rest (k0 + k2) (by omega) hk
  constructor
  ·rintro ⟨i, hi, e'⟩
   by_cases hi2 : i = k0 + k2
   ·subst hi2; exact ⟨k, by omega, by show (if k = k then _ else _) = v; rw [if_pos rfl, e1, e']⟩
   ·obtain ⟨j, hj, e2⟩ := (h.same v).1 ⟨i, by omega, e'⟩
    exact ⟨j, by omega, by show (if j = k then _ else f j) = v; rw [if_neg (by omega)]; exact e2⟩
  ·rintro ⟨j, hj, e'⟩
   have e' : (if j = k then f (k0 + k2) else f j) = v := e'
   by_cases hj2 : j = k
   ·rw [if_pos hj2] at e'
    exact ⟨k0 + k2, by omega, by rw [← e1, e']⟩
   ·rw [if_neg hj2] at e'
    obtain ⟨i, hi, e2⟩ := (h.same v).2 ⟨j, by omega, e'⟩
    exact ⟨i, by omega, e2⟩
/-- What Compact answers. -/
def CpA (w : World) (g o n cap : Nat) (q : Nat → Nat) (e : Ending) (w' : World) : Prop := ∃ (m : Nat) (f : Nat → Nat), e = .returned (.slice (some ⟨g, o, none⟩) m cap) ∧ m ≤ n ∧ (∀ t, t < m → w'.cell? ⟨g, o + t, none⟩ = some (.int .u64 (f t : Nat))) ∧ (∀ v, (∃ i, i < n ∧ q i = v) ↔ ∃ i, i < m ∧ f i = v) ∧ w.grownBy w' (some g)
theorem qf5 (g : Nat) : ∀ (vs : List Value) (o : Nat) (w : World), w.grownBy (w.setCells g o vs) (some g)
 | [], _, _ => ⟨rfl, rfl, rfl, Nat.le_refl _, fun _ _ _ => rfl⟩
 | v :: vs, o, w => qe8 (qcz w g o v) (qf5 g vs (o + 1) _)
theorem qkk (w : World) (g o n c cap : Nat) (q : Nat → Nat) (h2 : 2 ≤ n) (hn : n ≤ 17592186044416) (hcap : n ≤ cap) (hc : ∀ t, t < n → w.cell? ⟨g, o + t, none⟩ = some (.int .u64 (q t : Nat))) (hs : ∃ cur, w.heap[g]? = some (.cells cur 26 (0, 0)) ∧ cur.size = c) :
  Calls Tryz.prog 101 #[.slice (some ⟨g, o, none⟩) n cap] w fun e w' => CpA w g o n cap q e w' := by
 have H0 : Hid (Sq w w g o n c q q) := Sq.start hc hs
 clear hc hs
 go_enter Tryz.func101, Tryz.ntmps101
 go_wp2
 go_loopg [3] n (fun gh vk wr => ∃ k : Nat, vk = .int .i64 (k : Int) ∧ 1 ≤ k ∧ k ≤ n ∧ n - k ≤ gh ∧ Sq w wr g o n c q q)
 case atStart => exact ⟨1, rfl, by omega, by omega, by omega, H0.out⟩
 case round =>
  obtain ⟨k0, rfl, hk1, hk2, hgh, hS⟩ := hrel
  have hcw := hS.cell
  have HQ : Hid (Sq w wr g o n c q q) := hS
  clear hS H0
  by_cases hlt : k0 < n
  ·have hlt2 : (k0 : Int) < (n : Int) := by omega
   obtain ⟨r, hr⟩ : ∃ r, n = k0 + r := ⟨n - k0, by omega⟩
   have HR : Hid (n - k0 = r) := by show _ = _; omega
   have hr1 : 1 ≤ r := by omega
   have hr2 : k0 + r ≤ n := by omega
   have hr3 : n ≤ k0 + r := by omega
   clear hr
   by_cases he : q k0 = q (k0 - 1)
   ·have HE : Hid (q k0 = q (k0 - 1)) := he
    have heb : ((q k0 : Int) == (q (k0 - 1) : Int)) = true := by simp; omega
    clear he
    go_wp2
    go_quiet (fail)
    go_wp2
    rw [HR.out]
    have HC : Hid (Cpk w (wr.drewN nq) g o n c q k0 k0 1 q) := Cpk.start (HQ.out.drewN _) hk1 HE.out
    clear hcw heb HE HQ
    go_loopg [3, 5] n (fun gh v3 v5 wr => ∃ (k k2 : Nat) (f : Nat → Nat), v3 = .int .i64 (k : Int) ∧ v5 = .int .i64 (k2 : Int) ∧ 1 ≤ k2 ∧ k0 ≤ k ∧ k + 1 ≤ k0 + k2 ∧ k2 ≤ r ∧ r - k2 ≤ gh ∧ Cpk w wr g o n c q k0 k k2 f)
    case atStart => exact ⟨k0, 1, q, rfl, rfl, by omega, by omega, by omega, by omega, by omega, HC.out⟩
    case round =>
     obtain ⟨k, k2, f, rfl, rfl, hm1, hm2, hm3, hm4, hgh2, hC⟩ := hrel
     have hcw := hC.cell
     have hfw : ∀ t, t < n → wr.frozen? ⟨g, o + t, none⟩ = false := fun t _ => hC.free t
     have HC1 : Hid (Cpk w wr g o n c q k0 k k2 f) := hC
     clear hC HC
     by_cases hl : k2 < r
     ·have hl2 : (k2 : Int) < (r : Int) := by omega
      by_cases he : f (k0 + k2) = f (k0 + (k2 - 1))
      ·have HE : Hid (f (k0 + k2) = f (k0 + (k2 - 1))) := he
       have heb : ((f (k0 + k2) : Int) != (f (k0 + (k2 - 1)) : Int)) = false := by simp; omega
       clear he
       go_wp2
       go_quiet (fail)
       go_wp2
       go_roundg (gk - 1)
       case measure => omega
       case rel => exact ⟨k, k2 + 1, f, rfl, by go_num, by omega, by omega, by omega, by omega, by omega, (HC1.out.drewN _).skip hm1 (by omega) (by rw [HE.out, show k0 + (k2 - 1) = k0 + k2 - 1 by omega])⟩
      ·have heb : ((f (k0 + k2) : Int) != (f (k0 + (k2 - 1)) : Int)) = true := by simp; omega
       clear he
       go_wp2
       go_quiet (fail)
       go_wp2
       go_roundg (gk - 1)
       case measure => omega
       case rel => exact ⟨k + 1, k2 + 1, _, by go_num, by go_num, by omega, by omega, by omega, by omega, by omega, (HC1.out.drewN _).put (by omega) (by omega)⟩
     ·have hl2 : ¬ (k2 : Int) < (r : Int) := by omega
      obtain ⟨z, HZ⟩ : ∃ z : List Value, Hid (List.replicate (n - k) (.int .u64 0) = z) := ⟨_, rfl⟩
      have hcl : ∀ ty, (Builtin.clear_ #[39] ty #[.slice (some ⟨g, o + k, none⟩) (n - k) (cap - k)]).run Tryz.prog wr = .ok (.tuple #[]) (wr.setCells g (o + k) z) := fun ty => by
       rw [← HZ.out]
       exact Lib.run_clear_slice wr _ _ ty _ Tryz.underlying39 Tryz.zeroValue26 rfl rfl g (o + k) _ _ (by omega) (fun j hj => by rw [show o + k + j = o + (k + j) by omega, hcw (k + j) (by omega)]; rfl) (fun j hj => by rw [show o + k + j = o + (k + j) by omega]; exact hfw (k + j) (by omega))
      go_wp2
      go_ret
      refine ⟨k, f, rfl, by omega, fun t ht => ?_, fun v => ?_, qe8 HC1.out.gr (qf5 _ _ _ _)⟩
      ·rw [World.cell?_setCells_out g z (o + k) wr ⟨g, o + t, none⟩ (fun _ _ => .inl (by show o + t < o + k; omega))]
       exact HC1.out.cell t (by omega)
      ·rw [← HC1.out.same v, show k0 + k2 = n by omega]
   ·have heb : ((q k0 : Int) == (q (k0 - 1) : Int)) = false := by simp; omega
    clear he
    go_wp2
    go_quiet (fail)
    go_wp2
    go_roundg (gk - 1)
    case measure => omega
    case rel => exact ⟨k0 + 1, by go_num, by omega, by omega, by omega, HQ.out.drewN _⟩
  ·have hlt2 : ¬ (k0 : Int) < (n : Int) := by omega
   go_wp2
   go_ret
   exact ⟨n, q, rfl, by omega, HQ.out.cell, fun v => Iff.rfl, HQ.out.gr⟩
open Go.RowKit Go.Shelf
attribute [local go_sem] Oper.semAt_some
theorem jhidv {p : Prop} (h : p) : Hid p := h
theorem values16 (w : World) (a : Option Addr) (n k : Nat) :
  Calls Tryz.prog 103 #[.slice a n k] w fun e w' => e = .returned (.func (.func 120) #[] #[.pointer (some ⟨w.heap.size, 0, none⟩)]) ∧ w.alloc (.cells #[.slice a n k] 39) = w' := by
 have hmf : ∀ (fn : Fn) (first cap : Array Value) (w : World), (Instr.makeFunc fn first cap).run Tryz.prog w = .ok (.func fn first cap) w := fun _ _ _ _ => rfl
 go_enter Tryz.func103, Tryz.ntmps103
 go_wp2
 go_ret
 exact ⟨rfl, rfl⟩
theorem values_in (m l n k bv : Nat) (a : Option Addr) (q : Nat → Nat) (W0 : World) (T : Nat → World → Prop) (hm : 1 ≤ m) (hn : n ≤ 17592186044416)
  (hC : ∀ j W, T j W → W.cell? ⟨bv, 0, none⟩ = some (.slice a n k) ∧ Jl W a .u64 n (fun i => (q i : Int)))
  (hY : ∀ j W, j < n → T j W → YieldAt Fence.wide (m - 1) Tryz.prog l #[.int .u64 (q j : Nat)] W (fun e W' => e = .returned (.bool true) ∧ T (j + 1) W'))
  (h0 : T 0 W0) :
  CallsIn Fence.wide m Tryz.prog 120 #[.func (.yield l) #[] #[], .pointer (some ⟨bv, 0, none⟩)] W0 fun e W' => (∃ v, e = .returned v) ∧ T n W' := by
 have HC := jhidv hC
 have HYd := jhidv hY
 have H0 : Hid (T 0 W0) := h0
 have c1 := (hC 0 W0 h0).1
 clear hC hY h0
 refine callsIn_of_wp Tryz.func120 rfl trivial ?_ rfl
 simp only [Tryz.ntmps120, List.size_toArray, List.length_cons, List.length_nil, Nat.reduceAdd, Nat.reduceSub, Array.replicate_succ, Array.replicate_zero, List.push_toArray, List.append_toArray, List.nil_append, List.cons_append]
 gi_wp2
 gi_loopw [4, 7] (fun _ vi wr => ∃ j : Nat, j ≤ n ∧ vi = .int .i64 (j : Int) ∧ T j wr) (fun _ vi _ => n - (intOf vi).toNat)
 case atStart => exact ⟨0, by omega, rfl, H0.out⟩
 case round =>
  clear H0 c1
  obtain ⟨j, hj, rfl, hT⟩ := hrel
  have HT : Hid (T j wr) := hT
  by_cases hlt : j < n
  ·obtain ⟨x, o, ea, hc⟩ := (HC.out j wr hT).2 j hlt
   obtain ⟨y, HY⟩ : ∃ y, Hid (q j = y) := ⟨_, rfl⟩
   have hc2 : wr.cell? ⟨x, o + j, none⟩ = some (.int .u64 (y : Int)) := by rw [← HY.out]; exact hc
   obtain ⟨fn, tmps, assign, body, hy, hR⟩ := HYd.out j wr hlt hT
   rw [HY.out] at hy
   have HRd := jhidv hR
   have p0 : (0 : Int) ≤ (j : Int) := by omega
   have p1 : (j : Int) < (n : Int) := by omega
   subst ea
   clear hR hT hc
   gi_wp2
   refine HRd.out.mono ?_
   rintro e W3 ⟨rfl, ht3⟩
   have HT3 : Hid (T (j + 1) W3) := ht3
   clear ht3 hy HRd
   gi_wp2
   exact ⟨⟨j + 1, by omega, by go_num, HT3.out⟩, by simp [intOf]; omega⟩
  ·obtain rfl : j = n := by omega
   clear hT
   gi_wp2
   go_end0
   exact ⟨⟨_, rfl⟩, HT.out⟩
/-- A round's body goes on. -/
def rndV (Kp : Nat → World → Prop) (j B : Nat) (W : World) : Exit → Act → World → Prop
 | .normal, _, W' => Kp (j + 1) W' ∧ W'.heap[B]? = W.heap[B]? ∧ W'.heap[B + 1]? = W.heap[B + 1]?
 | _, _, _ => False
theorem qjs {gop : Operand} {p : Tmp} {assign body : Code} {Q : Exit → Act → World → Prop} {a : Act} {w : World} {nn n k bv : Nat} {sa : Option Addr} (q : Nat → Nat) (Kp : Nat → World → Prop)
  (hnn : 2 ≤ nn) (hn : n ≤ 17592186044416)
  (hg : a.eval gop = .func (.func 120) #[] #[.pointer (some ⟨bv, 0, none⟩)])
  (hKp : ∀ j W W', Kp j W → W.grownBy W' (some (w.heap.size + 1)) → Kp j W')
  (hKc : ∀ j W, Kp j W → W.cell? ⟨bv, 0, none⟩ = some (.slice sa n k) ∧ Jl W sa .u64 n (fun i => (q i : Int)))
  (h0 : ∀ W1, Below w.heap.size w W1 → w.heap.size + 2 ≤ W1.heap.size → Kp 0 W1) (a₁ : Nat → Act)
  (hassign : ∀ (l s : Nat) (W : World) (K : Act → World → Prop), K (a₁ s) W → assign.wpIn (Fence.wide.inRound l) (nn - 1 - 1) Tryz.prog (Exit.then K (fun _ _ _ => False)) { tmps := a.tmps.setIfInBounds p (.int .u64 (s : Int)), defers := [] } W)
  (hbody : ∀ (l j : Nat) (W : World), j < n → Kp j W → body.wpIn (Fence.wide.inRound l) (nn - 1 - 1) Tryz.prog (rndV Kp j w.heap.size W) (a₁ (q j)) W)
  (hdone : ∀ (D : Nat) (W : World), w.heap.size = D → Kp n W → W.heap[D]? = some (.deferred (some [])) → Q .normal { a with defers := { target := .collected D, args := #[] } :: a.defers } W) :
  (Code.rangeFunc gop #[p] assign body).wpIn Fence.wide nn Tryz.prog Q a w := by
 refine wpIn_rangeFunc ?_
 intro fn hfn
 obtain ⟨rc, hrc⟩ : ∃ rc : LoopState → Option Code → Loop, rc = fun st pe => { state := st, pending := pe, fn, tmps := a.tmps, params := #[p], assign, body, defers := w.heap.size } := ⟨_, rfl⟩
 obtain ⟨W1, hW1⟩ : ∃ W1, (w.alloc (.deferred (some []))).alloc (.loop (rc .ready none)) = W1 := ⟨_, rfl⟩
 have hs1 : W1.heap.size = w.heap.size + 2 := by rw [← hW1]; simp
 have hL1 : W1.heap[w.heap.size + 1]? = some (.loop (rc .ready none)) := by rw [← hW1]; exact heap_alloc2_new _ _ _
 have hD1 : W1.heap[w.heap.size]? = some (.deferred (some [])) := by rw [← hW1]; exact heap_alloc2_old _ _ _
 have hb1 : Below w.heap.size w W1 := by rw [← hW1]; exact jtwo (jlow _ _) (jlow _ _)
 have hK1 : Kp 0 W1 := h0 W1 hb1 (by omega)
 have put : ∀ (W : World) (o : Obj), W.grownBy (W.putObj (w.heap.size + 1) o) (some (w.heap.size + 1)) := fun W o => grownBy_putObj' W (w.heap.size + 1) o
 refine ⟨w.heap.size + 1, [{ target := .collected w.heap.size, args := #[] }], W1, { target := .fn (.func 120) #[.pointer (some ⟨bv, 0, none⟩)], args := #[.func (.yield (w.heap.size + 1)) #[] #[]] }, W1, 120,
  #[.func (.yield (w.heap.size + 1)) #[] #[]] ++ #[.pointer (some ⟨bv, 0, none⟩)], W1, ?_, ?_, ?_, ?_, fun h => (by cases h), ?_⟩
 ·rw [← hW1, hrc]; exact run_enterLoop_outer _ _ _ _ _
 ·simp only [resolve, hg]
  simp [go_sem]
 ·intro f' _; trivial
 ·simp [invoke, go_sem]
 ·refine (values_in (nn - 1) (w.heap.size + 1) n k bv sa q W1
   (fun j W => Kp j W ∧ W.heap[w.heap.size + 1]? = some (.loop (rc .ready none)) ∧ W.heap[w.heap.size]? = some (.deferred (some [])))
   (by omega) hn (fun j W h => hKc j W h.1) ?_ ⟨hK1, hL1, hD1⟩).mono ?_
  ·rintro j W hj ⟨h1, h2, h3⟩
   have l2 := lt_of_block h2
   have hy := run_yield (P := Tryz.prog) (args := #[.int .u64 (q j : Nat)]) h2 (by rw [hrc]; rfl)
   rw [hrc] at hy
   refine ⟨fn, _, assign, body, hy, roundIn_of_wpIn hfn ?_⟩
   have htm : ((#[p] : Array Tmp).zip #[Value.int .u64 (q j : Nat)]).foldl (fun tmps (t, a) => tmps.setIfInBounds t a) a.tmps = a.tmps.setIfInBounds p (.int .u64 (q j : Nat)) := by simp
   rw [htm]
   refine hassign _ (q j) W _ ?_
   refine ⟨_, run_beginRound h2 (by rw [hrc]), ?_⟩
   obtain ⟨W2, hW2⟩ : ∃ W2, W.putObj (w.heap.size + 1) (.loop { rc .ready none with state := .busy }) = W2 := ⟨_, rfl⟩
   have hg2 : W.grownBy W2 (some (w.heap.size + 1)) := by rw [← hW2]; exact put _ _
   have k2 : Kp j W2 := hKp j W W2 h1 hg2
   have h22 : W2.heap[w.heap.size + 1]? = some (.loop { rc .ready none with state := .busy }) := by rw [← hW2]; exact World.putObj_heap_same l2
   have h32 : W2.heap[w.heap.size]? = some (.deferred (some [])) := by rw [hg2.block _ (lt_of_block h3) (fun e => by simp at e)]; exact h3
   rw [hW2]
   refine wpIn_mono (hbody _ j W2 hj k2) ?_
   rintro e a3 W3 hp
   cases e with
   | normal =>
    obtain ⟨hk3, hb3, hb4⟩ := hp
    have hl3 : W3.heap[w.heap.size + 1]? = some (.loop { rc .ready none with state := .busy }) := by rw [hb4]; exact h22
    have hd3 : W3.heap[w.heap.size]? = some (.deferred (some [])) := by rw [hb3]; exact h32
    have hend := run_endRound (P := Tryz.prog) none hl3
    refine ⟨_, _, hend, rfl, hKp (j + 1) W3 _ hk3 (put _ _), ?_, ?_⟩
    ·rw [World.putObj_heap_same (lt_of_block hl3), hrc]; rfl
    ·exact (World.putObj_heap_other (by omega)).trans hd3
   | exit id => exact hp.elim
   | ret => exact hp.elim
   | goto t => exact hp.elim
   | panic ch => exact hp.elim
   | outgrown => exact hp.elim
  ·rintro e W2 ⟨⟨v, rfl⟩, ⟨h1, h2, h3⟩⟩
   refine ⟨none, _, by have := run_endLoop (P := Tryz.prog) h2 (by rw [hrc]; simp); rw [hrc] at this; exact this, ?_⟩
   exact hdone _ _ rfl (hKp n W2 _ h1 (put _ _)) ((World.putObj_heap_other (by omega)).trans h3)
/-- What is kept while a list is gathered. -/
structure GaI (w W : World) (bv n k : Nat) (a : Option Addr) (q : Nat → Nat) (j : Nat) : Prop where
 ex : ∃ s d, Vq W w.heap.size 39 #[.slice s j d] ∧ Jo W (w.heap.size + 3) 26 .u64 (.slice s j d) j q
 src : W.cell? ⟨bv, 0, none⟩ = some (.slice a n k) ∧ Jl W a .u64 n (fun i => (q i : Int))
 below : Below w.heap.size w W
 size : w.heap.size + 3 ≤ W.heap.size
theorem appseq16 (w : World) (a : Option Addr) (n k bv : Nat) (q : Nat → Nat) (hn : n ≤ 17592186044416) (hv : w.cell? ⟨bv, 0, none⟩ = some (.slice a n k)) (hj : Jl w a .u64 n (fun i => (q i : Int))) :
  Calls Tryz.prog 131 #[.slice none 0 0, .func (.func 120) #[] #[.pointer (some ⟨bv, 0, none⟩)]] w fun e w' => ∃ s d, e = .returned (.slice s n d) ∧ Jo w' w.heap.size 26 .u64 (.slice s n d) n q ∧ Below w.heap.size w w' := by
 obtain ⟨u0, hu0, hy0, hy1, hy2⟩ := info_parts ju64
 obtain ⟨wb, HW⟩ : ∃ wb, Hid (w.alloc (.cells #[.slice none 0 0] 39) = wb) := ⟨_, rfl⟩
 have hsb : wb.heap.size = w.heap.size + 1 := by rw [← HW.out, qe0]
 have HBb : Hid (Below w.heap.size w wb) := by rw [← HW.out]; exact qa1 _ _
 have HVb : Hid (Vq wb w.heap.size 39 #[.slice none 0 0]) := by rw [← HW.out]; exact Vq.new w _ _
 have hbvw : bv < w.heap.size := qdu hv
 have HS : Hid (w.cell? ⟨bv, 0, none⟩ = some (.slice a n k) ∧ Jl w a .u64 n (fun i => (q i : Int))) := ⟨hv, hj⟩
 have HAw : Hid (∀ i, i < n → ∀ x, a = some x → x.block < w.heap.size) := fun i hi x hx => by
  obtain ⟨b, o, e, hc⟩ := hj i hi
  rw [e] at hx
  cases hx
  exact qdu hc
 clear hv hj
 refine (callsIn_wide (n := 4)).1 (callsIn_of_wp_marks Tryz.func131 rfl trivial ?_ rfl)
 simp only [Tryz.ntmps131, List.size_toArray, List.length_cons, List.length_nil, Nat.reduceAdd, Nat.reduceSub, Array.replicate_succ, Array.replicate_zero, List.push_toArray, List.append_toArray, List.nil_append, List.cons_append]
 refine wpIn_wide.2 ?_
 go_wp2
 rw [HW.out]
 refine (wpIn_wide (n := 4)).1 ?_
 refine qjs (nn := 4) (n := n) (k := k) (bv := bv) (sa := a) q (fun j W => GaI w W bv n k a q j) (by omega) hn rfl ?hKp ?hKc ?h0
  (fun s => { tmps := #[.slice none 0 0, .func (.func 120) #[] #[.pointer (some ⟨bv, 0, none⟩)], .pointer (some ⟨w.heap.size, 0, none⟩), undef, .slice none 0 0, .int .u64 (s : Int), .func (.func 120) #[] #[.pointer (some ⟨bv, 0, none⟩)], .int .u64 (s : Int), undef, undef, undef, undef, undef], defers := [] }) ?hassign ?hbody ?hdone
 case hKp =>
  rintro j W W' ⟨⟨s, d, h1, h2⟩, h3, h4, h5⟩ hg
  rw [hsb] at hg
  refine ⟨⟨s, d, h1.kept hg (by omega), h2.kept hg (qhg h2 (by omega))⟩, ⟨?_, fun i hi => ?_⟩, h4.grown hg h4.size (fun g e => by cases e; omega), Nat.le_trans h5 hg.size⟩
  ·rw [World.cell?_of_block (a := ⟨bv, 0, none⟩) (hg.block bv (by omega) (fun e => by cases e; omega))]; exact h3.1
  ·obtain ⟨b, o, e, hc⟩ := h3.2 i hi
   have hb := HAw.out i hi _ e
   exact ⟨b, o, e, by rw [World.cell?_of_block (a := ⟨b, o + i, none⟩) (hg.block b (by show b < _; have : b < w.heap.size := hb; omega) (fun e => by cases e; have : w.heap.size + 1 + 1 < w.heap.size := hb; omega))]; exact hc⟩
 case hKc => exact fun j W h => h.src
 case h0 =>
  intro W1 hb hs
  have hBW : Below w.heap.size w W1 := jtwo HBb.out hb
  exact ⟨⟨none, 0, HVb.out.later hb, Jo.nil _ _ _ _ _⟩, ⟨keepc hBW HS.out.1, HS.out.2.later hBW⟩, hBW, by omega⟩
 case hassign =>
  intro l s W1 K hK
  gi_wp2
  exact hK
 case hbody =>
  rintro l j W hj ⟨⟨s, d, h1, h2⟩, h3, h4, h5⟩
  have HV : Hid (Vq W w.heap.size 39 #[.slice s j d]) := h1
  have HJ : Hid (Jo W (w.heap.size + 3) 26 .u64 (.slice s j d) j q) := h2
  have HB : Hid (Below w.heap.size w W) := h4
  have c0 := h1.cell 0 _ rfl
  obtain ⟨y, HY⟩ : ∃ y, Hid (q j = y) := ⟨_, rfl⟩
  rw [HY.out]
  have hml : j + 1 ≤ maxLen := by unfold maxLen; omega
  clear h1 h2 h4
  gi_wp2_with (gi_at_builtin; refine wpListIn_append_own _ rfl _ _ 39 rfl (w.heap.size + 3) 26 u0 (.int .u64 0) 1 8 Tryz.underlying39 hu0 hy0 hy1 hy2 rfl (by decide) _ j (jrow .u64 j q).toList rfl (World.ownsRow.alloc HJ.out _) ⟨W.heap.size, 0, none⟩ 1 1 [.int .u64 (y : Int)] rfl rfl (qdv _ _ _ _) (qdw _ _) hml (by omega) (by simp; omega) ?_; intro v3 w3 hown3 hgrow3 _; have HO3 : Hid (Jo w3 (w.heap.size + 3) 26 .u64 v3 (j + 1) q) := (by show World.ownsRow _ _ _ _ _ _ _; rw [← qm6, HY.out]; exact hown3); have HB3 : Hid (Below (w.heap.size + 3) W w3) := ((Below.refl _ _).alloc h5 _).grown hgrow3 (by simp; omega) (qag HJ.out); have HV3 : Hid (Vq w3 w.heap.size 39 #[.slice s j d]) := HV.out.lowB HB3.out (by omega); have c3 := HV3.out.cell 0 _ rfl; have f3 := HV3.out.free 0; obtain ⟨s3, d3, e3, _⟩ := HO3.out.form; subst e3; clear hown3 hgrow3)
  have gs := qa3 w3 w.heap.size 0 (.slice s3 (j + 1) d3)
  have hb3 := HB3.out.size
  refine ⟨⟨⟨s3, d3, HV3.out.set 0 _, HO3.out.kept gs (qhg HO3.out (by omega))⟩, ⟨?_, fun i hi => ?_⟩, (HB.out.trans (HB3.out.mono (by omega))).grown gs (by have := HB.out.size; omega) (fun g e => by cases e; omega), ?_⟩, ?_, ?_⟩
  ·rw [World.cell?_of_block (a := ⟨bv, 0, none⟩) (gs.block bv (by omega) (fun e => by cases e; omega)), HB3.out.cell (p := ⟨bv, 0, none⟩) (by show bv < _; omega)]; exact h3.1
  ·obtain ⟨b, o, e, hc⟩ := h3.2 i hi
   have hb : b < w.heap.size := HAw.out i hi _ e
   exact ⟨b, o, e, by rw [World.cell?_of_block (a := ⟨b, o + i, none⟩) (gs.block b (by omega) (fun e => by cases e; omega)), HB3.out.cell (p := ⟨b, o + i, none⟩) (by show b < _; omega)]; exact hc⟩
  ·have : (w3.setCell ⟨w.heap.size, 0, none⟩ (.slice s3 (j + 1) d3)).heap.size = w3.heap.size := by simp
   omega
  ·rw [hsb, gs.block _ (by omega) (fun e => by have h := Option.some.inj e; omega), HB3.out.block _ (by omega)]
  ·rw [hsb, gs.block _ (by omega) (fun e => by have h := Option.some.inj e; omega), HB3.out.block _ (by omega)]
 case hdone =>
  rintro D W hD ⟨⟨s, d, h1, h2⟩, h3, h4, h5⟩ hdf
  have HDf := jhidv hdf
  have HJ : Hid (Jo W (w.heap.size + 3) 26 .u64 (.slice s n d) n q) := h2
  have HB : Hid (Below w.heap.size w W) := h4
  have c0 := h1.cell 0 _ rfl
  clear hdf h1 h2 h3 h4
  go_wp2
  have hB9 := HB.out.grown (grownBy_putObj' W D (.deferred none)) HB.out.size (fun g e => by cases e; omega)
  have hJ9 := HJ.out.kept (grownBy_putObj' W D (.deferred none)) (qhg HJ.out (by omega))
  refine ⟨by simp, .inl ⟨_, _, rfl, run_takeDeferred HDf.out, ?_⟩⟩
  refine ⟨.slice s n d, by simp [results, Tryz.results131, go_sem], ?_⟩
  exact ⟨s, d, rfl, hJ9.mono (by omega), hB9⟩
theorem qm7 (w : World) (a : Option Addr) (n k bv : Nat) (q : Nat → Nat) (hn : n ≤ 17592186044416) (hv : w.cell? ⟨bv, 0, none⟩ = some (.slice a n k)) (hj : Jl w a .u64 n (fun i => (q i : Int))) :
  Calls Tryz.prog 118 #[.func (.func 120) #[] #[.pointer (some ⟨bv, 0, none⟩)]] w fun e w' => ∃ s d, e = .returned (.slice s n d) ∧ Jo w' w.heap.size 26 .u64 (.slice s n d) n q ∧ Below w.heap.size w w' := by
 have HC : Hid (∃ P : Ending → World → Prop, P = (fun e w' => ∃ s d, e = .returned (.slice s n d) ∧ Jo w' w.heap.size 26 .u64 (.slice s n d) n q ∧ Below w.heap.size w w')) := ⟨_, rfl⟩
 have HA := jhidv (appseq16 w a n k bv q hn hv hj)
 clear hv hj HC
 go_enter Tryz.func118, Tryz.ntmps118
 go_wp2_with (go_at_call 131; refine HA.out.mono ?_; rintro e w1 ⟨s, d, rfl, ho, hb⟩; have HO : Hid (Jo w1 w.heap.size 26 .u64 (.slice s n d) n q) := ho; have HB : Hid (Below w.heap.size w w1) := hb; clear ho hb)
 go_ret
 exact ⟨s, d, rfl, HO.out, HB.out⟩
open Go.RowKit
/-- A group hangs together: it has only numbers of rows, each a combination of the others. -/
def HangP (F : Nat → Nat) (r c s : Nat) : Prop := s < 2 ^ r ∧ ∀ i, i < r → bt s i = 1 → SS (m2 F r c) r (rem s i) (m2 F r c i)
theorem qjv (w : World) (kr c N d j : Nat) (a : Option Addr) (H : Nat → Nat) (ha : Mt w a N d H) (R : Rt kr c N) (hj : j < c) (b : Bool) (hb : b = true ↔ ∀ u, u < kr → H (u * c + j) = 0) :
  Calls Tryz.prog 122 #[mv kr c a N d, .int .i64 (j : Int)] w fun e w' => e = .returned (.bool b) ∧ Below w.heap.size w w' := by
 have HR : Hid (Rt kr c N) := R
 have hN := R.le
 have hkr := R.r64
 have hc64 := R.c64
 obtain ⟨wb, HW⟩ : ∃ wb, Hid (w.alloc (.cells #[.int .i64 (kr : Int), .int .i64 (c : Int), .slice a N d] 114) = wb) := ⟨_, rfl⟩
 have HB0 : Hid (Below w.heap.size w wb) := by rw [← HW.out]; exact qa1 _ _
 have HV : Hid (Vq wb w.heap.size 114 #[.int .i64 (kr : Int), .int .i64 (c : Int), .slice a N d]) := by rw [← HW.out]; exact Vq.new w _ _
 have HM : Hid (Mt wb a N d H) := ha.later HB0.out
 have HBb : Hid (b = true ↔ ∀ u, u < kr → H (u * c + j) = 0) := hb
 clear ha R hb
 go_enter Tryz.func122, Tryz.ntmps122
 go_wp2
 rw [HW.out]
 go_loopw [5, 9] (fun _ vi wr => ∃ u : Nat, u ≤ kr ∧ vi = .int .i64 (u : Int) ∧ (∀ v, v < u → H (v * c + j) = 0) ∧ Below wb.heap.size wb wr) (fun _ vi _ => kr - (intOf vi).toNat)
 case atStart => exact ⟨0, by omega, rfl, fun v hv => by omega, Below.refl _ _⟩
 case round =>
  obtain ⟨u, hu, rfl, h0, hbr⟩ := hrel
  have H0 : Hid (∀ v, v < u → H (v * c + j) = 0) := h0
  have HB : Hid (Below wb.heap.size wb wr) := hbr
  have v0 := (HV.out.later hbr).cell 0 _ rfl
  have v1 := (HV.out.later hbr).cell 1 _ rfl
  have v2 := (HV.out.later hbr).cell 2 _ rfl
  have HMr : Hid (Mt wr a N d H) := HM.out.later hbr
  clear h0 hbr
  by_cases hlt : u < kr
  ·obtain ⟨p, HP⟩ : ∃ p, Hid (u * c = p) := ⟨_, rfl⟩
   have HF : Hid (p + c ≤ N) := by have := HR.out.fit hlt; rw [HP.out] at this; exact this
   obtain ⟨s, HS⟩ : ∃ s, Hid (pc a p c = s) := ⟨_, rfl⟩
   obtain ⟨bb, o, es, hcell⟩ := (HMr.out.piece HF.out).2 j hj
   rw [HS.out] at es
   obtain ⟨y, HY⟩ : ∃ y, Hid (H (p + j) = y) := ⟨_, rfl⟩
   have hc2 : wr.cell? ⟨bb, o + j, none⟩ = some (.int .u8 (y : Int)) := by rw [← HY.out]; exact hcell
   have j0 : (0 : Int) ≤ (j : Int) := Int.natCast_nonneg _
   have j1 : (j : Int) < (c : Int) := by omega
   subst es
   clear hcell
   by_cases hy : y = 0
   ·have gy : ((y : Int) != 0) = false := by simp [hy]
    have HN : Hid (∀ v, v < u + 1 → H (v * c + j) = 0) := fun v hv => by
     by_cases e : v = u
     ·subst e; rw [HP.out, HY.out]; exact hy
     ·exact H0.out v (by omega)
    clear hy
    go_wp2_with (go_at_call 135; refine (row16 _ _ c N d u p a (some ⟨bb, o, none⟩) HMr.out.nil HMr.out.room HF.out hN (by omega) HP HS).mono ?_; rintro e w1 ⟨rfl, hb1⟩; have HB1 : Hid (Below wb.heap.size wb w1) := qa0 HB.out hb1; have hc3 := keepc hb1 hc2; clear hb1)
    exact ⟨⟨u + 1, by omega, by go_num, HN.out, HB1.out⟩, by simp [intOf]; omega⟩
   ·have gy : ((y : Int) != 0) = true := by simp; omega
    obtain rfl : b = false := by
     cases b with
     | false => rfl
     | true => exact absurd (HBb.out.1 rfl u hlt) (by rw [HP.out, HY.out]; exact hy)
    clear hy HBb
    go_wp2_with (go_at_call 135; refine (row16 _ _ c N d u p a (some ⟨bb, o, none⟩) HMr.out.nil HMr.out.room HF.out hN (by omega) HP HS).mono ?_; rintro e w1 ⟨rfl, hb1⟩; have HB1 : Hid (Below wb.heap.size wb w1) := qa0 HB.out hb1; have hc3 := keepc hb1 hc2; clear hb1)
    go_ret
    exact ⟨rfl, qa0 HB0.out HB1.out⟩
  ·obtain rfl : u = kr := by omega
   obtain rfl : b = true := HBb.out.2 H0.out
   clear HBb
   go_wp2
   go_ret
   exact ⟨rfl, qa0 HB0.out HB.out⟩
theorem hang_in {F G H p : Nat → Nat} {r c n s kr top : Nat} (hF : ∀ i, i < n → F i < 256) (R : Rt r c n) (hs : s < 2 ^ r)
  (hR : Rdf (m2 G c (cn s r)) c top p) (hS : SpEq (m2 G c (cn s r)) c (m2 (trf (pkf F (lf s r) c) (cn s r) c) c (cn s r)) c) (hc : ∀ i, i < top → p i < cn s r) (ek : kr = cnt (fre p top) (cn s r))
  (eH : ∀ u l, u < kr → l < cn s r → H (u * cn s r + l) = kv (m2 G c (cn s r)) p top (nth (fre p top) (cn s r) u) l) :
  HangP F r c s ↔ ∀ t, t < cn s r → ¬ ∀ u, u < kr → H (u * cn s r + t) = 0 := by
 constructor
 ·rintro ⟨_, h⟩ t ht h0
  obtain ⟨a1, a2, a3⟩ := qal ht
  exact (qiw hF R hs a1 a2 hR hS hc ek eH).1 (by rw [a3]; exact h0) (h _ a1 a2)
 ·intro h
  refine ⟨hs, fun i hi hb => ?_⟩
  have ht : cn s i < cn s r := by
   have := qbq (s := s) (show i + 1 ≤ r by omega)
   rw [qai, hb] at this
   omega
  by_cases hss : SS (m2 F r c) r (rem s i) (m2 F r c i)
  ·exact hss
  ·exact absurd ((qiw hF R hs hi hb hR hS hc ek eH).2 hss) (h _ ht)
open Go.RowKit
theorem qmi {s r : Nat} (hr : r ≤ 64) (hs : s < 18446744073709551616) (h : ¬ s < 2 ^ r) : cn s r < cn s 64 ∧ r ≤ lf s 64 (cn s r) ∧ ∀ i, i < cn s r → lf s 64 i < r := by
 have h1 : cn s r < cn s 64 := by
  have hm := qbq (s := s) hr
  rcases Nat.lt_or_ge (cn s r) (cn s 64) with x | x
  ·exact x
  ·exfalso
   have e := mod_same hr (show cn s r = cn s 64 by omega)
   rw [Nat.mod_eq_of_lt (show s < 2 ^ 64 from hs)] at e
   exact h (by rw [← e]; exact Nat.mod_lt _ (Nat.pow_pos (by omega)))
 obtain ⟨a1, a2, a3⟩ := qal h1
 refine ⟨h1, ?_, fun i hi => ?_⟩
 ·rcases Nat.lt_or_ge (lf s 64 (cn s r)) r with x | x
  ·exfalso
   have := qbq (s := s) (show lf s 64 (cn s r) + 1 ≤ r by omega)
   rw [qai, a2, a3] at this
   omega
  ·exact x
 ·obtain ⟨b1, b2, b3⟩ := qal (s := s) (i := 64) (t := i) (by omega)
  rcases Nat.lt_or_ge (lf s 64 i) r with x | x
  ·exact x
  ·have := qbq (s := s) x
   omega
theorem bool_of (p : Prop) : ∃ b : Bool, b = true ↔ p := by
 by_cases h : p
 ·exact ⟨true, ⟨fun _ => h, fun _ => rfl⟩⟩
 ·exact ⟨false, ⟨(fun x => by cases x), fun x => absurd x h⟩⟩
theorem hang_out (w : World) (r c n k s : Nat) (a : Option Addr) (R : Rt r c n) (hs : s < 18446744073709551616) (h : ¬ s < 2 ^ r) :
  Calls Tryz.prog 104 #[mv r c a n k, .int .u64 (s : Int)] w fun e w' => e = .returned (.bool false) ∧ Below w.heap.size w w' := by
 obtain ⟨wb, HW⟩ : ∃ wb, Hid (w.alloc (.cells #[.int .i64 (r : Int), .int .i64 (c : Int), .slice a n k] 114) = wb) := ⟨_, rfl⟩
 have HB0 : Hid (Below w.heap.size w wb) := by rw [← HW.out]; exact qa1 _ _
 have HV : Hid (Vq wb w.heap.size 114 #[.int .i64 (r : Int), .int .i64 (c : Int), .slice a n k]) := by rw [← HW.out]; exact Vq.new w _ _
 obtain ⟨h1, h2, h3⟩ := qmi R.r64 hs h
 obtain ⟨m, HM⟩ : ∃ m, Hid (cn s 64 = m) := ⟨_, rfl⟩
 obtain ⟨L, HL⟩ : ∃ L : Nat → Nat, Hid (lf s 64 = L) := ⟨_, rfl⟩
 have hm64 : m ≤ 64 := by rw [← HM.out]; exact qb0 64 s
 have HLi : Hid (∀ w, Calls Tryz.prog 28 #[.int .u64 (s : Int)] w fun e w' => ∃ v, e = .returned v ∧ Jo w' w.heap.size 3 .i64 v m L ∧ Below w.heap.size w w') := fun w => by rw [← HM.out, ← HL.out]; exact qg5 s w hs
 obtain ⟨t, HT⟩ : ∃ t, Hid (cn s r = t) := ⟨_, rfl⟩
 rw [HM.out, HT.out] at h1
 rw [HL.out, HT.out] at h2 h3
 have HPk : Hid (∀ (w : World) (b : Option Addr) (d : Nat), Jl w b .i64 m (fun i => (L i : Int)) → Calls Tryz.prog 29 #[mv r c a n k, .slice b m d] w fun e w' => e = .returned (.tuple #[mv 0 0 none 0 0, .int .i64 2]) ∧ Below w.heap.size w w') := fun w b d hj => qlt w r c n k m d t a b (fun i => (L i : Int)) R (by omega) hj h1 (fun i hi => by have := h3 i hi; omega) (by omega)
 clear R h h1 h2 h3 HM HL HT
 go_enter Tryz.func104, Tryz.ntmps104
 go_wp2_with (first
  | (go_at_call 28; rw [HW.out]; refine (HLi.out _).mono ?_; rintro e w1 ⟨v, rfl, ho1, hb1⟩; obtain ⟨sl, d, rfl, hnil⟩ := ho1.form; have HJ1 : Hid (Jl w1 sl .i64 m (fun i => (L i : Int))) := ho1.jl; have HB1 : Hid (Below w.heap.size w w1) := qa0 HB0.out hb1; have v0 := (HV.out.later hb1).cell 0 _ rfl; have v1 := (HV.out.later hb1).cell 1 _ rfl; have v2 := (HV.out.later hb1).cell 2 _ rfl; clear ho1 hb1 hnil)
  | (go_at_call 29; refine (HPk.out _ _ _ HJ1.out).mono ?_; rintro e w2 ⟨rfl, hb2⟩; have HB2 : Hid (Below w.heap.size w w2) := qa0 HB1.out hb2; clear hb2))
 go_ret
 exact ⟨rfl, qa0 HB2.out (qa1 _ _)⟩
theorem hang_yes (w : World) (r c n k s : Nat) (a : Option Addr) (F : Nat → Nat) (ha : Mt w a n k F) (R : Rt r c n) (hs : s < 18446744073709551616) (h : s < 2 ^ r) (b : Bool) (hb : b = true ↔ HangP F r c s) :
  Calls Tryz.prog 104 #[mv r c a n k, .int .u64 (s : Int)] w fun e w' => e = .returned (.bool b) ∧ Below w.heap.size w w' := by
 obtain ⟨wb, HW⟩ : ∃ wb, Hid (w.alloc (.cells #[.int .i64 (r : Int), .int .i64 (c : Int), .slice a n k] 114) = wb) := ⟨_, rfl⟩
 have HB0 : Hid (Below w.heap.size w wb) := by rw [← HW.out]; exact qa1 _ _
 have HV : Hid (Vq wb w.heap.size 114 #[.int .i64 (r : Int), .int .i64 (c : Int), .slice a n k]) := by rw [← HW.out]; exact Vq.new w _ _
 have HA : Hid (Mt w a n k F) := ha
 have hr64 := R.r64
 have hc64 := R.c64
 have hlh := qe7 (s := s) (i := r) (64 - r) h
 rw [show r + (64 - r) = 64 by omega] at hlh
 obtain ⟨m, HM⟩ : ∃ m, Hid (cn s r = m) := ⟨_, rfl⟩
 obtain ⟨L, HL⟩ : ∃ L : Nat → Nat, Hid (lf s r = L) := ⟨_, rfl⟩
 have hm64 : m ≤ 64 := by rw [← HM.out]; exact Nat.le_trans (qb0 r s) hr64
 have HLi : Hid (∀ w, Calls Tryz.prog 28 #[.int .u64 (s : Int)] w fun e w' => ∃ v, e = .returned v ∧ Jo w' w.heap.size 3 .i64 v m L ∧ Below w.heap.size w w') := fun w => by
  have := qg5 s w hs
  rw [hlh.1, HM.out, show lf s 64 = L from funext fun t => by rw [hlh.2 t, HL.out]] at this
  exact this
 obtain ⟨N, HN⟩ : ∃ N, Hid (m * c = N) := ⟨_, rfl⟩
 have HRP : Hid (Rt m c N) := ⟨hm64, hc64, HN.out⟩
 have HPk : Hid (∀ (w : World) (b : Option Addr) (d : Nat), Mt w a n k F → Jl w b .i64 m (fun i => (L i : Int)) → Calls Tryz.prog 29 #[mv r c a n k, .slice b m d] w fun e w' => ∃ g, e = .returned (.tuple #[mv m c (some ⟨g, 0, none⟩) N N, .int .i64 0]) ∧ RowAt w' g 5 N (pkf F L c) ∧ w.heap.size ≤ g ∧ Below w.heap.size w w') := fun w b d h1 hj => qg6 w r c n k m d N a b F L h1 R hj (fun i hi => by rw [← HL.out]; exact (qal (by rw [HM.out]; exact hi)).1) hm64 HN
 have HPl : Hid (∀ q, q < N → pkf F L c q < 256) := fun q hq => by
  rw [← HN.out] at hq
  exact qfa ha.sl.1 R (fun i hi => by rw [← HL.out]; exact (qal (by rw [HM.out]; exact hi)).1) q hq
 obtain ⟨PF, HPF⟩ : ∃ PF : Nat → Nat, Hid (pkf F L c = PF) := ⟨_, rfl⟩
 rw [HPF.out] at HPk HPl
 obtain ⟨TF, HTF⟩ : ∃ TF : Nat → Nat, Hid (trf PF m c = TF) := ⟨_, rfl⟩
 have HTr : Hid (∀ (w : World) (g : Nat), RowAt w g 5 N PF → Calls Tryz.prog 57 #[mv m c (some ⟨g, 0, none⟩) N N] w fun e w' => ∃ g, e = .returned (.tuple #[mv c m (some ⟨g, 0, none⟩) N N, .int .i64 0]) ∧ RowAt w' g 5 N TF ∧ w.heap.size ≤ g ∧ Below w.heap.size w w') := fun w g h => by rw [← HTF.out]; exact qd9 w m c N N _ PF (h.mt HPl.out) HRP.out
 have HTl : Hid (∀ q, q < N → TF q < 256) := by rw [← HTF.out]; exact trf_all HPl.out HRP.out
 have HHa : Hid (∀ (G H p : Nat → Nat) (kr top : Nat), Rdf (m2 G c m) c top p → SpEq (m2 G c m) c (m2 TF c m) c → (∀ i, i < top → p i < m) → kr = cnt (fre p top) m → (∀ u l, u < kr → l < m → H (u * m + l) = kv (m2 G c m) p top (nth (fre p top) m u) l) → (b = true ↔ ∀ t, t < m → ¬ ∀ u, u < kr → H (u * m + t) = 0)) := fun G H p kr top h1 h2 h3 h4 h5 => by
  rw [hb]
  rw [← HTF.out, ← HPF.out, ← HL.out, ← HM.out] at *
  exact hang_in ha.sl.1 R h h1 h2 h3 h4 h5
 clear ha R h hlh HM HL HPF HTF hb
 go_enter Tryz.func104, Tryz.ntmps104
 go_wp2_with (first
  | (go_at_call 28; rw [HW.out]; refine (HLi.out _).mono ?_; rintro e w1 ⟨v, rfl, ho1, hb1⟩; obtain ⟨sl, d, rfl, hnil⟩ := ho1.form; have HJ1 : Hid (Jl w1 sl .i64 m (fun i => (L i : Int))) := ho1.jl; have HB1 : Hid (Below w.heap.size w w1) := qa0 HB0.out hb1; have v0 := (HV.out.later hb1).cell 0 _ rfl; have v1 := (HV.out.later hb1).cell 1 _ rfl; have v2 := (HV.out.later hb1).cell 2 _ rfl; clear ho1 hb1 hnil)
  | (go_at_call 29; refine (HPk.out _ _ _ (HA.out.later HB1.out) HJ1.out).mono ?_; rintro e w2 ⟨g2, rfl, hr2, hg2, hb2⟩; have HB2 : Hid (Below w.heap.size w (w2.alloc (.cells #[.int .i64 (m : Int), .int .i64 (c : Int), .slice (some ⟨g2, 0, none⟩) N N] 24))) := qa0 (qa0 HB1.out hb2) (qa1 _ _); have HR2 : Hid (RowAt (w2.alloc (.cells #[.int .i64 (m : Int), .int .i64 (c : Int), .slice (some ⟨g2, 0, none⟩) N N] 24)) g2 5 N PF) := hr2.later (qa1 _ _); have HV2 : Hid (Vq (w2.alloc (.cells #[.int .i64 (m : Int), .int .i64 (c : Int), .slice (some ⟨g2, 0, none⟩) N N] 24)) w2.heap.size 24 #[.int .i64 (m : Int), .int .i64 (c : Int), .slice (some ⟨g2, 0, none⟩) N N]) := Vq.new w2 _ _; have p0 := HV2.out.cell 0 _ rfl; have p1 := HV2.out.cell 1 _ rfl; have p2 := HV2.out.cell 2 _ rfl; clear hr2 hg2 hb2)
  | (go_at_call 57; refine (HTr.out _ _ HR2.out).mono ?_; rintro e w3 ⟨g3, rfl, hr3, hg3, hb3⟩; have HB3 : Hid (Below w.heap.size w (w3.alloc (.cells #[.int .i64 (c : Int), .int .i64 (m : Int), .slice (some ⟨g3, 0, none⟩) N N] 24))) := qa0 (qa0 HB2.out hb3) (qa1 _ _); have HM3 : Hid (Mt (w3.alloc (.cells #[.int .i64 (c : Int), .int .i64 (m : Int), .slice (some ⟨g3, 0, none⟩) N N] 24)) (some ⟨g3, 0, none⟩) N N TF) := (hr3.later (qa1 _ _)).mt HTl.out; have HV3 : Hid (Vq (w3.alloc (.cells #[.int .i64 (c : Int), .int .i64 (m : Int), .slice (some ⟨g3, 0, none⟩) N N] 24)) w3.heap.size 24 #[.int .i64 (c : Int), .int .i64 (m : Int), .slice (some ⟨g3, 0, none⟩) N N]) := Vq.new w3 _ _; have q0 := HV3.out.cell 0 _ rfl; have q1 := HV3.out.cell 1 _ rfl; have q2 := HV3.out.cell 2 _ rfl; clear hr3 hg3 hb3)
  | (go_at_call 121; refine (gker_ok _ c m N N _ TF HM3.out HRP.out.turn).mono ?_; rintro e w4 ⟨s4, d4, kr, top, p, G, H, rfl, hm4, hd4, hsp4, hp4, hk4, hH4, hb4⟩; obtain ⟨K4, HK4⟩ : ∃ K4, Hid (kr * m = K4) := ⟨_, rfl⟩; rw [HK4.out] at hm4 ⊢; have HB4 : Hid (Below w.heap.size w ((w4.alloc (.cells #[.int .i64 (kr : Int), .int .i64 (m : Int), .slice s4 K4 d4] 24)).alloc (.cells #[.int .i64 (kr : Int), .int .i64 (m : Int), .slice s4 K4 d4] 114))) := qa0 (qa0 (qa0 HB3.out hb4) (qa1 _ _)) (qa1 _ _); have HM4 : Hid (Mt ((w4.alloc (.cells #[.int .i64 (kr : Int), .int .i64 (m : Int), .slice s4 K4 d4] 24)).alloc (.cells #[.int .i64 (kr : Int), .int .i64 (m : Int), .slice s4 K4 d4] 114)) s4 K4 d4 H) := (hm4.later (qa1 _ _)).later (qa1 _ _); have HV4 : Hid (Vq (w4.alloc (.cells #[.int .i64 (kr : Int), .int .i64 (m : Int), .slice s4 K4 d4] 24)) w4.heap.size 24 #[.int .i64 (kr : Int), .int .i64 (m : Int), .slice s4 K4 d4]) := Vq.new w4 _ _; have HV5 : Hid (Vq ((w4.alloc (.cells #[.int .i64 (kr : Int), .int .i64 (m : Int), .slice s4 K4 d4] 24)).alloc (.cells #[.int .i64 (kr : Int), .int .i64 (m : Int), .slice s4 K4 d4] 114)) (w4.heap.size + 1) 114 #[.int .i64 (kr : Int), .int .i64 (m : Int), .slice s4 K4 d4]) := Vq.new1 _ _ _ _; have HHb := jhidv (HHa.out G H p kr top hd4 hsp4 hp4 hk4 hH4); have hkm : kr ≤ m := (by rw [hk4]; have := qft (fre p top) m; omega); have r0 := HV4.out.cell 0 _ rfl; have r1 := HV4.out.cell 1 _ rfl; have r2 := HV4.out.cell 2 _ rfl; clear hm4 hd4 hsp4 hp4 hk4 hH4 hb4))
 have HRK : Hid (Rt kr m K4) := ⟨by omega, hm64, HK4.out⟩
 obtain ⟨wl, HWl⟩ : ∃ wl, Hid (((w4.alloc (.cells #[.int .i64 (kr : Int), .int .i64 (m : Int), .slice s4 K4 d4] 24)).alloc (.cells #[.int .i64 (kr : Int), .int .i64 (m : Int), .slice s4 K4 d4] 114)) = wl) := ⟨_, rfl⟩
 rw [HWl.out] at HB4 HM4 HV5
 rw [HWl.out]
 go_loopw [13, 39] (fun _ vi wr => ∃ j : Nat, j ≤ m ∧ vi = .int .i64 (j : Int) ∧ (∀ t, t < j → ¬ ∀ u, u < kr → H (u * m + t) = 0) ∧ Below wl.heap.size wl wr) (fun _ vi _ => m - (intOf vi).toNat)
 case atStart => exact ⟨0, by omega, rfl, fun t ht => by omega, Below.refl _ _⟩
 case round =>
  obtain ⟨j, hj, rfl, h0, hbr⟩ := hrel
  have H0 : Hid (∀ t, t < j → ¬ ∀ u, u < kr → H (u * m + t) = 0) := h0
  have HB : Hid (Below wl.heap.size wl wr) := hbr
  have z0 := (HV5.out.later hbr).cell 0 _ rfl
  have z1 := (HV5.out.later hbr).cell 1 _ rfl
  have z2 := (HV5.out.later hbr).cell 2 _ rfl
  have HMr : Hid (Mt wr s4 K4 d4 H) := HM4.out.later hbr
  clear h0 hbr
  by_cases hlt : j < m
  ·obtain ⟨bj, hbj⟩ := bool_of (∀ u, u < kr → H (u * m + j) = 0)
   have HBj : Hid (bj = true ↔ ∀ u, u < kr → H (u * m + j) = 0) := hbj
   have HC : Hid (Calls Tryz.prog 122 #[mv kr m s4 K4 d4, .int .i64 (j : Int)] wr fun e w' => e = .returned (.bool bj) ∧ Below wr.heap.size wr w') := qjv wr kr m K4 d4 j s4 H HMr.out HRK.out hlt bj hbj
   clear hbj
   cases bj with
   | true =>
    obtain rfl : b = false := by
     cases b with
     | false => rfl
     | true => exact absurd (HBj.out.1 rfl) (HHb.out.1 rfl j hlt)
    clear HBj HHb HHa
    go_wp2_with (go_at_call 122; refine HC.out.mono ?_; rintro e w6 ⟨rfl, hb6⟩; have HB6 : Hid (Below wl.heap.size wl w6) := qa0 HB.out hb6; clear hb6)
    go_ret
    exact ⟨rfl, qa0 HB4.out HB6.out⟩
   | false =>
    have HN2 : Hid (∀ t, t < j + 1 → ¬ ∀ u, u < kr → H (u * m + t) = 0) := fun t ht hz => by
     by_cases e : t = j
     ·subst e; have := HBj.out.2 hz; cases this
     ·exact H0.out t (by omega) hz
    clear HBj
    go_wp2_with (go_at_call 122; refine HC.out.mono ?_; rintro e w6 ⟨rfl, hb6⟩; have HB6 : Hid (Below wl.heap.size wl w6) := qa0 HB.out hb6; clear hb6)
    exact ⟨⟨j + 1, by omega, by go_num, HN2.out, HB6.out⟩, by simp [intOf]; omega⟩
  ·obtain rfl : j = m := by omega
   obtain rfl : b = true := HHb.out.2 H0.out
   clear HHb HHa
   go_wp2
   go_ret
   exact ⟨rfl, qa0 HB4.out HB.out⟩
theorem hang16 (w : World) (r c n k s : Nat) (a : Option Addr) (F : Nat → Nat) (ha : Mt w a n k F) (R : Rt r c n) (hs : s < 18446744073709551616) (b : Bool) (hb : b = true ↔ HangP F r c s) :
  Calls Tryz.prog 104 #[mv r c a n k, .int .u64 (s : Int)] w fun e w' => e = .returned (.bool b) ∧ Below w.heap.size w w' := by
 by_cases h : s < 2 ^ r
 ·exact hang_yes w r c n k s a F ha R hs h b hb
 ·obtain rfl : b = false := by
   cases b with
   | false => rfl
   | true => exact absurd (hb.1 rfl).1 h
  exact hang_out w r c n k s a R hs h
open Go.RowKit
theorem qjw (w : World) (a : Option Addr) (n k : Nat) (h : n < 2) : Calls Tryz.prog 101 #[.slice a n k] w fun e w' => e = .returned (.slice a n k) ∧ w = w' := by
 have h2 : (n : Int) < 2 := by omega
 go_enter Tryz.func101, Tryz.ntmps101
 go_wp2
 go_ret
 exact ⟨rfl, rfl⟩
/-- What Sorted answers. -/
def SdA (w : World) (n : Nat) (q : Nat → Nat) (e : Ending) (w' : World) : Prop := ∃ s d f, e = .returned (.slice s n d) ∧ Jo w' w.heap.size 26 .u64 (.slice s n d) n f ∧ Hs n q f ∧ Below w.heap.size w w'
theorem sorted16 (w : World) (a : Option Addr) (n k bv : Nat) (q : Nat → Nat) (hn : n ≤ 17592186044416) (hv : w.cell? ⟨bv, 0, none⟩ = some (.slice a n k)) (hj : Jl w a .u64 n (fun i => (q i : Int))) :
  Calls Tryz.prog 102 #[.func (.func 120) #[] #[.pointer (some ⟨bv, 0, none⟩)]] w fun e w' => SdA w n q e w' := by
 have HC := jhidv (qm7 w a n k bv q hn hv hj)
 clear hv hj
 go_enter Tryz.func102, Tryz.ntmps102
 go_wp2_with (first
  | (go_at_call 118; refine HC.out.mono ?_; rintro e w1 ⟨s, d, rfl, ho, hb⟩; have HO : Hid (Jo w1 w.heap.size 26 .u64 (.slice s n d) n q) := ho; have HB : Hid (Below w.heap.size w w1) := hb; clear ho hb)
  | (go_at_call 119; refine (sort16 _ w.heap.size n d s q hn HO.out).mono ?_; rintro e w2 ⟨rfl, f, hf1, hf2, hf3⟩; have HF : Hid (Jo w2 w.heap.size 26 .u64 (.slice s n d) n f ∧ Hs n q f ∧ w1.grownBy w2 (Value.slice s n d).ownBlock) := ⟨hf1, hf2, hf3⟩; clear hf1 hf2 hf3))
 go_ret
 exact ⟨s, d, f, rfl, HF.out.1, HF.out.2.1, HB.out.trans (jbelow HF.out.2.2 HB.out.size (qag HO.out))⟩
/-- What Compact of a list of the call's own answers. -/
def CcA (w : World) (B n : Nat) (q : Nat → Nat) (e : Ending) (w' : World) : Prop := ∃ (s : Option Addr) (m d : Nat) (f : Nat → Nat), e = .returned (.slice s m d) ∧ m ≤ n ∧ Jl w' s .u64 m (fun i => (f i : Int)) ∧ (∀ v, (∃ i, i < n ∧ q i = v) ↔ ∃ i, i < m ∧ f i = v) ∧ Below B w w'
theorem qjx (w : World) (B n d : Nat) (s : Option Addr) (q : Nat → Nat) (hn : n ≤ 17592186044416) (hB : B ≤ w.heap.size) (h : Jo w B 26 .u64 (.slice s n d) n q) :
  Calls Tryz.prog 101 #[.slice s n d] w fun e w' => CcA w B n q e w' := by
 by_cases h2 : n < 2
 ·refine (qjw w s n d h2).mono ?_
  rintro e w' ⟨rfl, rfl⟩
  exact ⟨s, n, d, q, rfl, Nat.le_refl _, h.jl, fun _ => Iff.rfl, Below.refl _ _⟩
 ·rcases h.2 with ⟨e, h0⟩ | ⟨g, cap, cur, e, hBg, hg, hc, hm, hs, ht⟩
  ·omega
  ·cases e
   refine (qkk w g 0 n cur.size d q (by omega) hn hc (fun t ht => by rw [Nat.zero_add]; exact h.cell t ht) ⟨cur, hg, rfl⟩).mono ?_
   rintro e w' ⟨m, f, rfl, hm2, hce, hsm, hgr⟩
   exact ⟨_, m, d, f, rfl, hm2, fun i hi => ⟨g, 0, rfl, hce i hi⟩, hsm, jbelow hgr hB (fun k hk => by cases hk; exact hBg)⟩
theorem qmj (w : World) (r c n k d m : Nat) (a b : Option Addr) (F q : Nat → Nat) (ha : Mt w a n k F) (hb : Jl w b .u64 m (fun i => (q i : Int))) (R : Rt r c n) (hm : m ≤ 17592186044416) (hq : ∀ i, i < m → q i < 18446744073709551616) (v : Bool) (hv : v = true ↔ ∀ i, i < m → HangP F r c (q i)) :
  Calls Tryz.prog 82 #[mv r c a n k, .slice b m d] w fun e w' => e = .returned (.bool v) ∧ Below w.heap.size w w' := by
 obtain ⟨wb, HW⟩ : ∃ wb, Hid (w.alloc (.cells #[.int .i64 (r : Int), .int .i64 (c : Int), .slice a n k] 114) = wb) := ⟨_, rfl⟩
 have HB0 : Hid (Below w.heap.size w wb) := by rw [← HW.out]; exact qa1 _ _
 have HV : Hid (Vq wb w.heap.size 114 #[.int .i64 (r : Int), .int .i64 (c : Int), .slice a n k]) := by rw [← HW.out]; exact Vq.new w _ _
 have HA : Hid (Mt w a n k F) := ha
 have HJ : Hid (Jl wb b .u64 m (fun i => (q i : Int))) := hb.later HB0.out
 have HHg : Hid (∀ w s t, Mt w a n k F → s < 18446744073709551616 → (t = true ↔ HangP F r c s) → Calls Tryz.prog 104 #[mv r c a n k, .int .u64 (s : Int)] w fun e w' => e = .returned (.bool t) ∧ Below w.heap.size w w') := fun w s t hw hs ht => hang16 w r c n k s a F hw R hs t ht
 have HQ : Hid (∀ i, i < m → q i < 18446744073709551616) := hq
 have HVd : Hid (v = true ↔ ∀ i, i < m → HangP F r c (q i)) := hv
 clear ha hb R hq hv
 go_enter Tryz.func82, Tryz.ntmps82
 go_wp2_with (first
  | (go_at_call 103; rw [HW.out]; refine (values16 _ _ _ _).mono ?_; rintro e w1 ⟨rfl, hw1⟩; have HB1 : Hid (Below wb.heap.size wb w1) := (by rw [← hw1]; exact qa1 _ _); have hcv : w1.cell? ⟨wb.heap.size, 0, none⟩ = some (.slice b m d) := (by rw [← hw1]; exact (Vq.new wb _ _).cell 0 _ rfl); clear hw1)
  | (go_at_call 102; refine (sorted16 _ b m d wb.heap.size q hm hcv (HJ.out.later HB1.out)).mono ?_; rintro e w2 ⟨s2, d2, f2, rfl, ho2, hs2, hb2⟩; have HO2 : Hid (Jo w2 w1.heap.size 26 .u64 (.slice s2 m d2) m f2) := ho2; have HS2 : Hid (Hs m q f2) := hs2; have HB2 : Hid (Below w1.heap.size w1 w2) := hb2; clear ho2 hb2 hcv hs2)
  | (go_at_call 101; refine (qjx _ w1.heap.size m d2 s2 f2 hm HB2.out.size HO2.out).mono ?_; rintro e w3 ⟨s3, m3, d3, f3, rfl, hm3, hj3, hs3, hb3⟩; have HJ3 : Hid (Jl w3 s3 .u64 m3 (fun i => (f3 i : Int))) := hj3; have HS3 : Hid (∀ v, (∃ i, i < m ∧ q i = v) ↔ ∃ i, i < m3 ∧ f3 i = v) := (fun v => (HS2.out v).trans (hs3 v)); have HB3 : Hid (Below wb.heap.size wb w3) := (jtwo HB1.out (HB2.out.trans hb3)); clear hj3 hs3 hb3))
 clear HO2 HS2 HB2 HB1
 go_loopg [7, 14] m3 (fun gh _ vi wr => ∃ i : Nat, vi = .int .i64 (i : Int) ∧ i ≤ m3 ∧ m3 - i ≤ gh ∧ (∀ j, j < i → HangP F r c (f3 j)) ∧ Below w3.heap.size w3 wr)
 case atStart => exact ⟨0, rfl, by omega, by omega, fun j hj => by omega, Below.refl _ _⟩
 case round =>
  obtain ⟨i, rfl, hi, hgh, hall, hbr⟩ := hrel
  have HL : Hid (∀ j, j < i → HangP F r c (f3 j)) := hall
  have HB : Hid (Below w3.heap.size w3 wr) := hbr
  have v0 := ((HV.out.later HB3.out).later hbr).cell 0 _ rfl
  have v1 := ((HV.out.later HB3.out).later hbr).cell 1 _ rfl
  have v2 := ((HV.out.later HB3.out).later hbr).cell 2 _ rfl
  have HMr : Hid (Mt wr a n k F) := HA.out.later (qa0 (qa0 HB0.out HB3.out) hbr)
  by_cases hlt : i < m3
  ·have hlt2 : (i : Int) < (m3 : Int) := by omega
   obtain ⟨x, o, ea, hc⟩ := (HJ3.out.later hbr) i hlt
   obtain ⟨y, HY⟩ : ∃ y, Hid (f3 i = y) := ⟨_, rfl⟩
   have hc2 : wr.cell? ⟨x, o + i, none⟩ = some (.int .u64 (y : Int)) := by rw [← HY.out]; exact hc
   have hy : y < 18446744073709551616 := by
    obtain ⟨j, hj, ej⟩ := (HS3.out y).2 ⟨i, hlt, HY.out⟩
    rw [← ej]; exact HQ.out j hj
   subst ea
   clear hc hall hbr
   by_cases hh : HangP F r c y
   ·have HT : Hid (HangP F r c y) := hh
    clear hh
    go_wp2_with (go_at_call 104; refine (HHg.out _ y true HMr.out hy ⟨fun _ => HT.out, fun _ => rfl⟩).mono ?_; rintro e w4 ⟨rfl, hb4⟩; have HB4 : Hid (Below w3.heap.size w3 w4) := qa0 HB.out hb4; clear hb4)
    go_roundg (gk - 1)
    case measure => omega
    case rel => exact ⟨i + 1, by go_num, by omega, by omega, fun j hj => (by
     by_cases e : j = i
     ·subst e; rw [HY.out]; exact HT.out
     ·exact HL.out j (by omega)), HB4.out⟩
   ·have HT : Hid (¬ HangP F r c y) := hh
    clear hh
    go_wp2_with (go_at_call 104; refine (HHg.out _ y false HMr.out hy ⟨fun h => (by cases h), fun h => (HT.out h).elim⟩).mono ?_; rintro e w4 ⟨rfl, hb4⟩; have HB4 : Hid (Below w3.heap.size w3 w4) := qa0 HB.out hb4; clear hb4)
    go_ret
    refine ⟨?_, qa0 (qa0 HB0.out HB3.out) HB4.out⟩
    cases v with
    | false => rfl
    | true =>
     obtain ⟨j, hj, ej⟩ := (HS3.out y).2 ⟨i, hlt, HY.out⟩
     exact (HT.out (ej ▸ HVd.out.1 rfl j hj)).elim
  ·have hlt2 : ¬ (i : Int) < (m3 : Int) := by omega
   clear hall hbr
   go_wp2
   go_ret
   refine ⟨?_, qa0 (qa0 HB0.out HB3.out) HB.out⟩
   have : v = true := HVd.out.2 (fun j hj => by
    obtain ⟨t, ht, et⟩ := (HS3.out (q j)).1 ⟨j, hj, rfl⟩
    rw [← et]; exact HL.out t (by omega))
   rw [this]; rfl
end Go.Proofs.YtblagbghpfopcaaGreat
