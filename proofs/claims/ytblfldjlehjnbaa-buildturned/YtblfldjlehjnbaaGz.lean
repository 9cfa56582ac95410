/-
  Contracts of the program's build: the choices, told one after another.
  The walk through a loop over the choices.
  Contract of the program's build: MDS.
  Contract of the generators' reference: MDS.
  What the law about turned matrices asks: Check and MDS, the program's and the document's, in pairs.
-/
import Derived.Test.YtblfldjlehjnbaaGy
import Derived.RangeFuncNested
import Derived.RangeFuncBound
import Derived.RangeFuncCalls
import Derived.RangeFuncLeaves
import Derived.Shelf.Abstract
import Derived.Shelf.RegionOpen
import Derived.WalkKit
import Derived.OwnWalkIn
import Derived.TacticsInMore
import Derived.LoopNIn
import Derived.LoopIn
namespace Go.Proofs.Ytblfldjlehjnbaa
open Go.RowKit Go.Shelf
attribute [local go_sem] Oper.semAt_some
theorem oi_row {w : World} {B g n : Nat} {f : Nat → Nat} (h : Oi w B (.slice (some ⟨g, 0, none⟩) n n) n f) : IRowAt w g n f := by
  rcases h.2 with ⟨h', _⟩ | ⟨g', cap', cur, h', _, hg, _, _, hs, htake⟩
  · simp at h'
  · simp only [Value.slice.injEq, Option.some.injEq, Addr.mk.injEq, and_true, true_and] at h'
    obtain ⟨rfl, rfl⟩ := h'
    unfold IRowAt
    rw [hg]
    congr 2
    apply Array.toList_inj.mp
    rw [List.take_of_length_le (by simp; omega)] at htake
    rw [htake]
set_option maxRecDepth 20000 in
set_option maxHeartbeats 1000000 in
theorem nums_row (w : World) (f t n : Nat) (HN : Hid (f + n = t)) (ht : t ≤ 1000) :
    Calls Try.prog 55 #[.int .i64 (f : Int), .int .i64 (t : Int)] w fun e w' => ∃ g, e = .returned (.slice (some ⟨g, 0, none⟩) n n) ∧ IRowAt w' g n (fun i => f + i) ∧ w.heap.size ≤ g ∧ Below w.heap.size w w' := by
  obtain ⟨i0, hi0, hz0, hz1, hz2⟩ := info_parts infoI
  have hn := HN.out
  have hml : n ≤ maxLen := by unfold maxLen; omega
  have e0 : IntKind.i64.wrap ((t : Int) - (f : Int)) = (n : Int) := by rw [IntKind.wrap_i64]; omega
  go_enter Try.func55, Try.ntmps55
  go_wp2_with (at_make; refine wpList_make_own _ rfl _ _ 43 rfl w.heap.size 3 i0 (.int .i64 0) 1 Try.underlying43 hi0 hz0 hz1 .i64 .i64 _ n rfl rfl rfl (by rw [hz2]; omega) hml (Nat.le_refl _) ?_; intro w1 hown hgrow; have HO : Hid (Oi w1 w.heap.size (.slice (some ⟨w.heap.size, 0, none⟩) 0 n) 0 (fun i => f + i)) := (by { show World.ownsRow _ _ _ _ _ _ _; simpa [irow] using hown }); have HB : Hid (Below w.heap.size w w1) := grown_none.mp hgrow; clear hown hgrow)
  go_loopw [5, 6] (fun sv sj wr => ∃ j : Nat, sj = .int .i64 ((f + j : Nat) : Int) ∧ sv = .slice (some ⟨w.heap.size, 0, none⟩) j n ∧ j ≤ n ∧ Hid (Oi wr w.heap.size (.slice (some ⟨w.heap.size, 0, none⟩) j n) j (fun i => f + i)) ∧ Hid (Below w.heap.size w wr)) (fun _ sj _ => t - (intOf sj).toNat)
  case atStart => exact ⟨0, rfl, rfl, by omega, HO, HB⟩
  case round =>
    clear HO HB
    obtain ⟨j, rfl, rfl, hjc, HO, HB⟩ := hrel
    obtain ⟨p, HP⟩ : ∃ p, Hid (f + j = p) := ⟨_, rfl⟩
    have hp := HP.out
    rw [hp]
    by_cases hlt : p < t
    · have hj1 : j + 1 ≤ n := by omega
      have hsz : w.heap.size ≤ wr.heap.size := HB.out.size
      go_wp2_with (at_builtin; refine wpList_append_fits _ rfl _ _ 43 rfl w.heap.size 3 i0 1 Try.underlying43 hi0 hz1 w.heap.size j n _ rfl (World.ownsRow.alloc HO.out _) ⟨wr.heap.size, 0, none⟩ 1 1 [.int .i64 (p : Int)] rfl rfl (ione_new _ _ _) (ione_one _) hj1 ?_; intro w3 hown3 hgrow3; have HO3 : Hid (w3.ownsRow w.heap.size 3 1 (.slice (some ⟨w.heap.size, 0, none⟩) (j + 1) n) (j + 1) ((irow j (fun i => f + i)).toList ++ [.int .i64 (p : Int)])) := hown3; have HG3 : Hid ((wr.alloc (.cells #[.int .i64 (p : Int)] 3)).grownBy w3 (some w.heap.size)) := hgrow3; clear hown3 hgrow3)
      refine ⟨⟨j + 1, by rw [← Nat.add_assoc, hp]; go_num, rfl, hj1, ?_, below_row (two_below HB.out (alloc_low _ _)) HG3.out (Nat.le_refl _)⟩, by simp [intOf]; omega⟩
      have h3 := HO3.out
      rw [irow_push] at h3
      exact Oi.congr (f := fun i => if i = j then p else f + i) h3 (fun u _ => by
        by_cases e : u = j
        · rw [if_pos e, e, hp]
        · rw [if_neg e])
    · obtain rfl : j = n := by omega
      go_wp2
      go_ret
      exact ⟨w.heap.size, rfl, oi_row HO.out, Nat.le_refl _, HB.out⟩
/-- What a block of numbers holds. -/
def qof (w : World) (g i : Nat) : Nat := match w.cell? ⟨g, i, none⟩ with
  | some (.int _ x) => x.toNat
  | _ => 0
theorem qof_at {w : World} {g k i : Nat} {q : Nat → Nat} (h : IRowAt w g k q) (hi : i < k) : qof w g i = q i := by
  unfold qof
  rw [h.cell i hi]
  simp
theorem vl_qof {w : World} {g k n : Nat} {q : Nat → Nat} (h : IRowAt w g k q) : vl n (qof w g) k = vl n q k := vl_congr (fun _ hi => qof_at h hi)
theorem nxt_cases {q : Nat → Nat} {k n : Nat} (h : Inc q k n) : (∀ t, t < k → q t + k = n + t) ∨ ∃ i, i < k ∧ q i + k < n + i ∧ ∀ t, i < t → t < k → q t + k = n + t := by
  have key : ∀ j, j ≤ k → (∀ t, k ≤ t + j → t < k → q t + k = n + t) ∨ ∃ i, i < k ∧ q i + k < n + i ∧ ∀ t, i < t → t < k → q t + k = n + t := by
    intro j
    induction j with
    | zero => exact fun _ => .inl (fun t h1 h2 => by omega)
    | succ j ih =>
      intro hj
      rcases ih (by omega) with h1 | h1
      · by_cases e : q (k - (j + 1)) + k = n + (k - (j + 1))
        · refine .inl (fun t h2 h3 => ?_)
          by_cases e2 : t = k - (j + 1)
          · rw [e2]; exact e
          · exact h1 t (by omega) h3
        · have hle := h.le (i := k - (j + 1)) (by omega)
          exact .inr ⟨k - (j + 1), by omega, by omega, fun t h2 h3 => h1 t (by omega) h3⟩
      · exact .inr h1
  rcases key k (Nat.le_refl _) with h1 | h1
  · exact .inl (fun t ht => h1 t (by omega) ht)
  · exact .inr h1
theorem goon_no (w : World) (g k n d : Nat) (q : Nat → Nat) (hr : IRowAt w g k q) (hq : Inc q k n) (hn : n ≤ 64) (hkn : k ≤ n) (hkd : k ≤ d) (hl : ∀ t, t < k → q t + k = n + t) :
    Calls Try.prog 93 #[.slice (some ⟨g, 0, none⟩) k d, .int .i64 (n : Int)] w fun e w' => e = .returned (.bool false) ∧ IRowAt w' g k q ∧ w.grownBy w' (some g) :=
  (goon_any w g k n d q hr hq hn hkn hkd).mono (fun _ _ h => by
    rcases h with ⟨i, _, h1, h2, _⟩ | ⟨h1, _, h2, h3⟩
    · have := hl i h1
      omega
    · exact ⟨h1, h2, h3⟩)
theorem goon_yes (w : World) (g k n d i : Nat) (q : Nat → Nat) (hr : IRowAt w g k q) (hq : Inc q k n) (hn : n ≤ 64) (hkn : k ≤ n) (hkd : k ≤ d) (hi : i < k) (hl : q i + k < n + i) (hb : ∀ t, i < t → t < k → q t + k = n + t) :
    Calls Try.prog 93 #[.slice (some ⟨g, 0, none⟩) k d, .int .i64 (n : Int)] w fun e w' => e = .returned (.bool true) ∧ IRowAt w' g k (nxt q i) ∧ w.grownBy w' (some g) :=
  (goon_any w g k n d q hr hq hn hkn hkd).mono (fun _ _ h => by
    rcases h with ⟨j, h0, h1, h2, h3, h4, h5⟩ | ⟨_, h1, _⟩
    · have e : j = i := by
        rcases Nat.lt_trichotomy j i with h | h | h
        · have := h3 i h hi; omega
        · exact h
        · have := hb j h h1; omega
      subst e
      exact ⟨h0, h4, h5⟩
    · have := h1 i hi
      omega)
set_option maxRecDepth 20000 in
set_option maxHeartbeats 2000000 in
theorem choices_in (m l k N bn bc : Nat) (W0 : World) (T Tx : World → Prop) (Good : (Nat → Nat) → Prop) (hm : 1 ≤ m) (hN : N ≤ 64) (hk : k ≤ N)
    (hT : ∀ W W' row, T W → W.grownBy W' row → (∀ g, row = some g → W0.heap.size ≤ g) → T W')
    (hC : ∀ W, T W → W.cell? ⟨bn, 0, none⟩ = some (.int .i64 (N : Int)) ∧ W.cell? ⟨bc, 0, none⟩ = some (.int .i64 (k : Int)))
    (hY : ∀ W q g, T W → IRowAt W g k q → W0.heap.size ≤ g → Inc q k N → YieldAt Fence.wide (m - 1) Try.prog l #[.slice (some ⟨g, 0, none⟩) k k] W (fun e W' => (e = .returned (.bool true) ∧ Good q ∧ T W' ∧ IRowAt W' g k q) ∨ (e = .returned (.bool false) ∧ ¬ Good q ∧ Tx W')))
    (hG : ∀ q s, (∀ i, i < k → q i = s i) → Good q → Good s) (h0 : T W0) :
    CallsIn Fence.wide m Try.prog 92 #[.func (.yield l) #[] #[], .pointer (some ⟨bc, 0, none⟩), .pointer (some ⟨bn, 0, none⟩)] W0 fun e W' => (∃ v, e = .returned v) ∧ ((T W' ∧ ∀ q, Inc q k N → Good q) ∨ (Tx W' ∧ ∃ q, Inc q k N ∧ ¬ Good q)) := by
  have HT : Hid (∀ W W' row, T W → W.grownBy W' row → (∀ g, row = some g → W0.heap.size ≤ g) → T W') := hT
  have HC : Hid (∀ W, T W → W.cell? ⟨bn, 0, none⟩ = some (.int .i64 (N : Int)) ∧ W.cell? ⟨bc, 0, none⟩ = some (.int .i64 (k : Int))) := hC
  have HYd := hid_of hY
  have HGd := hid_of hG
  have H0 : Hid (T W0) := h0
  obtain ⟨c1, c2⟩ := hC W0 h0
  clear hT hC hY hG h0
  refine callsIn_of_wp Try.func92 rfl trivial ?_ rfl
  simp only [Try.ntmps92, List.size_toArray, List.length_cons, List.length_nil, Nat.reduceAdd, Nat.reduceSub, Array.replicate_succ, Array.replicate_zero, List.push_toArray, List.append_toArray, List.nil_append, List.cons_append]
  gi_wp2_with (refine ⟨trivial, ?_⟩; gi_at_call 55; refine (callsIn_wide.2 (nums_row _ 0 k k (Nat.zero_add k) (by omega))).mono ?_; rintro e w1 ⟨g, rfl, hr1, hg1, hb1⟩; have HR1 : Hid (IRowAt w1 g k (fun i => 0 + i)) := hr1; have hg2 : W0.heap.size ≤ g := hg1; have HB1 : Hid (Below W0.heap.size W0 w1) := hb1; clear hr1 hg1 hb1)
  gi_loopw [7] (fun _ wr => ∃ q, IRowAt wr g k q ∧ Inc q k N ∧ T wr ∧ ∀ s, Inc s k N → vl N s k < vl N q k → Good s) (fun _ wr => N ^ k - vl N (qof wr g) k)
  case atStart =>
    exact ⟨fun i => i, HR1.out.congr (fun i _ => Nat.zero_add i), inc_first hk, HT.out W0 w1 none H0.out (grown_none.mpr HB1.out) (fun g e => by cases e), fun s hs hlt => absurd hlt (by have := hs.first; omega)⟩
  case round =>
    obtain ⟨q, hr, hq, ht, hgd⟩ := hrel
    have HR : Hid (IRowAt wr g k q) := hr
    have HQ : Hid (Inc q k N) := hq
    have HTr : Hid (T wr) := ht
    have HGs : Hid (∀ s, Inc s k N → vl N s k < vl N q k → Good s) := hgd
    clear hr hq ht hgd
    obtain ⟨fn, tmps, assign, body, hy, hR⟩ := HYd.out wr q g HTr.out HR.out hg2 HQ.out
    have HRd := hid_of hR
    clear hR
    gi_wp2
    refine HRd.out.mono ?_
    rintro e W3 (⟨rfl, hgo, ht3, hr3⟩ | ⟨rfl, hno, htx⟩)
    · have HR3 : Hid (IRowAt W3 g k q) := hr3
      have HT3 : Hid (T W3) := ht3
      have HGo : Hid (Good q) := hgo
      obtain ⟨c3, _⟩ := HC.out W3 ht3
      clear hgo ht3 hr3 hy HRd
      rcases nxt_cases HQ.out with hl | ⟨i, hi, hl, hb⟩
      · have HL : Hid (∀ t, t < k → q t + k = N + t) := hl
        clear hl
        gi_wp2_with (refine ⟨trivial, ?_⟩; gi_at_call 93; refine (callsIn_wide.2 (goon_no _ g k N k q HR3.out HQ.out hN hk (Nat.le_refl _) HL.out)).mono ?_; rintro e w4 ⟨rfl, hr4, hg4⟩; have HG4 : Hid (W3.grownBy w4 (some g)) := hg4; clear hr4 hg4)
        go_end0
        refine ⟨⟨_, rfl⟩, .inl ⟨HT.out W3 w4 (some g) HT3.out HG4.out (fun g' e => by cases e; exact hg2), fun s hs => ?_⟩⟩
        have h1 := Inc.last hs HL.out
        by_cases e : vl N s k < vl N q k
        · exact HGs.out s hs e
        · exact HGd.out q s (fun t ht => (vl_same (n := N) (k := k) HQ.out.2 hs.2 (by omega)) t ht) HGo.out
      · have HL : Hid (q i + k < N + i ∧ ∀ t, i < t → t < k → q t + k = N + t) := ⟨hl, hb⟩
        clear hl hb
        gi_wp2_with (refine ⟨trivial, ?_⟩; gi_at_call 93; refine (callsIn_wide.2 (goon_yes _ g k N k i q HR3.out HQ.out hN hk (Nat.le_refl _) hi HL.out.1 HL.out.2)).mono ?_; rintro e w4 ⟨rfl, hr4, hg4⟩; have HR4 : Hid (IRowAt w4 g k (nxt q i)) := hr4; have HG4 : Hid (W3.grownBy w4 (some g)) := hg4; clear hr4 hg4)
        obtain ⟨n1, n2, n3⟩ := HQ.out.next hi HL.out.1 HL.out.2
        go_roundw
        case rel =>
          refine ⟨nxt q i, HR4.out, n1, HT.out W3 w4 (some g) HT3.out HG4.out (fun g' e => by cases e; exact hg2), fun s hs hlt => ?_⟩
          have h1 := n3 s hs hlt
          by_cases e : vl N s k < vl N q k
          · exact HGs.out s hs e
          · exact HGd.out q s (fun t ht => (vl_same (n := N) (k := k) HQ.out.2 hs.2 (by omega)) t ht) HGo.out
        case measure =>
          have := vl_lt (n := N) (q := nxt q i) (k := k) n1.2
          rw [vl_qof HR4.out, vl_qof HR.out]
          omega
    · have HNo : Hid (¬ Good q) := hno
      have HTx : Hid (Tx W3) := htx
      clear hno htx hy HRd
      gi_wp2
      refine ⟨trivial, ?_⟩
      gi_wp2
      go_end0
      exact ⟨⟨_, rfl⟩, .inr ⟨HTx.out, q, HQ.out, HNo.out⟩⟩
end Go.Proofs.Ytblfldjlehjnbaa

namespace Go.Proofs.Ytblfldjlehjnbaa
open Go.RowKit Go.Shelf
attribute [local go_sem] Oper.semAt_some
/-- How a round's body may be left: it goes on, and the choice was good; or it returns, and it was not. -/
def rndQ (Kp Kx : World → Prop) (Good : (Nat → Nat) → Prop) (q : Nat → Nat) (B : Nat) (W : World) : Exit → Act → World → Prop
  | .normal, _, W' => Good q ∧ Kp W' ∧ W.heap.size ≤ W'.heap.size ∧ ∀ j, B ≤ j → j < W.heap.size → W'.heap[j]? = W.heap[j]?
  | .ret, _, W' => ¬ Good q ∧ Kx W' ∧ W.heap.size ≤ W'.heap.size ∧ ∀ j, B ≤ j → j < W.heap.size → W'.heap[j]? = W.heap[j]?
  | _, _, _ => False
set_option maxHeartbeats 1000000 in
theorem range_choices {gop : Operand} {p : Tmp} {assign body : Code} {Q : Exit → Act → World → Prop} {a : Act} {w : World} {nn k N bn bc : Nat} (Kp Kx : World → Prop) (Good : (Nat → Nat) → Prop)
    (hnn : 2 ≤ nn) (hN : N ≤ 64) (hk : k ≤ N)
    (hg : a.eval gop = .func (.func 92) #[] #[.pointer (some ⟨bc, 0, none⟩), .pointer (some ⟨bn, 0, none⟩)])
    (hKp : ∀ W W' row, Kp W → W.grownBy W' row → (∀ g, row = some g → w.heap.size ≤ g) → Kp W')
    (hKx : ∀ W W' row, Kx W → W.grownBy W' row → (∀ g, row = some g → w.heap.size ≤ g) → Kx W')
    (hKc : ∀ W, Kp W → W.cell? ⟨bn, 0, none⟩ = some (.int .i64 (N : Int)) ∧ W.cell? ⟨bc, 0, none⟩ = some (.int .i64 (k : Int)))
    (hG : ∀ q s, (∀ i, i < k → q i = s i) → Good q → Good s) (h0 : Kp w) (a₁ : Nat → Act)
    (hassign : ∀ (l g : Nat) (W : World) (K : Act → World → Prop), K (a₁ g) W → assign.wpIn (Fence.wide.inRound l) (nn - 1 - 1) Try.prog (Exit.then K (fun _ _ _ => False)) { tmps := a.tmps.setIfInBounds p (.slice (some ⟨g, 0, none⟩) k k), defers := [] } W)
    (hbody : ∀ (l g : Nat) (q : Nat → Nat) (W : World), Kp W → IRowAt W g k q → Inc q k N → w.heap.size ≤ g → body.wpIn (Fence.wide.inRound l) (nn - 1 - 1) Try.prog (rndQ Kp Kx Good q w.heap.size W) (a₁ g) W)
    (hdone : ∀ (D : Nat) (W : World), w.heap.size ≤ D → Kp W → (∀ q, Inc q k N → Good q) → W.heap[D]? = some (.deferred (some [])) → Q .normal { a with defers := { target := .collected D, args := #[] } :: a.defers } W)
    (hstop : ∀ (D : Nat) (W : World), w.heap.size ≤ D → Kx W → (∃ q, Inc q k N ∧ ¬ Good q) → W.heap[D]? = some (.deferred (some [])) → Code.ret.wpIn Fence.wide nn Try.prog Q { a with defers := { target := .collected D, args := #[] } :: a.defers } W) :
    (Code.rangeFunc gop #[p] assign body).wpIn Fence.wide nn Try.prog Q a w := by
  refine wpIn_rangeFunc ?_
  intro fn hfn
  obtain ⟨rc, hrc⟩ : ∃ rc : LoopState → Option Code → Loop, rc = fun st pe => { state := st, pending := pe, fn, tmps := a.tmps, params := #[p], assign, body, defers := w.heap.size } := ⟨_, rfl⟩
  obtain ⟨W1, hW1⟩ : ∃ W1, (w.alloc (.deferred (some []))).alloc (.loop (rc .ready none)) = W1 := ⟨_, rfl⟩
  have hs1 : W1.heap.size = w.heap.size + 2 := by rw [← hW1]; simp
  have hL1 : W1.heap[w.heap.size + 1]? = some (.loop (rc .ready none)) := by rw [← hW1]; exact heap_alloc2_new _ _ _
  have hD1 : W1.heap[w.heap.size]? = some (.deferred (some [])) := by rw [← hW1]; exact heap_alloc2_old _ _ _
  have hb1 : Below w.heap.size w W1 := by rw [← hW1]; exact two_below (alloc_low _ _) (alloc_low _ _)
  have hK1 : Kp W1 := hKp w W1 none h0 (grown_none.mpr hb1) (fun g e => by cases e)
  have put : ∀ (W : World) (o : Obj), W.grownBy (W.putObj (w.heap.size + 1) o) (some (w.heap.size + 1)) := fun W o => grownBy_putObj' W (w.heap.size + 1) o
  refine ⟨w.heap.size + 1, [{ target := .collected w.heap.size, args := #[] }], W1, { target := .fn (.func 92) #[.pointer (some ⟨bc, 0, none⟩), .pointer (some ⟨bn, 0, none⟩)], args := #[.func (.yield (w.heap.size + 1)) #[] #[]] }, W1, 92,
    #[.func (.yield (w.heap.size + 1)) #[] #[]] ++ #[.pointer (some ⟨bc, 0, none⟩), .pointer (some ⟨bn, 0, none⟩)], W1, ?_, ?_, ?_, ?_, fun h => (by cases h), ?_⟩
  · rw [← hW1, hrc]; exact run_enterLoop_outer _ _ _ _ _
  · simp only [resolve, hg]
    simp [go_sem]
  · intro f' _; trivial
  · simp [invoke, go_sem]
  · refine (choices_in (nn - 1) (w.heap.size + 1) k N bn bc W1
      (fun W => Kp W ∧ W.heap[w.heap.size + 1]? = some (.loop (rc .ready none)) ∧ W.heap[w.heap.size]? = some (.deferred (some [])))
      (fun W => Kx W ∧ W.heap[w.heap.size + 1]? = some (.loop (rc .done (some .ret))) ∧ W.heap[w.heap.size]? = some (.deferred (some [])))
      Good (by omega) hN hk ?_ (fun W h => hKc W h.1) ?_ hG ⟨hK1, hL1, hD1⟩).mono ?_
    · rintro W W' row ⟨h1, h2, h3⟩ hgr hrow
      have l2 := lt_of_block h2
      have l3 := lt_of_block h3
      refine ⟨hKp W W' row h1 hgr (fun g e => by have := hrow g e; omega), ?_, ?_⟩
      · rw [hgr.block _ l2 (fun e => by have := hrow _ e.symm; omega)]; exact h2
      · rw [hgr.block _ l3 (fun e => by have := hrow _ e.symm; omega)]; exact h3
    · rintro W q g ⟨h1, h2, h3⟩ hr hgW hq
      have l2 := lt_of_block h2
      have hy := run_yield (P := Try.prog) (args := #[.slice (some ⟨g, 0, none⟩) k k]) h2 (by rw [hrc]; rfl)
      rw [hrc] at hy
      refine ⟨fn, _, assign, body, hy, roundIn_of_wpIn hfn ?_⟩
      have htm : ((#[p] : Array Tmp).zip #[Value.slice (some ⟨g, 0, none⟩) k k]).foldl (fun tmps (t, a) => tmps.setIfInBounds t a) a.tmps = a.tmps.setIfInBounds p (.slice (some ⟨g, 0, none⟩) k k) := by simp
      rw [htm]
      refine hassign _ g W _ ?_
      refine ⟨_, run_beginRound h2 (by rw [hrc]), ?_⟩
      obtain ⟨W2, hW2⟩ : ∃ W2, W.putObj (w.heap.size + 1) (.loop { rc .ready none with state := .busy }) = W2 := ⟨_, rfl⟩
      have hg2 : W.grownBy W2 (some (w.heap.size + 1)) := by rw [← hW2]; exact put _ _
      have s2 := hg2.size
      have k2 : Kp W2 := hKp W W2 _ h1 hg2 (fun g e => by cases e; omega)
      have h22 : W2.heap[w.heap.size + 1]? = some (.loop { rc .ready none with state := .busy }) := by rw [← hW2]; exact World.putObj_heap_same l2
      have h32 : W2.heap[w.heap.size]? = some (.deferred (some [])) := by rw [hg2.block _ (lt_of_block h3) (fun e => by simp at e)]; exact h3
      have r2 : IRowAt W2 g k q := by
        unfold IRowAt
        rw [hg2.block g hr.lt (fun e => by have : g = w.heap.size + 1 := by simpa using e
                                           omega)]
        exact hr
      rw [hW2]
      refine wpIn_mono (hbody _ g q W2 k2 r2 hq (by omega)) ?_
      rintro e a3 W3 hp
      cases e with
      | normal =>
        obtain ⟨hgd, hk3, hs3, hbl⟩ := hp
        have hl3 : W3.heap[w.heap.size + 1]? = some (.loop { rc .ready none with state := .busy }) := by rw [hbl _ (by omega) (lt_of_block h22)]; exact h22
        have hd3 : W3.heap[w.heap.size]? = some (.deferred (some [])) := by rw [hbl _ (by omega) (lt_of_block h32)]; exact h32
        have hr3 : IRowAt W3 g k q := by unfold IRowAt; rw [hbl g (by omega) r2.lt]; exact r2
        have hend := run_endRound (P := Try.prog) none hl3
        refine ⟨_, _, hend, .inl ⟨rfl, hgd, ⟨hKp W3 _ _ hk3 (put _ _) (fun g e => by cases e; omega), ?_, ?_⟩, ?_⟩⟩
        · rw [World.putObj_heap_same (lt_of_block hl3), hrc]; rfl
        · exact (World.putObj_heap_other (by omega)).trans hd3
        · unfold IRowAt
          exact (World.putObj_heap_other (by omega)).trans hr3
      | ret =>
        obtain ⟨hgd, hk3, hs3, hbl⟩ := hp
        have hl3 : W3.heap[w.heap.size + 1]? = some (.loop { rc .ready none with state := .busy }) := by rw [hbl _ (by omega) (lt_of_block h22)]; exact h22
        have hd3 : W3.heap[w.heap.size]? = some (.deferred (some [])) := by rw [hbl _ (by omega) (lt_of_block h32)]; exact h32
        have hend := run_endRound (P := Try.prog) (some .ret) hl3
        refine ⟨_, _, hend, .inr ⟨rfl, hgd, hKx W3 _ _ hk3 (put _ _) (fun g e => by cases e; omega), ?_, ?_⟩⟩
        · rw [World.putObj_heap_same (lt_of_block hl3), hrc]; rfl
        · exact (World.putObj_heap_other (by omega)).trans hd3
      | exit id => exact hp.elim
      | goto t => exact hp.elim
      | panic ch => exact hp.elim
      | outgrown => exact hp.elim
    · rintro e W2 ⟨⟨v, rfl⟩, (⟨⟨h1, h2, h3⟩, hall⟩ | ⟨⟨h1, h2, h3⟩, hno⟩)⟩
      · refine ⟨none, _, by have := run_endLoop (P := Try.prog) h2 (by rw [hrc]; simp); rw [hrc] at this; exact this, ?_⟩
        exact hdone _ _ (Nat.le_refl _) (hKp W2 _ _ h1 (put _ _) (fun g e => by cases e; omega)) hall ((World.putObj_heap_other (by omega)).trans h3)
      · refine ⟨some .ret, _, by have := run_endLoop (P := Try.prog) h2 (by rw [hrc]; simp); rw [hrc] at this; exact this, ?_⟩
        exact hstop _ _ (Nat.le_refl _) (hKx W2 _ _ h1 (put _ _) (fun g e => by cases e; omega)) hno ((World.putObj_heap_other (by omega)).trans h3)
end Go.Proofs.Ytblfldjlehjnbaa

namespace Go.Proofs.Ytblfldjlehjnbaa
open Go.RowKit Go.Shelf
attribute [local go_sem] Oper.semAt_some
theorem choices_any (w : World) (n c : Int) : Calls Try.prog 65 #[.int .i64 n, .int .i64 c] w fun e w' => e = .returned (.func (.func 92) #[] #[.pointer (some ⟨w.heap.size + 1, 0, none⟩), .pointer (some ⟨w.heap.size, 0, none⟩)]) ∧ w'.cell? ⟨w.heap.size, 0, none⟩ = some (.int .i64 n) ∧ w'.cell? ⟨w.heap.size + 1, 0, none⟩ = some (.int .i64 c) ∧ w'.heap.size = w.heap.size + 2 ∧ Below w.heap.size w w' := by
  have hmf : ∀ (fn : Fn) (first cap : Array Value) (w : World), (Instr.makeFunc fn first cap).run Try.prog w = .ok (.func fn first cap) w := fun _ _ _ _ => rfl
  go_enter Try.func65, Try.ntmps65
  go_wp2
  go_ret
  refine ⟨rfl, ?_, ?_, by simp, two_below (alloc_low _ _) (alloc_low _ _)⟩
  · rw [cell_of_row _ _ 0 _ _ _ (heap_alloc2_old w (.cells #[.int .i64 n] 3) (.cells #[.int .i64 c] 3))]; rfl
  · rw [cell_of_row _ _ 0 _ _ _ (heap_alloc2_new w (.cells #[.int .i64 n] 3) (.cells #[.int .i64 c] 3))]; rfl
/-- What MDS answers. -/
def MdsP (w w' : World) (e : Ending) (x : Bool) (E : Int) : Prop := e = .returned (.tuple #[.bool x, .int .i64 E]) ∧ Below w.heap.size w w'
structure Mb3 (w wb : World) (r c : Int) (n k : Nat) (a : Option Addr) : Prop where
  va : Vr wb w.heap.size (.int .i64 r) (.int .i64 c) (.slice a n k)
  vb : wb.heap[w.heap.size + 1]? = some (.cells #[.bool false] 4 (0, 0))
  ve : wb.heap[w.heap.size + 1 + 1]? = some (.cells #[.int .i64 0] 25 (0, 0))
  size : wb.heap.size = w.heap.size + 1 + 1 + 1
  below : Below w.heap.size w wb
theorem mb3 (w : World) (r c : Int) (n k : Nat) (a : Option Addr) : Mb3 w (((w.alloc (.cells #[.int .i64 r, .int .i64 c, .slice a n k] 24)).alloc (.cells #[.bool false] 4)).alloc (.cells #[.int .i64 0] 25)) r c n k a :=
  ⟨heap3_0 _ _ _ _, heap3_1 _ _ _ _, heap3_2 _ _ _ _, by simp, two_below (two_below (alloc_low _ _) (alloc_low _ _)) (alloc_low _ _)⟩
/-- The two cells of the answer. -/
structure Ans2 (w : World) (b : Nat) (x : Value) (y : Value) : Prop where
  c0 : w.cell? ⟨b, 0, none⟩ = some x
  f0 : w.frozen? ⟨b, 0, none⟩ = false
  c1 : w.cell? ⟨b + 1, 0, none⟩ = some y
  f1 : w.frozen? ⟨b + 1, 0, none⟩ = false
theorem Mb3.ans {w wb : World} {r c : Int} {n k : Nat} {a : Option Addr} (h : Mb3 w wb r c n k a) : Ans2 wb (w.heap.size + 1) (.bool false) (.int .i64 0) :=
  ⟨by rw [cell_of_row _ _ 0 _ _ _ h.vb]; rfl, by simp [World.frozen?, h.vb], by rw [cell_of_row _ _ 0 _ _ _ h.ve]; rfl, by simp [World.frozen?, h.ve]⟩
theorem Ans2.later {w w' : World} {b : Nat} {x y : Value} (h : Ans2 w b x y) (hb : Below w.heap.size w w') : Ans2 w' b x y := by
  have e0 := hb.block b (cell_lt h.c0)
  have e1 := hb.block (b + 1) (cell_lt h.c1)
  exact ⟨by rw [World.cell?_of_block (a := ⟨b, 0, none⟩) e0]; exact h.c0, by rw [World.frozen?_of_block (a := ⟨b, 0, none⟩) e0]; exact h.f0, by rw [World.cell?_of_block (a := ⟨b + 1, 0, none⟩) e1]; exact h.c1, by rw [World.frozen?_of_block (a := ⟨b + 1, 0, none⟩) e1]; exact h.f1⟩
theorem Ans2.put {w : World} {b : Nat} {x y x' y' : Value} (h : Ans2 w b x y) : Ans2 ((w.setCell ⟨b, 0, none⟩ x').setCell ⟨b + 1, 0, none⟩ y') b x' y' := by
  have h1 : (w.setCell ⟨b, 0, none⟩ x').cell? ⟨b + 1, 0, none⟩ = some y := by rw [World.cell?_setCell_other _ _ _ _ (by simp)]; exact h.c1
  refine ⟨?_, ?_, ?_, ?_⟩
  · rw [World.cell?_setCell_other _ _ _ _ (by simp)]
    exact World.cell?_setCell_same' _ _ _ (by rw [h.c0]; rfl)
  · simpa using h.f0
  · exact World.cell?_setCell_same' _ _ _ (by rw [h1]; rfl)
  · simpa using h.f1
set_option maxRecDepth 20000 in
set_option maxHeartbeats 2000000 in
theorem bmds_bad (w : World) (r c : Int) (n k : Nat) (a : Option Addr) (h : ¬ (RightP r c n ∧ c ≤ r)) : Calls Try.prog 22 #[mv r c a n k] w fun e w' => MdsP w w' e false 3 := by
  obtain ⟨wb, HW, HX⟩ : ∃ wb, Hid (wb = ((w.alloc (.cells #[.int .i64 r, .int .i64 c, .slice a n k] 24)).alloc (.cells #[.bool false] 4)).alloc (.cells #[.int .i64 0] 25)) ∧ Hid (Mb3 w wb r c n k a) := ⟨_, rfl, mb3 w r c n k a⟩
  have v0 := HX.out.va.c0
  have v1 := HX.out.va.c1
  have v2 := HX.out.va.c2
  have H1 : Hid (¬ (RightP r c n ∧ c ≤ r)) := h
  clear h
  go_enter Try.func22, Try.ntmps22
  go_wp2_with (go_at_call 53; rw [← HW.out]; refine (tall_no _ _ _ _ _ _ H1.out).mono ?_; rintro e w1 ⟨rfl, hb1⟩; have HB1 : Hid (Below wb.heap.size wb w1) := hb1; have HA1 : Hid (Ans2 w1 (w.heap.size + 1) (.bool false) (.int .i64 0)) := HX.out.ans.later hb1; have x1_0 := HA1.out.c0; have x1_1 := HA1.out.f0; have x1_2 := HA1.out.c1; have x1_3 := HA1.out.f1; clear hb1)
  have hA9 := HA1.out.put (x' := .bool false) (y' := .int .i64 3)
  have d0 := hA9.c0
  have d1 := hA9.c1
  refine bodyPost_ret (v := .tuple #[.bool false, .int .i64 3]) (by simp [results, Try.results22, go_sem, d0, d1]) rfl ?_
  exact ⟨rfl, ((two_below HX.out.below HB1.out).setCell (by show w.heap.size ≤ w.heap.size + 1; omega) _).setCell (by show w.heap.size ≤ w.heap.size + 1 + 1; omega) _⟩
set_option maxRecDepth 20000 in
set_option maxHeartbeats 2000000 in
theorem bmds_many (w : World) (r c n k : Nat) (a : Option Addr) (F : Nat → Nat) (ha : Mt w a n k F) (R : Rt r c n) (hcr : c ≤ r) (hb : 16384 < bin r c) : Calls Try.prog 22 #[mv r c a n k] w fun e w' => MdsP w w' e false 4 := by
  obtain ⟨wb, HW, HX⟩ : ∃ wb, Hid (wb = ((w.alloc (.cells #[.int .i64 (r : Int), .int .i64 (c : Int), .slice a n k] 24)).alloc (.cells #[.bool false] 4)).alloc (.cells #[.int .i64 0] 25)) ∧ Hid (Mb3 w wb (r : Int) (c : Int) n k a) := ⟨_, rfl, mb3 w (r : Int) (c : Int) n k a⟩
  have v0 := HX.out.va.c0
  have v1 := HX.out.va.c1
  have v2 := HX.out.va.c2
  have HA : Hid (Mt w a n k F) := ha
  have HR : Hid (Rt r c n) := R
  have hr64 := R.r64
  have hcl : (c : Int) ≤ (r : Int) := by omega
  have HCl : Hid ((c : Int) ≤ (r : Int)) := hcl
  clear ha R hcl
  have HMn : Hid (∀ w, Calls Try.prog 64 #[.int .i64 (r : Int), .int .i64 (c : Int)] w fun e w' => e = .returned (.bool true) ∧ w = w') := fun w => (many_any w r c hr64 hcr).mono (fun _ _ h => by rcases h with ⟨h1, _, h3⟩ | ⟨_, h2, _⟩; exact ⟨h1, h3⟩; omega)
  clear HA
  go_enter Try.func22, Try.ntmps22
  go_wp2_with (first
    | (go_at_call 53; rw [← HW.out]; refine (tall_yes _ _ _ _ _ _ HR.out.p HCl.out).mono ?_; rintro e w1 ⟨rfl, hb1⟩; have HB1 : Hid (Below wb.heap.size wb w1) := hb1; have HA1 : Hid (Ans2 w1 (w.heap.size + 1) (.bool false) (.int .i64 0)) := HX.out.ans.later hb1; have x1_0 := HA1.out.c0; have x1_1 := HA1.out.f0; have x1_2 := HA1.out.c1; have x1_3 := HA1.out.f1; have a1_0 := (HX.out.va.later hb1).c0; have a1_1 := (HX.out.va.later hb1).c1; have a1_2 := (HX.out.va.later hb1).c2; clear hb1)
    | (go_at_call 64; refine (HMn.out _).mono ?_; rintro e w' ⟨rfl, rfl⟩))
  have hA9 := HA1.out.put (x' := .bool false) (y' := .int .i64 4)
  have d0 := hA9.c0
  have d1 := hA9.c1
  refine bodyPost_ret (v := .tuple #[.bool false, .int .i64 4]) (by simp [results, Try.results22, go_sem, d0, d1]) rfl ?_
  exact ⟨rfl, ((two_below HX.out.below HB1.out).setCell (by show w.heap.size ≤ w.heap.size + 1; omega) _).setCell (by show w.heap.size ≤ w.heap.size + 1 + 1; omega) _⟩
set_option maxRecDepth 20000 in
set_option maxHeartbeats 2000000 in
theorem bmds_sing (w : World) (r c n k t : Nat) (a : Option Addr) (F : Nat → Nat) (ha : Mt w a n k F) (R : Rt r c n) (hcr : c ≤ r) (hb : bin r c ≤ 16384) (hk : Rk (m2 F r c) r t) (ht : t < c) : Calls Try.prog 22 #[mv r c a n k] w fun e w' => MdsP w w' e false 0 := by
  obtain ⟨wb, HW, HX⟩ : ∃ wb, Hid (wb = ((w.alloc (.cells #[.int .i64 (r : Int), .int .i64 (c : Int), .slice a n k] 24)).alloc (.cells #[.bool false] 4)).alloc (.cells #[.int .i64 0] 25)) ∧ Hid (Mb3 w wb (r : Int) (c : Int) n k a) := ⟨_, rfl, mb3 w (r : Int) (c : Int) n k a⟩
  have v0 := HX.out.va.c0
  have v1 := HX.out.va.c1
  have v2 := HX.out.va.c2
  have HA : Hid (Mt w a n k F) := ha
  have HR : Hid (Rt r c n) := R
  have hr64 := R.r64
  have hcl : (c : Int) ≤ (r : Int) := by omega
  have HCl : Hid ((c : Int) ≤ (r : Int)) := hcl
  clear ha R hcl
  have HMn : Hid (∀ w, Calls Try.prog 64 #[.int .i64 (r : Int), .int .i64 (c : Int)] w fun e w' => e = .returned (.bool false) ∧ w = w') := fun w => (many_any w r c hr64 hcr).mono (fun _ _ h => by rcases h with ⟨_, h2, _⟩ | ⟨h1, _, h3⟩; omega; exact ⟨h1, h3⟩)
  have HK : Hid (Rk (m2 F r c) r t) := hk
  clear hk
  go_enter Try.func22, Try.ntmps22
  go_wp2_with (first
    | (go_at_call 53; rw [← HW.out]; refine (tall_yes _ _ _ _ _ _ HR.out.p HCl.out).mono ?_; rintro e w1 ⟨rfl, hb1⟩; have HB1 : Hid (Below wb.heap.size wb w1) := hb1; have HA1 : Hid (Ans2 w1 (w.heap.size + 1) (.bool false) (.int .i64 0)) := HX.out.ans.later hb1; have x1_0 := HA1.out.c0; have x1_1 := HA1.out.f0; have x1_2 := HA1.out.c1; have x1_3 := HA1.out.f1; have a1_0 := (HX.out.va.later hb1).c0; have a1_1 := (HX.out.va.later hb1).c1; have a1_2 := (HX.out.va.later hb1).c2; clear hb1)
    | (go_at_call 64; refine (HMn.out _).mono ?_; rintro e w' ⟨rfl, rfl⟩)
    | (go_at_call 20; refine (bchk_sing _ r c n k t a F (HA.out.later (two_below HX.out.below HB1.out)) HR.out hcr HK.out ht).mono ?_; rintro e w2 ⟨rfl, hb2⟩; have HB2 : Hid (Below wb.heap.size wb (w2.alloc (.cells #[.int .i64 0, .int .i64 0, .slice none 0 0] 24))) := two_below (two_below HB1.out hb2) (alloc_low _ _); have HA2 : Hid (Ans2 (w2.alloc (.cells #[.int .i64 0, .int .i64 0, .slice none 0 0] 24)) (w.heap.size + 1) (.bool false) (.int .i64 0)) := HX.out.ans.later HB2.out; have x2_0 := HA2.out.c0; have x2_1 := HA2.out.f0; have x2_2 := HA2.out.c1; have x2_3 := HA2.out.f1; clear hb2))
  have hA9 := HA2.out.put (x' := .bool false) (y' := .int .i64 0)
  have d0 := hA9.c0
  have d1 := hA9.c1
  refine bodyPost_ret (v := .tuple #[.bool false, .int .i64 0]) (by simp [results, Try.results22, go_sem, d0, d1]) rfl ?_
  exact ⟨rfl, ((two_below HX.out.below HB2.out).setCell (by show w.heap.size ≤ w.heap.size + 1; omega) _).setCell (by show w.heap.size ≤ w.heap.size + 1 + 1; omega) _⟩
theorem good_same {F q s : Nat → Nat} {c : Nat} (h : ∀ i, i < c → q i = s i) (hg : Rk (m2 (pkf F q c) c c) c c) : Rk (m2 (pkf F s c) c c) c c :=
  hg.at (fun i j hi => by
    by_cases hj : j < c
    · rw [m2_at _ hi hj, m2_at _ hi hj, pkf_at F s c i j hj, pkf_at F q c i j hj, h i hi]
    · rw [m2_cut _ (by omega), m2_cut _ (by omega)])
theorem Ans2.kept {w w' : World} {b g : Nat} {x y : Value} (h : Ans2 w b x y) (hg : w.grownBy w' (some g)) (h0 : b ≠ g) (h1 : b + 1 ≠ g) : Ans2 w' b x y := by
  have e0 := hg.block b (cell_lt h.c0) (fun e => h0 (by simpa using e))
  have e1 := hg.block (b + 1) (cell_lt h.c1) (fun e => h1 (by simpa using e))
  exact ⟨by rw [World.cell?_of_block (a := ⟨b, 0, none⟩) e0]; exact h.c0, by rw [World.frozen?_of_block (a := ⟨b, 0, none⟩) e0]; exact h.f0, by rw [World.cell?_of_block (a := ⟨b + 1, 0, none⟩) e1]; exact h.c1, by rw [World.frozen?_of_block (a := ⟨b + 1, 0, none⟩) e1]; exact h.f1⟩
theorem Ans2.grown {w w' : World} {b : Nat} {x y : Value} {row : Option Nat} (h : Ans2 w b x y) (hg : w.grownBy w' row) (h0 : row ≠ some b) (h1 : row ≠ some (b + 1)) : Ans2 w' b x y := by
  have e0 := hg.block b (cell_lt h.c0) (fun e => h0 e.symm)
  have e1 := hg.block (b + 1) (cell_lt h.c1) (fun e => h1 e.symm)
  exact ⟨by rw [World.cell?_of_block (a := ⟨b, 0, none⟩) e0]; exact h.c0, by rw [World.frozen?_of_block (a := ⟨b, 0, none⟩) e0]; exact h.f0, by rw [World.cell?_of_block (a := ⟨b + 1, 0, none⟩) e1]; exact h.c1, by rw [World.frozen?_of_block (a := ⟨b + 1, 0, none⟩) e1]; exact h.f1⟩
set_option maxRecDepth 20000 in
set_option maxHeartbeats 4000000 in
theorem bmds_more (w : World) (r c n k : Nat) (a : Option Addr) (F : Nat → Nat) (ha : Mt w a n k F) (R : Rt r c n) (hcr : c ≤ r) (hb : bin r c ≤ 16384) (hk : Rk (m2 F r c) r c) (hKR : ∀ kr, c + kr = r → c ≤ kr) : Calls Try.prog 22 #[mv r c a n k] w fun e w' => (MdsP w w' e true 0 ∧ AI F r c) ∨ (MdsP w w' e false 0 ∧ ¬ AI F r c) := by
  obtain ⟨wb, HW, HX⟩ : ∃ wb, Hid (wb = ((w.alloc (.cells #[.int .i64 (r : Int), .int .i64 (c : Int), .slice a n k] 24)).alloc (.cells #[.bool false] 4)).alloc (.cells #[.int .i64 0] 25)) ∧ Hid (Mb3 w wb (r : Int) (c : Int) n k a) := ⟨_, rfl, mb3 w (r : Int) (c : Int) n k a⟩
  have v0 := HX.out.va.c0
  have v1 := HX.out.va.c1
  have v2 := HX.out.va.c2
  have HA : Hid (Mt w a n k F) := ha
  have HR : Hid (Rt r c n) := R
  have hr64 := R.r64
  have hcl : (c : Int) ≤ (r : Int) := by omega
  have HCl : Hid ((c : Int) ≤ (r : Int)) := hcl
  clear ha R hcl
  have HMn : Hid (∀ w, Calls Try.prog 64 #[.int .i64 (r : Int), .int .i64 (c : Int)] w fun e w' => e = .returned (.bool false) ∧ w = w') := fun w => (many_any w r c hr64 hcr).mono (fun _ _ h => by rcases h with ⟨_, h2, _⟩ | ⟨h1, _, h3⟩; omega; exact ⟨h1, h3⟩)
  have HK : Hid (Rk (m2 F r c) r c) := hk
  clear hk
  refine (callsIn_wide (n := 4)).1 (callsIn_of_wp_marks Try.func22 rfl trivial ?_ rfl)
  simp only [Try.ntmps22, List.size_toArray, List.length_cons, List.length_nil, Nat.reduceAdd, Nat.reduceSub, Array.replicate_succ, Array.replicate_zero, List.push_toArray, List.append_toArray, List.nil_append, List.cons_append]
  refine wpIn_wide.2 ?_
  go_wp2_with (first
    | (go_at_call 65; have _x := HV2; refine (choices_any _ _ _).mono ?_; rintro e w5 ⟨rfl, n5, k5, hs5, hb5⟩; rw [World.size_alloc] at n5 k5; have HN5 : Hid (w5.cell? ⟨w2.heap.size + 1, 0, none⟩ = some (.int .i64 (r : Int))) := n5; have HK5 : Hid (w5.cell? ⟨w2.heap.size + 1 + 1, 0, none⟩ = some (.int .i64 (c : Int))) := k5; have HB5 : Hid (Below (w2.alloc (.cells #[.int .i64 (kr : Int), .int .i64 (r : Int), .slice s2 N2 d2] 24)).heap.size (w2.alloc (.cells #[.int .i64 (kr : Int), .int .i64 (r : Int), .slice s2 N2 d2] 24)) w5) := hb5; clear n5 k5 hs5 hb5)
    | (go_at_call 20; refine (bchk_ok _ r c n k a F (HA.out.later (two_below HX.out.below HB1.out)) HR.out hcr HK.out).mono ?_; rintro e w2 ⟨s2, d2, kr, top, p, G, H, rfl, hm2, hR2, hS2, hp2, ek2, hH2, hf2, hb2⟩; obtain ⟨N2, HN2⟩ : ∃ x, Hid (kr * r = x) := ⟨_, rfl⟩; rw [HN2.out] at hm2 ⊢; have hkr := (kr_of HR.out HK.out hR2 hS2 hp2 ek2).1; have HDu : Hid (AI F r c ↔ AI (trf H kr r) r kr) := dual_all HA.out.sl.1 HR.out (by rw [HN2.out]; exact hm2.sl.1) hkr HK.out (fun Y hY => chk_iff hR2 hS2 hp2 ek2 hH2 hY); have HB2 : Hid (Below wb.heap.size wb (w2.alloc (.cells #[.int .i64 (kr : Int), .int .i64 (r : Int), .slice s2 N2 d2] 24))) := two_below (two_below HB1.out hb2) (alloc_low _ _); have HM2 : Hid (Mt (w2.alloc (.cells #[.int .i64 (kr : Int), .int .i64 (r : Int), .slice s2 N2 d2] 24)) s2 N2 d2 H) := hm2.later (alloc_low _ _); have HV2 : Hid (Vr (w2.alloc (.cells #[.int .i64 (kr : Int), .int .i64 (r : Int), .slice s2 N2 d2] 24)) w2.heap.size (.int .i64 (kr : Int)) (.int .i64 (r : Int)) (.slice s2 N2 d2)) := Vr.new w2 _ _ _; have HRh : Hid (Rt kr r N2) := ⟨(by omega), hr64, HN2.out⟩; have c2_0 := HV2.out.c0; have c2_1 := HV2.out.c1; have c2_2 := HV2.out.c2; have b2_0 := (HX.out.va.later HB2.out).c0; have b2_1 := (HX.out.va.later HB2.out).c1; have b2_2 := (HX.out.va.later HB2.out).c2; have hkr0 := hKR kr hkr; clear hm2 hR2 hS2 hp2 ek2 hH2 hf2 hb2)
    | (go_at_call 64; refine (HMn.out _).mono ?_; rintro e w' ⟨rfl, rfl⟩)
    | (go_at_call 53; rw [← HW.out]; refine (tall_yes _ _ _ _ _ _ HR.out.p HCl.out).mono ?_; rintro e w1 ⟨rfl, hb1⟩; have HB1 : Hid (Below wb.heap.size wb w1) := hb1; have HA1 : Hid (Ans2 w1 (w.heap.size + 1) (.bool false) (.int .i64 0)) := HX.out.ans.later hb1; have x1_0 := HA1.out.c0; have x1_1 := HA1.out.f0; have x1_2 := HA1.out.c1; have x1_3 := HA1.out.f1; have a1_0 := (HX.out.va.later hb1).c0; have a1_1 := (HX.out.va.later hb1).c1; have a1_2 := (HX.out.va.later hb1).c2; clear hb1))
  have HBp : Hid (Below w.heap.size w w5) := two_below (two_below HX.out.below HB2.out) HB5.out
  have HVp : Hid (Vr w5 w.heap.size (.int .i64 (r : Int)) (.int .i64 (c : Int)) (.slice a n k)) := HX.out.va.later (two_below HB2.out HB5.out)
  have HMp : Hid (Mt w5 a n k F) := HA.out.later HBp.out
  have HAp : Hid (Ans2 w5 (w.heap.size + 1) (.bool false) (.int .i64 0)) := HX.out.ans.later (two_below HB2.out HB5.out)
  have HRp : Hid (Rt r c n) := HR.out
  have HDp : Hid (AI F r c ↔ AI F r c) := Iff.rfl
  have hs5 : w.heap.size + 1 + 1 < w5.heap.size := cell_lt HAp.out.c1
  have hkr64 : c ≤ r := by omega
  refine (wpIn_wide (n := 4)).1 ?_
  refine range_choices (nn := 4) (k := c) (N := r) (bn := w2.heap.size + 1) (bc := w2.heap.size + 1 + 1) (fun W => Below w5.heap.size w5 W) (fun W => Ans2 W (w.heap.size + 1) (.bool false) (.int .i64 0) ∧ Below w.heap.size w W) (fun q => Rk (m2 (pkf F q c) c c) c c) (by omega) hr64 hkr64 rfl ?hKp ?hKx ?hKc (fun q s h hg => good_same h hg) (Below.refl _ _)
    (fun g => { tmps := #[mv (↑r) (↑c) a n k, Value.pointer (some { block := w.heap.size, off := 0 }), Value.pointer (some { block := w.heap.size + 1, off := 0 }), Value.pointer (some { block := w.heap.size + 1 + 1, off := 0 }), Value.pointer (some { block := w2.heap.size, off := 0 }), Value.int IntKind.i64 0, Value.slice (some ⟨g, 0, none⟩) c c, Value.bool false, Value.agg #[Value.int IntKind.i64 ↑r, Value.int IntKind.i64 ↑c, Value.slice a n k], Value.bool true, Value.bool false, Value.bool false, Value.pointer (some { block := w.heap.size, off := 0 }), Value.int IntKind.i64 ↑r, Value.pointer (some { block := w.heap.size, off := 1 }), Value.int IntKind.i64 ↑c, Value.bool false, Value.tuple #[mv (↑kr) (↑r) s2 N2 d2, Value.int IntKind.i64 0], Value.agg #[Value.int IntKind.i64 ↑r, Value.int IntKind.i64 ↑c, Value.slice a n k], Value.tuple #[mv (↑kr) (↑r) s2 N2 d2, Value.int IntKind.i64 0], mv (↑kr) (↑r) s2 N2 d2, Value.int IntKind.i64 0, Value.int IntKind.i64 0, Value.bool false, Value.pointer (some { block := w2.heap.size, off := 0 }), Value.int IntKind.i64 ↑kr, Value.pointer (some { block := w.heap.size, off := 1 }), Value.int IntKind.i64 ↑c, Value.bool false, undef, undef, undef, undef, undef, Value.pointer (some { block := w.heap.size, off := 0 }), Value.int IntKind.i64 ↑r, Value.pointer (some { block := w.heap.size, off := 1 }), Value.int IntKind.i64 ↑c, Value.func (Fn.func 92) #[] #[Value.pointer (some { block := w2.heap.size + 1 + 1, off := 0 }), Value.pointer (some { block := w2.heap.size + 1, off := 0 })], Value.slice (some ⟨g, 0, none⟩) c c, undef, undef, undef, undef], defers := [] }) ?hassign ?hbody ?hdone ?hstop
  case hKp =>
    intro W W' row h hg hrow
    exact h.grown hg h.size hrow
  case hKx =>
    intro W W' row h hg hrow
    refine ⟨h.1.grown hg (fun e => by have := hrow _ e; omega) (fun e => by have := hrow _ e; omega), h.2.grown hg h.2.size (fun g e => by have := hrow g e; have := HBp.out.size; omega)⟩
  case hKc =>
    intro W h
    exact ⟨keepc h HN5.out, keepc h HK5.out⟩
  case hassign =>
    intro l g W K hK
    gi_wp2
    exact hK
  case hbody =>
    intro l g q W hW hr hq hg
    have HWk : Hid (Below w5.heap.size w5 W) := hW
    have HRw : Hid (IRowAt W g c q) := hr
    have HQw : Hid (Inc q c r) := hq
    have hvw := HVp.out.later hW
    have m0 := hvw.c0
    have m1 := hvw.c1
    have m2' := hvw.c2
    have hAw := HAp.out.later hW
    have x0 := hAw.c0
    have x1 := hAw.f0
    have x2 := hAw.c1
    have x3 := hAw.f1
    have HAw : Hid (Ans2 W (w.heap.size + 1) (.bool false) (.int .i64 0)) := hAw
    have hWs := hW.size
    clear hW hr hq hvw hAw
    by_cases hgd : Rk (m2 (pkf F q c) c c) c c
    · have HGd : Hid (Rk (m2 (pkf F q c) c c) c c) := hgd
      have HIn : Hid (Calls Try.prog 66 #[.agg #[.int .i64 (r : Int), .int .i64 (c : Int), (.slice a n k)], .slice (some ⟨g, 0, none⟩) c c] W fun e w' => e = .returned (.bool true) ∧ Below W.heap.size W w') := (indep_any W r c n k c a _ F q (HMp.out.later HWk.out) HRp.out HRw.out.il HQw.out.2).mono (fun _ _ h => by rcases h with ⟨h1, _, h3⟩ | ⟨_, h2, _⟩; exact ⟨h1, h3⟩; exact absurd HGd.out h2)
      clear hgd
      gi_wp2_with (refine ⟨trivial, ?_⟩; gi_at_call 66; refine (CallsIn.inRound l (callsIn_wide.2 HIn.out)).mono ?_; rintro e W2 ⟨rfl, hb2⟩; have HB2w : Hid (Below W.heap.size W W2) := hb2; clear hb2)
      exact ⟨HGd.out, two_below HWk.out HB2w.out, HB2w.out.size, fun j _ hj => HB2w.out.block j hj⟩
    · have HGd : Hid (¬ Rk (m2 (pkf F q c) c c) c c) := hgd
      have HIn : Hid (Calls Try.prog 66 #[.agg #[.int .i64 (r : Int), .int .i64 (c : Int), (.slice a n k)], .slice (some ⟨g, 0, none⟩) c c] W fun e w' => e = .returned (.bool false) ∧ Below W.heap.size W w') := (indep_any W r c n k c a _ F q (HMp.out.later HWk.out) HRp.out HRw.out.il HQw.out.2).mono (fun _ _ h => by rcases h with ⟨_, h2, _⟩ | ⟨h1, _, h3⟩; exact absurd h2 HGd.out; exact ⟨h1, h3⟩)
      clear hgd
      gi_wp2_with (refine ⟨trivial, ?_⟩; gi_at_call 66; refine (CallsIn.inRound l (callsIn_wide.2 HIn.out)).mono ?_; rintro e W2 ⟨rfl, hb2⟩; have HB2w : Hid (Below W.heap.size W W2) := hb2; have hA2 := HAw.out.later hb2; have HA2w : Hid (Ans2 W2 (w.heap.size + 1) (.bool false) (.int .i64 0)) := hA2; have y0 := hA2.c0; have y1 := hA2.f0; have y2 := hA2.c1; have y3 := hA2.f1; clear hb2 hA2)
      refine ⟨HGd.out, ⟨HA2w.out.put, ((two_below HBp.out (two_below HWk.out HB2w.out)).setCell (by show w.heap.size ≤ w.heap.size + 1; omega) _).setCell (by show w.heap.size ≤ w.heap.size + 1 + 1; omega) _⟩, ?_, fun j hj hj2 => ?_⟩
      · simpa using HB2w.out.size
      · rw [Below.heap_setCell _ _ _ _ (by show j ≠ w.heap.size + 1 + 1; omega), Below.heap_setCell _ _ _ _ (by show j ≠ w.heap.size + 1; omega)]
        exact HB2w.out.block j hj2
  case hdone =>
    intro D' W hD hW hall hdf
    have HWk : Hid (Below w5.heap.size w5 W) := hW
    have hAw := HAp.out.later hW
    have x0 := hAw.c0
    have x1 := hAw.f0
    have x2 := hAw.c1
    have x3 := hAw.f1
    have HAw : Hid (Ans2 W (w.heap.size + 1) (.bool false) (.int .i64 0)) := hAw
    have HAll : Hid (AI F r c) := HDp.out.mpr hall
    clear hW hall hAw
    go_wp2
    have hA9 := HAw.out.put (x' := .bool true) (y' := .int .i64 0)
    have hB9 : Below w.heap.size w ((W.setCell ⟨w.heap.size + 1, 0, none⟩ (.bool true)).setCell ⟨w.heap.size + 1 + 1, 0, none⟩ (.int .i64 0)) := ((two_below HBp.out HWk.out).setCell (by show w.heap.size ≤ w.heap.size + 1; omega) _).setCell (by show w.heap.size ≤ w.heap.size + 1 + 1; omega) _
    have hdf2 : ((W.setCell ⟨w.heap.size + 1, 0, none⟩ (.bool true)).setCell ⟨w.heap.size + 1 + 1, 0, none⟩ (.int .i64 0)).heap[D']? = some (.deferred (some [])) := by
      rw [Below.heap_setCell _ _ _ _ (by show D' ≠ w.heap.size + 1 + 1; omega), Below.heap_setCell _ _ _ _ (by show D' ≠ w.heap.size + 1; omega)]
      exact hdf
    have hA10 := hA9.grown (grownBy_putObj' _ D' (.deferred none)) (fun e => by cases e; omega) (fun e => by cases e; omega)
    have hB10 := hB9.grown (grownBy_putObj' _ D' (.deferred none)) hB9.size (fun g e => by cases e; omega)
    have d0 := hA10.c0
    have d1 := hA10.c1
    refine ⟨by simp, .inl ⟨_, _, rfl, run_takeDeferred hdf2, ?_⟩⟩
    refine ⟨.tuple #[.bool true, .int .i64 0], by simp [results, Try.results22, go_sem, d0, d1], ?_⟩
    exact .inl ⟨⟨rfl, hB10⟩, HAll.out⟩
  case hstop =>
    intro D' W hD hW hno hdf
    obtain ⟨hA, hB⟩ := hW
    have HNo : Hid (¬ AI F r c) := fun h => by
      obtain ⟨q, h1, h2⟩ := hno
      exact h2 (HDp.out.mp h q h1)
    clear hno
    gi_wp2
    have hA10 := hA.grown (grownBy_putObj' _ D' (.deferred none)) (fun e => by cases e; omega) (fun e => by cases e; omega)
    have hB10 := hB.grown (grownBy_putObj' _ D' (.deferred none)) hB.size (fun g e => by cases e; omega)
    have d0 := hA10.c0
    have d1 := hA10.c1
    refine ⟨by simp, .inl ⟨_, _, rfl, run_takeDeferred hdf, ?_⟩⟩
    refine ⟨.tuple #[.bool false, .int .i64 0], by simp [results, Try.results22, go_sem, d0, d1], ?_⟩
    exact .inr ⟨⟨rfl, hB10⟩, HNo.out⟩
set_option maxRecDepth 20000 in
set_option maxHeartbeats 4000000 in
theorem bmds_less (w : World) (r c n k : Nat) (a : Option Addr) (F : Nat → Nat) (ha : Mt w a n k F) (R : Rt r c n) (hcr : c ≤ r) (hb : bin r c ≤ 16384) (hk : Rk (m2 F r c) r c) (hKR : ∀ kr, c + kr = r → kr < c) : Calls Try.prog 22 #[mv r c a n k] w fun e w' => (MdsP w w' e true 0 ∧ AI F r c) ∨ (MdsP w w' e false 0 ∧ ¬ AI F r c) := by
  obtain ⟨wb, HW, HX⟩ : ∃ wb, Hid (wb = ((w.alloc (.cells #[.int .i64 (r : Int), .int .i64 (c : Int), .slice a n k] 24)).alloc (.cells #[.bool false] 4)).alloc (.cells #[.int .i64 0] 25)) ∧ Hid (Mb3 w wb (r : Int) (c : Int) n k a) := ⟨_, rfl, mb3 w (r : Int) (c : Int) n k a⟩
  have v0 := HX.out.va.c0
  have v1 := HX.out.va.c1
  have v2 := HX.out.va.c2
  have HA : Hid (Mt w a n k F) := ha
  have HR : Hid (Rt r c n) := R
  have hr64 := R.r64
  have hcl : (c : Int) ≤ (r : Int) := by omega
  have HCl : Hid ((c : Int) ≤ (r : Int)) := hcl
  clear ha R hcl
  have HMn : Hid (∀ w, Calls Try.prog 64 #[.int .i64 (r : Int), .int .i64 (c : Int)] w fun e w' => e = .returned (.bool false) ∧ w = w') := fun w => (many_any w r c hr64 hcr).mono (fun _ _ h => by rcases h with ⟨_, h2, _⟩ | ⟨h1, _, h3⟩; omega; exact ⟨h1, h3⟩)
  have HK : Hid (Rk (m2 F r c) r c) := hk
  clear hk
  refine (callsIn_wide (n := 4)).1 (callsIn_of_wp_marks Try.func22 rfl trivial ?_ rfl)
  simp only [Try.ntmps22, List.size_toArray, List.length_cons, List.length_nil, Nat.reduceAdd, Nat.reduceSub, Array.replicate_succ, Array.replicate_zero, List.push_toArray, List.append_toArray, List.nil_append, List.cons_append]
  refine wpIn_wide.2 ?_
  go_wp2_with (first
    | (go_at_call 65; have _x := HV4; refine (choices_any _ _ _).mono ?_; rintro e w5 ⟨rfl, n5, k5, hs5, hb5⟩; have HN5 : Hid (w5.cell? ⟨w4.heap.size, 0, none⟩ = some (.int .i64 (r : Int))) := n5; have HK5 : Hid (w5.cell? ⟨w4.heap.size + 1, 0, none⟩ = some (.int .i64 (kr : Int))) := k5; have HB5 : Hid (Below w4.heap.size w4 w5) := hb5; clear n5 k5 hs5 hb5)
    | (refine wpList_store_var rfl _ _ rfl w.heap.size _ _ _ (.int .i64 (r : Int)) (.int .i64 (kr : Int)) (.slice (some ⟨g3, 0, none⟩) N2 N2) rfl rfl HV3.out rfl rfl rfl ?_; intro w4 HV4 HG4; have e4_0 := HV4.out.c0; have e4_1 := HV4.out.c1; have e4_2 := HV4.out.c2)
    | (go_at_call 61; have _x := HB2; refine (mtrans_ok _ kr r N2 d2 s2 H HM2.out HRh.out).mono ?_; rintro e w3 ⟨g3, rfl, hr3, hg3, hb3⟩; have HM3 : Hid (Mt w3 (some ⟨g3, 0, none⟩) N2 N2 (trf H kr r)) := hr3.mt (trf_el4 HM2.out.sl.1 HRh.out); have HB3 : Hid (Below wb.heap.size wb w3) := two_below HB2.out hb3; have HV3 : Hid (Vr w3 w.heap.size (.int .i64 (r : Int)) (.int .i64 (c : Int)) (.slice a n k)) := HX.out.va.later HB3.out; have hg3b : wb.heap.size ≤ g3 := Nat.le_trans HB2.out.size hg3; clear hr3 hg3 hb3)
    | (go_at_call 20; refine (bchk_ok _ r c n k a F (HA.out.later (two_below HX.out.below HB1.out)) HR.out hcr HK.out).mono ?_; rintro e w2 ⟨s2, d2, kr, top, p, G, H, rfl, hm2, hR2, hS2, hp2, ek2, hH2, hf2, hb2⟩; obtain ⟨N2, HN2⟩ : ∃ x, Hid (kr * r = x) := ⟨_, rfl⟩; rw [HN2.out] at hm2 ⊢; have hkr := (kr_of HR.out HK.out hR2 hS2 hp2 ek2).1; have HDu : Hid (AI F r c ↔ AI (trf H kr r) r kr) := dual_all HA.out.sl.1 HR.out (by rw [HN2.out]; exact hm2.sl.1) hkr HK.out (fun Y hY => chk_iff hR2 hS2 hp2 ek2 hH2 hY); have HB2 : Hid (Below wb.heap.size wb (w2.alloc (.cells #[.int .i64 (kr : Int), .int .i64 (r : Int), .slice s2 N2 d2] 24))) := two_below (two_below HB1.out hb2) (alloc_low _ _); have HM2 : Hid (Mt (w2.alloc (.cells #[.int .i64 (kr : Int), .int .i64 (r : Int), .slice s2 N2 d2] 24)) s2 N2 d2 H) := hm2.later (alloc_low _ _); have HV2 : Hid (Vr (w2.alloc (.cells #[.int .i64 (kr : Int), .int .i64 (r : Int), .slice s2 N2 d2] 24)) w2.heap.size (.int .i64 (kr : Int)) (.int .i64 (r : Int)) (.slice s2 N2 d2)) := Vr.new w2 _ _ _; have HRh : Hid (Rt kr r N2) := ⟨(by omega), hr64, HN2.out⟩; have c2_0 := HV2.out.c0; have c2_1 := HV2.out.c1; have c2_2 := HV2.out.c2; have b2_0 := (HX.out.va.later HB2.out).c0; have b2_1 := (HX.out.va.later HB2.out).c1; have b2_2 := (HX.out.va.later HB2.out).c2; have hkr0 := hKR kr hkr; clear hm2 hR2 hS2 hp2 ek2 hH2 hf2 hb2)
    | (go_at_call 64; refine (HMn.out _).mono ?_; rintro e w' ⟨rfl, rfl⟩)
    | (go_at_call 53; rw [← HW.out]; refine (tall_yes _ _ _ _ _ _ HR.out.p HCl.out).mono ?_; rintro e w1 ⟨rfl, hb1⟩; have HB1 : Hid (Below wb.heap.size wb w1) := hb1; have HA1 : Hid (Ans2 w1 (w.heap.size + 1) (.bool false) (.int .i64 0)) := HX.out.ans.later hb1; have x1_0 := HA1.out.c0; have x1_1 := HA1.out.f0; have x1_2 := HA1.out.c1; have x1_3 := HA1.out.f1; have a1_0 := (HX.out.va.later hb1).c0; have a1_1 := (HX.out.va.later hb1).c1; have a1_2 := (HX.out.va.later hb1).c2; clear hb1))
  have HBp : Hid (Below w.heap.size w w5) := two_below (below_row (two_below HX.out.below HB3.out) HG4.out (Nat.le_refl _)) HB5.out
  have HVp : Hid (Vr w5 w.heap.size (.int .i64 (r : Int)) (.int .i64 (kr : Int)) (.slice (some ⟨g3, 0, none⟩) N2 N2)) := HV4.out.later HB5.out
  have hwb := HX.out.size
  have HMp : Hid (Mt w5 (some ⟨g3, 0, none⟩) N2 N2 (trf H kr r)) := (HM3.out.kept HG4.out (fun _ x hx e => by cases hx; have e2 : g3 = w.heap.size := e; omega)).later HB5.out
  have hA3 : Ans2 w3 (w.heap.size + 1) (.bool false) (.int .i64 0) := HX.out.ans.later HB3.out
  have HAp : Hid (Ans2 w5 (w.heap.size + 1) (.bool false) (.int .i64 0)) := (hA3.kept HG4.out (by omega) (by omega)).later HB5.out
  have HRp : Hid (Rt r kr N2) := rt_turn6 HRh.out
  have HDp : Hid (AI F r c ↔ AI (trf H kr r) r kr) := HDu.out
  have hs5 : w.heap.size + 1 + 1 < w5.heap.size := cell_lt HAp.out.c1
  have hkr64 : kr ≤ r := by omega
  refine (wpIn_wide (n := 4)).1 ?_
  refine range_choices (nn := 4) (k := kr) (N := r) (bn := w4.heap.size) (bc := w4.heap.size + 1) (fun W => Below w5.heap.size w5 W) (fun W => Ans2 W (w.heap.size + 1) (.bool false) (.int .i64 0) ∧ Below w.heap.size w W) (fun q => Rk (m2 (pkf (trf H kr r) q kr) kr kr) kr kr) (by omega) hr64 hkr64 rfl ?hKp ?hKx ?hKc (fun q s h hg => good_same h hg) (Below.refl _ _)
    (fun g => { tmps := #[mv (↑r) (↑c) a n k, Value.pointer (some { block := w.heap.size, off := 0 }), Value.pointer (some { block := w.heap.size + 1, off := 0 }), Value.pointer (some { block := w.heap.size + 1 + 1, off := 0 }), Value.pointer (some { block := w2.heap.size, off := 0 }), Value.int IntKind.i64 0, Value.slice (some ⟨g, 0, none⟩) kr kr, Value.bool false, Value.agg #[Value.int IntKind.i64 ↑r, Value.int IntKind.i64 ↑c, Value.slice a n k], Value.bool true, Value.bool false, Value.bool false, Value.pointer (some { block := w.heap.size, off := 0 }), Value.int IntKind.i64 ↑r, Value.pointer (some { block := w.heap.size, off := 1 }), Value.int IntKind.i64 ↑c, Value.bool false, Value.tuple #[mv (↑kr) (↑r) s2 N2 d2, Value.int IntKind.i64 0], Value.agg #[Value.int IntKind.i64 ↑r, Value.int IntKind.i64 ↑c, Value.slice a n k], Value.tuple #[mv (↑kr) (↑r) s2 N2 d2, Value.int IntKind.i64 0], mv (↑kr) (↑r) s2 N2 d2, Value.int IntKind.i64 0, Value.int IntKind.i64 0, Value.bool false, Value.pointer (some { block := w2.heap.size, off := 0 }), Value.int IntKind.i64 ↑kr, Value.pointer (some { block := w.heap.size, off := 1 }), Value.int IntKind.i64 ↑c, Value.bool true, Value.tuple #[mv (↑r) (↑kr) (some { block := g3, off := 0 }) N2 N2, Value.int IntKind.i64 0], Value.agg #[Value.int IntKind.i64 ↑kr, Value.int IntKind.i64 ↑r, Value.slice s2 N2 d2], Value.tuple #[mv (↑r) (↑kr) (some { block := g3, off := 0 }) N2 N2, Value.int IntKind.i64 0], mv (↑r) (↑kr) (some { block := g3, off := 0 }) N2 N2, Value.int IntKind.i64 0, Value.pointer (some { block := w.heap.size, off := 0 }), Value.int IntKind.i64 ↑r, Value.pointer (some { block := w.heap.size, off := 1 }), Value.int IntKind.i64 ↑kr, Value.func (Fn.func 92) #[] #[Value.pointer (some { block := w4.heap.size + 1, off := 0 }), Value.pointer (some { block := w4.heap.size, off := 0 })], Value.slice (some ⟨g, 0, none⟩) kr kr, undef, undef, undef, undef], defers := [] }) ?hassign ?hbody ?hdone ?hstop
  case hKp =>
    intro W W' row h hg hrow
    exact h.grown hg h.size hrow
  case hKx =>
    intro W W' row h hg hrow
    refine ⟨h.1.grown hg (fun e => by have := hrow _ e; omega) (fun e => by have := hrow _ e; omega), h.2.grown hg h.2.size (fun g e => by have := hrow g e; have := HBp.out.size; omega)⟩
  case hKc =>
    intro W h
    exact ⟨keepc h HN5.out, keepc h HK5.out⟩
  case hassign =>
    intro l g W K hK
    gi_wp2
    exact hK
  case hbody =>
    intro l g q W hW hr hq hg
    have HWk : Hid (Below w5.heap.size w5 W) := hW
    have HRw : Hid (IRowAt W g kr q) := hr
    have HQw : Hid (Inc q kr r) := hq
    have hvw := HVp.out.later hW
    have m0 := hvw.c0
    have m1 := hvw.c1
    have m2' := hvw.c2
    have hAw := HAp.out.later hW
    have x0 := hAw.c0
    have x1 := hAw.f0
    have x2 := hAw.c1
    have x3 := hAw.f1
    have HAw : Hid (Ans2 W (w.heap.size + 1) (.bool false) (.int .i64 0)) := hAw
    have hWs := hW.size
    clear hW hr hq hvw hAw
    by_cases hgd : Rk (m2 (pkf (trf H kr r) q kr) kr kr) kr kr
    · have HGd : Hid (Rk (m2 (pkf (trf H kr r) q kr) kr kr) kr kr) := hgd
      have HIn : Hid (Calls Try.prog 66 #[.agg #[.int .i64 (r : Int), .int .i64 (kr : Int), (.slice (some ⟨g3, 0, none⟩) N2 N2)], .slice (some ⟨g, 0, none⟩) kr kr] W fun e w' => e = .returned (.bool true) ∧ Below W.heap.size W w') := (indep_any W r kr N2 N2 kr (some ⟨g3, 0, none⟩) _ (trf H kr r) q (HMp.out.later HWk.out) HRp.out HRw.out.il HQw.out.2).mono (fun _ _ h => by rcases h with ⟨h1, _, h3⟩ | ⟨_, h2, _⟩; exact ⟨h1, h3⟩; exact absurd HGd.out h2)
      clear hgd
      gi_wp2_with (refine ⟨trivial, ?_⟩; gi_at_call 66; refine (CallsIn.inRound l (callsIn_wide.2 HIn.out)).mono ?_; rintro e W2 ⟨rfl, hb2⟩; have HB2w : Hid (Below W.heap.size W W2) := hb2; clear hb2)
      exact ⟨HGd.out, two_below HWk.out HB2w.out, HB2w.out.size, fun j _ hj => HB2w.out.block j hj⟩
    · have HGd : Hid (¬ Rk (m2 (pkf (trf H kr r) q kr) kr kr) kr kr) := hgd
      have HIn : Hid (Calls Try.prog 66 #[.agg #[.int .i64 (r : Int), .int .i64 (kr : Int), (.slice (some ⟨g3, 0, none⟩) N2 N2)], .slice (some ⟨g, 0, none⟩) kr kr] W fun e w' => e = .returned (.bool false) ∧ Below W.heap.size W w') := (indep_any W r kr N2 N2 kr (some ⟨g3, 0, none⟩) _ (trf H kr r) q (HMp.out.later HWk.out) HRp.out HRw.out.il HQw.out.2).mono (fun _ _ h => by rcases h with ⟨_, h2, _⟩ | ⟨h1, _, h3⟩; exact absurd h2 HGd.out; exact ⟨h1, h3⟩)
      clear hgd
      gi_wp2_with (refine ⟨trivial, ?_⟩; gi_at_call 66; refine (CallsIn.inRound l (callsIn_wide.2 HIn.out)).mono ?_; rintro e W2 ⟨rfl, hb2⟩; have HB2w : Hid (Below W.heap.size W W2) := hb2; have hA2 := HAw.out.later hb2; have HA2w : Hid (Ans2 W2 (w.heap.size + 1) (.bool false) (.int .i64 0)) := hA2; have y0 := hA2.c0; have y1 := hA2.f0; have y2 := hA2.c1; have y3 := hA2.f1; clear hb2 hA2)
      refine ⟨HGd.out, ⟨HA2w.out.put, ((two_below HBp.out (two_below HWk.out HB2w.out)).setCell (by show w.heap.size ≤ w.heap.size + 1; omega) _).setCell (by show w.heap.size ≤ w.heap.size + 1 + 1; omega) _⟩, ?_, fun j hj hj2 => ?_⟩
      · simpa using HB2w.out.size
      · rw [Below.heap_setCell _ _ _ _ (by show j ≠ w.heap.size + 1 + 1; omega), Below.heap_setCell _ _ _ _ (by show j ≠ w.heap.size + 1; omega)]
        exact HB2w.out.block j hj2
  case hdone =>
    intro D' W hD hW hall hdf
    have HWk : Hid (Below w5.heap.size w5 W) := hW
    have hAw := HAp.out.later hW
    have x0 := hAw.c0
    have x1 := hAw.f0
    have x2 := hAw.c1
    have x3 := hAw.f1
    have HAw : Hid (Ans2 W (w.heap.size + 1) (.bool false) (.int .i64 0)) := hAw
    have HAll : Hid (AI F r c) := HDp.out.mpr hall
    clear hW hall hAw
    go_wp2
    have hA9 := HAw.out.put (x' := .bool true) (y' := .int .i64 0)
    have hB9 : Below w.heap.size w ((W.setCell ⟨w.heap.size + 1, 0, none⟩ (.bool true)).setCell ⟨w.heap.size + 1 + 1, 0, none⟩ (.int .i64 0)) := ((two_below HBp.out HWk.out).setCell (by show w.heap.size ≤ w.heap.size + 1; omega) _).setCell (by show w.heap.size ≤ w.heap.size + 1 + 1; omega) _
    have hdf2 : ((W.setCell ⟨w.heap.size + 1, 0, none⟩ (.bool true)).setCell ⟨w.heap.size + 1 + 1, 0, none⟩ (.int .i64 0)).heap[D']? = some (.deferred (some [])) := by
      rw [Below.heap_setCell _ _ _ _ (by show D' ≠ w.heap.size + 1 + 1; omega), Below.heap_setCell _ _ _ _ (by show D' ≠ w.heap.size + 1; omega)]
      exact hdf
    have hA10 := hA9.grown (grownBy_putObj' _ D' (.deferred none)) (fun e => by cases e; omega) (fun e => by cases e; omega)
    have hB10 := hB9.grown (grownBy_putObj' _ D' (.deferred none)) hB9.size (fun g e => by cases e; omega)
    have d0 := hA10.c0
    have d1 := hA10.c1
    refine ⟨by simp, .inl ⟨_, _, rfl, run_takeDeferred hdf2, ?_⟩⟩
    refine ⟨.tuple #[.bool true, .int .i64 0], by simp [results, Try.results22, go_sem, d0, d1], ?_⟩
    exact .inl ⟨⟨rfl, hB10⟩, HAll.out⟩
  case hstop =>
    intro D' W hD hW hno hdf
    obtain ⟨hA, hB⟩ := hW
    have HNo : Hid (¬ AI F r c) := fun h => by
      obtain ⟨q, h1, h2⟩ := hno
      exact h2 (HDp.out.mp h q h1)
    clear hno
    gi_wp2
    have hA10 := hA.grown (grownBy_putObj' _ D' (.deferred none)) (fun e => by cases e; omega) (fun e => by cases e; omega)
    have hB10 := hB.grown (grownBy_putObj' _ D' (.deferred none)) hB.size (fun g e => by cases e; omega)
    have d0 := hA10.c0
    have d1 := hA10.c1
    refine ⟨by simp, .inl ⟨_, _, rfl, run_takeDeferred hdf, ?_⟩⟩
    refine ⟨.tuple #[.bool false, .int .i64 0], by simp [results, Try.results22, go_sem, d0, d1], ?_⟩
    exact .inr ⟨⟨rfl, hB10⟩, HNo.out⟩
/-- MDS's answer, of every matrix. -/
theorem bmds_any (w : World) (r c n k : Nat) (a : Option Addr) (F : Nat → Nat) (ha : Mt w a n k F) (R : Rt r c n) (hcr : c ≤ r) (hb : bin r c ≤ 16384) : Calls Try.prog 22 #[mv r c a n k] w fun e w' => (MdsP w w' e true 0 ∧ AI F r c) ∨ (MdsP w w' e false 0 ∧ ¬ AI F r c) := by
  obtain ⟨t, ht⟩ := rk_ex (m2_el ha.sl.1 R) r
  have htc : t ≤ c := rk_cols ha.sl.1 R ht
  by_cases hq : t = c
  · subst hq
    by_cases hl : r - t < t
    · exact bmds_less w r t n k a F ha R hcr hb ht (fun kr h => by omega)
    · exact bmds_more w r t n k a F ha R hcr hb ht (fun kr h => by omega)
  · exact (bmds_sing w r c n k t a F ha R hcr hb ht (by omega)).mono (fun _ _ h => .inr ⟨h, ai_sing ha.sl.1 R hcr ht (by omega)⟩)
end Go.Proofs.Ytblfldjlehjnbaa

namespace Go.Proofs.Ytblfldjlehjnbaa
open Go.RowKit
theorem Il.irow {w : World} {g n : Nat} {q : Nat → Nat} (h : IRowAt w g n q) : Il w (some ⟨g, 0, none⟩) n (fun i => (q i : Int)) := h.il
set_option maxRecDepth 20000 in
set_option maxHeartbeats 2000000 in
theorem rmds_bad (w : World) (r c : Int) (n k : Nat) (a : Option Addr) (h : ¬ (RightP r c n ∧ c ≤ r)) : Calls Try.prog 23 #[mv r c a n k] w fun e w' => MdsP w w' e false 3 := by
  have va := Vr.new w (.int .i64 r) (.int .i64 c) (.slice a n k)
  have HVa : Hid (Vr (w.alloc (.cells #[.int .i64 r, .int .i64 c, .slice a n k] 24)) w.heap.size (.int .i64 r) (.int .i64 c) (.slice a n k)) := va
  clear va
  by_cases h1 : RightP r c n
  · have HR1 : Hid (RightP r c n) := h1
    have g1 : decide (r < c) = true := by simp; exact Int.not_le.mp (fun x => h ⟨h1, x⟩)
    clear h h1
    go_enter Try.func23, Try.ntmps23
    go_wp2_with (go_at_call 30; refine (right_yes _ _ _ _ _ _ HR1.out).mono ?_; rintro e w1 ⟨rfl, hb1⟩; have HB1 : Hid (Below w.heap.size w w1) := two_below (alloc_low _ _) hb1; have a0 := (HVa.out.later hb1).c0; have a1 := (HVa.out.later hb1).c1; clear hb1)
    go_ret2
    exact ⟨rfl, HB1.out⟩
  · have HR1 : Hid (¬ RightP r c n) := h1
    clear h h1
    go_enter Try.func23, Try.ntmps23
    go_wp2_with (go_at_call 30; refine (right_no _ _ _ _ _ _ HR1.out).mono ?_; rintro e w1 ⟨rfl, hb1⟩; have HB1 : Hid (Below w.heap.size w w1) := two_below (alloc_low _ _) hb1; clear hb1)
    go_ret2
    exact ⟨rfl, HB1.out⟩
set_option maxRecDepth 20000 in
set_option maxHeartbeats 2000000 in
theorem rmds_many (w : World) (r c n k : Nat) (a : Option Addr) (R : Rt r c n) (hcr : c ≤ r) (hb : 16384 < bin r c) : Calls Try.prog 23 #[mv r c a n k] w fun e w' => MdsP w w' e false 4 := by
  have HVa : Hid (Vr (w.alloc (.cells #[.int .i64 (r : Int), .int .i64 (c : Int), .slice a n k] 24)) w.heap.size (.int .i64 (r : Int)) (.int .i64 (c : Int)) (.slice a n k)) := Vr.new w _ _ _
  have HR : Hid (Rt r c n) := R
  have hr64 := R.r64
  have hc64 := R.c64
  have g1 : decide ((r : Int) < (c : Int)) = false := by simp; omega
  have HCh : Hid (∀ w, Calls Try.prog 67 #[.int .i64 (r : Int), .int .i64 (c : Int), .int .i64 16384] w fun e w' => e = .returned (.int .i64 16385) ∧ Below w.heap.size w w') := fun w => rchoose_any w r c 16384 16385 16385 hr64 hc64 (by omega) rfl (by show min 16385 (bin r c) = 16385; omega)
  clear R
  go_enter Try.func23, Try.ntmps23
  go_wp2_with (first
    | (go_at_call 30; refine (right_yes _ _ _ _ _ _ HR.out.p).mono ?_; rintro e w1 ⟨rfl, hb1⟩; have HB1 : Hid (Below w.heap.size w w1) := two_below (alloc_low _ _) hb1; have a0 := (HVa.out.later hb1).c0; have a1 := (HVa.out.later hb1).c1; clear hb1)
    | (go_at_call 67; refine (HCh.out _).mono ?_; rintro e w2 ⟨rfl, hb2⟩; have HB2 : Hid (Below w.heap.size w w2) := two_below HB1.out hb2; clear hb2))
  go_ret2
  exact ⟨rfl, HB2.out⟩
/-- The choice is changed from a place on, up to another. -/
def upn (q : Nat → Nat) (i t p : Nat) : Nat := if p < t then nxt q i p else q p
set_option maxRecDepth 20000 in
set_option maxHeartbeats 4000000 in
theorem rmds_main (w : World) (r c n k : Nat) (a : Option Addr) (F : Nat → Nat) (ha : Mt w a n k F) (R : Rt r c n) (hcr : c ≤ r) (hb : bin r c ≤ 16384) : Calls Try.prog 23 #[mv r c a n k] w fun e w' => (MdsP w w' e true 0 ∧ AI F r c) ∨ (MdsP w w' e false 0 ∧ ¬ AI F r c) := by
  obtain ⟨i0, hi0, hz0, hz1, hz2⟩ := info_parts infoI
  obtain ⟨N, HN⟩ : ∃ N, Hid (c * c = N) := ⟨_, rfl⟩
  have HVa : Hid (Vr (w.alloc (.cells #[.int .i64 (r : Int), .int .i64 (c : Int), .slice a n k] 24)) w.heap.size (.int .i64 (r : Int)) (.int .i64 (c : Int)) (.slice a n k)) := Vr.new w _ _ _
  have HA : Hid (Mt w a n k F) := ha
  have HR : Hid (Rt r c n) := R
  have hr64 := R.r64
  have hc64 := R.c64
  have HC : Hid (Rt c c N) := ⟨R.c64, R.c64, HN.out⟩
  have hml : c ≤ maxLen := by unfold maxLen; omega
  have g1 : decide ((r : Int) < (c : Int)) = false := by simp; omega
  obtain ⟨B, HBn⟩ : ∃ B, Hid (min 16385 (bin r c) = B) := ⟨_, rfl⟩
  have hB : B ≤ 16384 := by rw [← HBn.out]; omega
  have g2 : decide ((16384 : Int) < (B : Int)) = false := by simp; omega
  have HCh : Hid (∀ w, Calls Try.prog 67 #[.int .i64 (r : Int), .int .i64 (c : Int), .int .i64 16384] w fun e w' => e = .returned (.int .i64 (B : Int)) ∧ Below w.heap.size w w') := fun w => rchoose_any w r c 16384 16385 B hr64 hc64 (by omega) rfl HBn
  have e1 : IntKind.i64.wrap ((c : Int) - 1) = (c : Int) - 1 := by rw [IntKind.wrap_i64]; omega
  have e2 : IntKind.i64.wrap ((r : Int) - (c : Int)) = (r : Int) - (c : Int) := by rw [IntKind.wrap_i64]; omega
  clear ha R
  go_enter Try.func23, Try.ntmps23
  go_wp2_with (first
    | (go_at_call 30; refine (right_yes _ _ _ _ _ _ HR.out.p).mono ?_; rintro e w1 ⟨rfl, hb1⟩; have HB1 : Hid (Below w.heap.size w w1) := two_below (alloc_low _ _) hb1; have HV1 : Hid (Vr w1 w.heap.size (.int .i64 (r : Int)) (.int .i64 (c : Int)) (.slice a n k)) := HVa.out.later hb1; have a0 := HV1.out.c0; have a1 := HV1.out.c1; clear hb1)
    | (go_at_call 67; refine (HCh.out _).mono ?_; rintro e w2 ⟨rfl, hb2⟩; have HB2 : Hid (Below w.heap.size w w2) := two_below HB1.out hb2; have HV2 : Hid (Vr w2 w.heap.size (.int .i64 (r : Int)) (.int .i64 (c : Int)) (.slice a n k)) := HV1.out.later hb2; have b0 := HV2.out.c0; have b1 := HV2.out.c1; clear hb2)
    | (at_make; refine wpList_make_full _ rfl _ _ 43 rfl w2.heap.size 3 i0 (.int .i64 0) 1 Try.underlying43 hi0 hz0 hz1 .i64 .i64 _ _ c rfl rfl rfl rfl (by rw [hz2]; omega) hml (Nat.le_refl _) ?_; intro w3 hown hgrow; have HO3 : Hid (IRowAt w3 w2.heap.size c (fun _ => 0)) := made_iat hown; have HB3 : Hid (Below w2.heap.size w2 w3) := grown_none.mp hgrow; clear hown hgrow))
  have hw2 : w.heap.size < w2.heap.size := HV2.out.lt
  go_loopw [5] (fun si wr => ∃ i : Nat, i ≤ c ∧ si = .int .i64 (i : Int) ∧ IRowAt wr w2.heap.size c (upi i) ∧ Below w2.heap.size w2 wr) (fun si _ => c - (intOf si).toNat)
  case atStart => exact ⟨0, by omega, rfl, HO3.out.congr (fun p _ => by unfold upi; rw [if_neg (by omega)]), HB3.out⟩
  case round =>
    clear HO3 HB3
    obtain ⟨i, hi, rfl, hr, hb4⟩ := hrel
    have HRw : Hid (IRowAt wr w2.heap.size c (upi i)) := hr
    have HB4 : Hid (Below w2.heap.size w2 wr) := hb4
    clear hr hb4
    by_cases hlt : i < c
    · have hc := HRw.out.cell i hlt
      have hf := HRw.out.free i
      have q0 : (0 : Int) ≤ (i : Int) := by omega
      have q1 : (i : Int) < (c : Int) := by omega
      go_wp2
      refine ⟨⟨i + 1, by omega, by go_num, (HRw.out.set i i).congr (fun p _ => ?_), HB4.out.setCell (Nat.le_refl _) _⟩, by simp [intOf]; omega⟩
      unfold upi
      by_cases e : p = i
      · rw [if_pos e, if_pos (by omega), e]
      · rw [if_neg e]
        by_cases e2 : p < i
        · rw [if_pos e2, if_pos (by omega)]
        · rw [if_neg e2, if_neg (by omega)]
    · obtain rfl : i = c := by omega
      have HRs : Hid (IRowAt wr w2.heap.size i (fun p => p)) := HRw.out.congr (fun p hp => by unfold upi; rw [if_pos hp])
      clear HRw
      go_wp2
      go_loopw [8] (fun _ wr => ∃ q : Nat → Nat, IRowAt wr w2.heap.size i q ∧ Inc q i r ∧ Below w2.heap.size w2 wr ∧ ∀ s, Inc s i r → vl r s i < vl r q i → Rk (m2 (pkf F s i) i i) i i) (fun _ wr => r ^ i - vl r (qof wr w2.heap.size) i)
      case atStart => exact ⟨fun p => p, HRs.out, inc_first hcr, HB4.out, fun s hs hl => absurd hl (by have := hs.first; omega)⟩
      case round =>
        clear HRs HB4
        obtain ⟨q, hr, hq, hb5, hgs⟩ := hrel
        have HRw : Hid (IRowAt wr w2.heap.size i q) := hr
        have HQ : Hid (Inc q i r) := hq
        have HB5 : Hid (Below w2.heap.size w2 wr) := hb5
        have HGs : Hid (∀ s, Inc s i r → vl r s i < vl r q i → Rk (m2 (pkf F s i) i i) i i) := hgs
        clear hr hq hb5 hgs
        have hv5 := HV2.out.later HB5.out
        have m0 := hv5.c0
        have m1 := hv5.c1
        have m2' := hv5.c2
        have HBw : Hid (Below w.heap.size w wr) := two_below HB2.out HB5.out
        have HPk : Hid (∀ p, p < N → pkf F q i p < 256) := by rw [← HN.out]; exact pkf_el HA.out.sl.1 HR.out HQ.out.2
        have hel := m2_el HPk.out HC.out
        obtain ⟨t, ht⟩ := rk_ex hel i
        have htc : t ≤ i := ht.le (Le.refl hel i)
        have HT : Hid (Rk (m2 (pkf F q i) i i) i t) := ht
        have HEl : Hid (El2 (m2 (pkf F q i) i i)) := hel
        clear ht hel hv5
        by_cases hgd : t = i
        · subst hgd
          have gt : decide ((t : Int) < (t : Int)) = false := by simp
          go_wp2_with (first
            | (go_at_call 26; refine (rpick_ok _ r t n k t t N a (some ⟨w2.heap.size, 0, none⟩) F q (HA.out.later HBw.out).sl HR.out HRw.out.il HQ.out.2 hc64 HN).mono ?_; rintro e w6 ⟨s6, d6, rfl, ho6, hb6⟩; have HM6 : Hid (Mt (w6.alloc (.cells #[.int .i64 (t : Int), .int .i64 (t : Int), .slice s6 N d6] 24)) s6 N d6 (pkf F q t)) := (own_mt4 ho6 HPk.out).later (alloc_low _ _); have HB6 : Hid (Below wr.heap.size wr (w6.alloc (.cells #[.int .i64 (t : Int), .int .i64 (t : Int), .slice s6 N d6] 24))) := two_below hb6 (alloc_low _ _); clear ho6 hb6)
            | (go_at_call 27; refine (rrank_ok _ t t N d6 s6 _ HM6.out.sl HM6.out.nil HC.out).mono ?_; rintro e w7 ⟨u, rfl, hk7, hb7⟩; have eu : u = t := hk7.uniq HEl.out HT.out; subst eu; have HB7 : Hid (Below wr.heap.size wr w7) := two_below HB6.out hb7; have HV7 : Hid (Vr w7 w.heap.size (.int .i64 (r : Int)) (.int .i64 (u : Int)) (.slice a n k)) := (HV2.out.later HB5.out).later HB7.out; have z0 := HV7.out.c0; have z1 := HV7.out.c1; have HR7 : Hid (IRowAt w7 w2.heap.size u q) := HRw.out.later HB7.out; have HB8 : Hid (Below w2.heap.size w2 w7) := two_below HB5.out HB7.out; clear hk7 hb7))
          go_loopw [10] (fun si wr => ∃ v : Nat, v ≤ u ∧ si = .int .i64 ((v : Int) - 1) ∧ (∀ p, v ≤ p → p < u → q p + u = r + p) ∧ Below w7.heap.size w7 wr) (fun si _ => (intOf si + 1).toNat)
          case atStart => exact ⟨u, Nat.le_refl _, rfl, fun p h1 h2 => by omega, Below.refl _ _⟩
          case round =>
            obtain ⟨v, hv, rfl, hl, hb9⟩ := hrel
            have HL : Hid (∀ p, v ≤ p → p < u → q p + u = r + p) := hl
            have HB9 : Hid (Below w7.heap.size w7 wr) := hb9
            clear hl hb9
            cases v with
            | zero =>
              have e0 : ((0 : Nat) : Int) - 1 = -1 := rfl
              rw [e0]
              go_wp2
              go_region
              go_wp2
              go_ret2
              refine .inl ⟨⟨rfl, two_below (two_below HBw.out HB7.out) HB9.out.drew⟩, fun s hs => ?_⟩
              have h1 := Inc.last hs (fun t ht => HL.out t (Nat.zero_le _) ht)
              by_cases e : vl r s u < vl r q u
              · exact HGs.out s hs e
              · exact good_same (fun t ht => (vl_same (n := r) (k := u) HQ.out.2 hs.2 (by omega)) t ht) HT.out
            | succ j =>
              have e0 : ((j + 1 : Nat) : Int) - 1 = (j : Int) := by omega
              rw [e0]
              have hj : j < u := hv
              have HRc : Hid (IRowAt wr w2.heap.size u q) := HR7.out.later HB9.out
              have hc := HRc.out.cell j hj
              have hle := HQ.out.le hj
              obtain ⟨x, HX⟩ : ∃ x, Hid (q j = x) := ⟨_, rfl⟩
              rw [HX.out] at hc hle
              have p0 := (HV7.out.later HB9.out).c0
              have e4 : IntKind.i64.wrap ((r : Int) - (u : Int) + (j : Int)) = (r : Int) - (u : Int) + (j : Int) := by rw [IntKind.wrap_i64]; omega
              have q0 : (0 : Int) ≤ (j : Int) := by omega
              have q1 : (j : Int) < (u : Int) := by omega
              by_cases hx : x + u = r + j
              · have gx : (x : Int) = (r : Int) - (u : Int) + (j : Int) := by omega
                have gd : decide ((x : Int) = (r : Int) - (u : Int) + (j : Int)) = true := by simp; omega
                clear gx
                go_wp2
                go_region
                go_wp2
                refine ⟨⟨j, by omega, rfl, fun p h1 h2 => ?_, HB9.out.drew⟩, by simp [intOf]⟩
                by_cases e : p = j
                · rw [e, HX.out]; exact hx
                · exact HL.out p (by omega) h2
              · have gd : decide ((x : Int) = (r : Int) - (u : Int) + (j : Int)) = false := by simp; omega
                have fj := HRc.out.free j
                have HRd : Hid (IRowAt (wr.setCell ⟨w2.heap.size, j, none⟩ (.int .i64 ((x + 1 : Nat) : Int))) w2.heap.size u (fun p => if p = j then x + 1 else q p)) := HRc.out.set j (x + 1)
                have w1x : IntKind.i64.wrap ((x : Int) + 1) = ((x + 1 : Nat) : Int) := by rw [IntKind.wrap_i64]; omega
                have w1j : IntKind.i64.wrap ((j : Int) + 1) = ((j + 1 : Nat) : Int) := by rw [IntKind.wrap_i64]; omega
                have HB10 : Hid (Below w2.heap.size w2 wr) := two_below HB8.out HB9.out
                go_wp2
                go_region
                go_wp2
                go_loopw [11] (fun sk wr => ∃ v : Nat, j + 1 ≤ v ∧ v ≤ u ∧ sk = .int .i64 (v : Int) ∧ IRowAt wr w2.heap.size u (upn q j v) ∧ Below w2.heap.size w2 wr) (fun sk _ => u - (intOf sk).toNat)
                case atStart =>
                  refine ⟨j + 1, Nat.le_refl _, by omega, rfl, HRd.out.congr (fun p _ => ?_), (HB10.out.setCell (Nat.le_refl _) _).drew⟩
                  unfold upn nxt
                  by_cases e : p = j
                  · rw [if_pos e, if_pos (by omega), if_neg (by omega), HX.out, e, Nat.sub_self]
                  · rw [if_neg e]
                    by_cases e2 : p < j
                    · rw [if_pos (by omega), if_pos e2]
                    · rw [if_neg (by omega)]
                case round =>
                  obtain ⟨v, hv1, hv2, rfl, hr, hb11⟩ := hrel
                  have HRv : Hid (IRowAt wr w2.heap.size u (upn q j v)) := hr
                  have HB11 : Hid (Below w2.heap.size w2 wr) := hb11
                  clear hr hb11 HRd hc fj p0
                  by_cases hlt2 : v < u
                  · have hy1 : upn q j v (v - 1) = x + (v - j) := by
                      unfold upn nxt
                      rw [if_pos (by omega), if_neg (by omega), HX.out]
                      omega
                    obtain ⟨y, HY⟩ : ∃ y, Hid (x + (v - j) = y) := ⟨_, rfl⟩
                    have hy := HY.out
                    have hc := HRv.out.cell (v - 1) (by omega)
                    rw [hy1, hy] at hc
                    clear hy1
                    have fv := HRv.out.free v
                    have cv := HRv.out.cell v hlt2
                    obtain ⟨z, HZ⟩ : ∃ z, Hid (upn q j v v = z) := ⟨_, rfl⟩
                    rw [HZ.out] at cv
                    have e5 : IntKind.i64.wrap ((v : Int) - 1) = (v : Int) - 1 := by rw [IntKind.wrap_i64]; omega
                    have e6 : ((v : Int) - 1).toNat = v - 1 := by omega
                    have q2 : (0 : Int) ≤ (v : Int) - 1 := by omega
                    have q3 : (v : Int) - 1 < (u : Int) := by omega
                    have q4 : (0 : Int) ≤ (v : Int) := by omega
                    have q5 : (v : Int) < (u : Int) := by omega
                    have w1y : IntKind.i64.wrap ((y : Int) + 1) = ((y + 1 : Nat) : Int) := by rw [IntKind.wrap_i64]; omega
                    have w1v : IntKind.i64.wrap ((v : Int) + 1) = ((v + 1 : Nat) : Int) := by rw [IntKind.wrap_i64]; omega
                    go_wp2
                    refine ⟨⟨v + 1, by omega, by omega, rfl, (HRv.out.set v (y + 1)).congr (fun p _ => ?_), HB11.out.setCell (Nat.le_refl _) _⟩, by simp [intOf]; omega⟩
                    unfold upn
                    by_cases e : p = v
                    · unfold nxt
                      rw [if_pos e, if_pos (by omega), if_neg (by omega), HX.out]
                      omega
                    · rw [if_neg e]
                      by_cases e2 : p < v
                      · rw [if_pos e2, if_pos (by omega)]
                      · rw [if_neg e2, if_neg (by omega)]
                  · obtain rfl : v = u := by omega
                    have HRe : Hid (IRowAt wr w2.heap.size v (nxt q j)) := HRv.out.congr (fun p hp => by unfold upn; rw [if_pos hp])
                    clear HRv
                    obtain ⟨n1, n2, n3⟩ := HQ.out.next hj (by rw [HX.out]; omega) (fun t h1 h2 => HL.out t h1 h2)
                    have HN1 := hid_of n1
                    have HN2 := hid_of n2
                    have HN3 := hid_of n3
                    clear n1 n2 n3
                    go_wp2
                    refine ⟨⟨nxt q j, HRe.out, HN1.out, HB11.out, fun s hs hl2 => ?_⟩, ?_⟩
                    · have h1 := HN3.out s hs hl2
                      by_cases e : vl r s v < vl r q v
                      · exact HGs.out s hs e
                      · exact good_same (fun t ht => (vl_same (n := r) (k := v) HQ.out.2 hs.2 (by omega)) t ht) HT.out
                    · have := vl_lt (n := r) (q := nxt q j) (k := v) HN1.out.2
                      have h2 := HN2.out
                      rw [vl_qof HRe.out, vl_qof HRw.out]
                      omega
        · have gt : decide ((t : Int) < (i : Int)) = true := by simp; omega
          go_wp2_with (first
            | (go_at_call 26; refine (rpick_ok _ r i n k i i N a (some ⟨w2.heap.size, 0, none⟩) F q (HA.out.later HBw.out).sl HR.out HRw.out.il HQ.out.2 hc64 HN).mono ?_; rintro e w6 ⟨s6, d6, rfl, ho6, hb6⟩; have HM6 : Hid (Mt (w6.alloc (.cells #[.int .i64 (i : Int), .int .i64 (i : Int), .slice s6 N d6] 24)) s6 N d6 (pkf F q i)) := (own_mt4 ho6 HPk.out).later (alloc_low _ _); have HB6 : Hid (Below wr.heap.size wr (w6.alloc (.cells #[.int .i64 (i : Int), .int .i64 (i : Int), .slice s6 N d6] 24))) := two_below hb6 (alloc_low _ _); clear ho6 hb6)
            | (go_at_call 27; refine (rrank_ok _ i i N d6 s6 _ HM6.out.sl HM6.out.nil HC.out).mono ?_; rintro e w7 ⟨u, rfl, hk7, hb7⟩; have eu : u = t := hk7.uniq HEl.out HT.out; subst eu; have HB7 : Hid (Below wr.heap.size wr w7) := two_below HB6.out hb7; have hv7 := (HV2.out.later HB5.out).later HB7.out; have z0 := hv7.c0; have z1 := hv7.c1; clear hk7 hb7 hv7))
          go_ret2
          exact .inr ⟨⟨rfl, two_below HBw.out HB7.out⟩, fun x => hgd (HT.out.uniq HEl.out (x q HQ.out))⟩
end Go.Proofs.Ytblfldjlehjnbaa

namespace Go.Proofs.Ytblfldjlehjnbaa
open Go.RowKit
theorem ker_ans (r c : Nat) (F : Nat → Nat) : ∃ (R C : Int) (N : Nat) (f : Nat → Nat) (E : Int), ∀ (w w' : World) (e : Ending), KerP w w' e r c F → MAns w w' e R C N f E := by
  by_cases hx : ∃ w w' e, KerP w w' e r c F
  · obtain ⟨_, _, _, s, d, kr, top, p, G, H, _, _, hR, hS, _, hk, hH, _⟩ := hx
    refine ⟨kr, c, kr * c, H, 0, fun w w' e h => ?_⟩
    obtain ⟨s2, d2, kr2, top2, p2, G2, H2, he, hm, hR2, hS2, _, hk2, hH2, hb⟩ := h
    obtain ⟨rfl, e2⟩ := ker_same hR2 hS2 hR hS hk2 hk hH2 hH
    exact ⟨s2, d2, he, hm.congr e2, hb⟩
  · exact ⟨0, 0, 0, fun _ => 0, 0, fun w w' e h => absurd ⟨w, w', e, h⟩ hx⟩
theorem chk_pair (r c : Int) (n : Nat) (F : Nat → Nat) (hF : ∀ i, i < n → F i < 256) : ∃ (R C : Int) (N : Nat) (f : Nat → Nat) (E : Int), ∀ (w : World) (k : Nat) (a : Option Addr), Mt w a n k F →
    Calls Try.prog 20 #[mv r c a n k] w (fun e w' => MAns w w' e R C N f E) ∧ Calls Try.prog 21 #[mv r c a n k] w (fun e w' => MAns w w' e R C N f E) := by
  by_cases h : RightP r c n ∧ c ≤ r
  · obtain ⟨h1, h2⟩ := h
    obtain ⟨ra, ca, rfl, rfl, R⟩ := right_rt h1
    have hcr : ca ≤ ra := by omega
    obtain ⟨t, ht⟩ := rk_ex (m2_el hF R) ra
    have htc : t ≤ ca := rk_cols hF R ht
    by_cases hq : t = ca
    · subst hq
      obtain ⟨R1, C1, N1, f1, E1, hA⟩ := ker_ans t ra (trf F ra t)
      refine ⟨R1, C1, N1, f1, E1, fun w k a ha => ⟨(bchk_ok w ra t n k a F ha R hcr ht).mono (fun e w' h => hA w w' e ?_), (rchk_ok w ra t n k a F ha R hcr ht).mono (fun e w' h => hA w w' e ?_)⟩⟩
      · obtain ⟨s, d, kr, top, p, G, H, h1, h2, h3, h4, h5, h6, h7, _, h8⟩ := h
        exact ⟨s, d, kr, top, p, G, H, h1, h2, h3, h4, h5, h6, h7, h8⟩
      · obtain ⟨s, d, kr, top, p, G, H, h1, h2, _, h3, h4, h5, h6, h7, h8⟩ := h
        exact ⟨s, d, kr, top, p, G, H, h1, h2, h3, h4, h5, h6, h7, h8⟩
    · exact ⟨_, _, _, _, _, fun w k a ha => ⟨(bchk_sing w ra ca n k t a F ha R hcr ht (by omega)).mono (fun _ _ h => mans_bad h), (rchk_sing w ra ca n k t a F ha R hcr ht (by omega)).mono (fun _ _ h => mans_bad h)⟩⟩
  · exact ⟨_, _, _, _, _, fun w k a _ => ⟨(bchk_bad w r c n k a h).mono (fun _ _ h => mans_bad h), (rchk_bad w r c n k a h).mono (fun _ _ h => mans_bad h)⟩⟩
theorem mds_pair (r c : Int) (n : Nat) (F : Nat → Nat) : ∃ (x : Bool) (E : Int), ∀ (w : World) (k : Nat) (a : Option Addr), Mt w a n k F →
    Calls Try.prog 22 #[mv r c a n k] w (fun e w' => MdsP w w' e x E) ∧ Calls Try.prog 23 #[mv r c a n k] w (fun e w' => MdsP w w' e x E) := by
  by_cases h : RightP r c n ∧ c ≤ r
  · obtain ⟨h1, h2⟩ := h
    obtain ⟨ra, ca, rfl, rfl, R⟩ := right_rt h1
    have hcr : ca ≤ ra := by omega
    by_cases hb : 16384 < bin ra ca
    · exact ⟨false, 4, fun w k a ha => ⟨bmds_many w ra ca n k a F ha R hcr hb, rmds_many w ra ca n k a R hcr hb⟩⟩
    · have hb2 : bin ra ca ≤ 16384 := Nat.not_lt.mp hb
      by_cases hA : AI F ra ca
      · exact ⟨true, 0, fun w k a ha => ⟨(bmds_any w ra ca n k a F ha R hcr hb2).mono (fun _ _ h => h.elim (·.1) (fun x => absurd hA x.2)), (rmds_main w ra ca n k a F ha R hcr hb2).mono (fun _ _ h => h.elim (·.1) (fun x => absurd hA x.2))⟩⟩
      · exact ⟨false, 0, fun w k a ha => ⟨(bmds_any w ra ca n k a F ha R hcr hb2).mono (fun _ _ h => h.elim (fun x => absurd x.2 hA) (·.1)), (rmds_main w ra ca n k a F ha R hcr hb2).mono (fun _ _ h => h.elim (fun x => absurd x.2 hA) (·.1))⟩⟩
  · exact ⟨false, 3, fun w k a _ => ⟨bmds_bad w r c n k a h, rmds_bad w r c n k a h⟩⟩
end Go.Proofs.Ytblfldjlehjnbaa
