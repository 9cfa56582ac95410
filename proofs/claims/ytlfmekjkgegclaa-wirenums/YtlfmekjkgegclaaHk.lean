/-
  Contracts of the wire's reference: All, Like.
-/
import Derived.Test.YtlfmekjkgegclaaHj
namespace Go.Proofs.Ytlfmekjkgegclaa
open Go.RowKit
/-- The body of a chunk that All tells. -/
def bdf (f pos s : Nat → Nat) (i j : Nat) : Nat := f (pos i + (1 + (s i + j)))
/-- What All answers. -/
def AllP (w w' : World) (e : Ending) (f : Nat → Nat) (k : Nat) (pos v s : Nat → Nat) (E : Nat) : Prop :=
  ∃ x : Value, e = .returned (.tuple #[x, .int .i64 (pos k : Nat), .int .i64 (E : Int)]) ∧ (E = 0 → ∃ S, Cls w' w.heap.size x k (fun i => f (pos i)) v (bdf f pos s) S) ∧ (E ≠ 0 → x = .slice none 0 0) ∧ Below w.heap.size w w'
theorem cls_more {w w1 w6 : World} {i q y m n' : Nat} {v' vl : Value} {sx : Option Addr} {dx : Nat} {f pos v s : Nat → Nat} {S : Nat → Value} {xs : Obj} {ys : Obj} (hC : Cls w1 w.heap.size vl i (fun i => f (pos i)) v (bdf f pos s) S) (hO : Jo w1 w.heap.size 5 .u8 (.slice sx m dx) m (bdf f pos s i)) (hB : Below w.heap.size w w1)
    (hq : pos i = q) (hy : f q = y) (hm : v i = m) (hown : w6.ownsRow w.heap.size 46 2 v' n' (crow (fun i => f (pos i)) S i ++ [.int .u8 (y : Int), .slice sx m dx])) (hg : ((w1.alloc xs).alloc ys).grownBy w6 vl.ownBlock) (hn' : n' = i + 1 := by rfl) :
    Cls w6 w.heap.size v' (i + 1) (fun i => f (pos i)) v (bdf f pos s) (fun j => if j = i then .slice sx m dx else S j) ∧ Below w.heap.size w w6 := by
  subst hn'
  have hl : Below w1.heap.size w1 ((w1.alloc xs).alloc ys) := jtwo (jlow _ _) (jlow _ _)
  have h := (hC.later hl).push (x := .slice sx m dx) (w2 := w6) (v' := v') (by rw [hm]; exact hO.later hl) (Nat.le_trans hB.size hl.size) (by
    show w6.ownsRow _ _ 2 _ _ (crow _ S i ++ [.int .u8 ((f (pos i) : Nat) : Int), _])
    rw [hq, hy]
    exact hown) hg
  exact ⟨h.1, (jtwo hB hl).trans h.2⟩
set_option maxRecDepth 20000 in
set_option maxHeartbeats 2000000 in
theorem rall8_any (w : World) (a : Option Addr) (n c k E : Nat) (f pos v s : Nat → Nat) (ha : Sl w a n f) (hnc : n ≤ c) (hn : n ≤ 20000000000000) (h : AllA f n k pos v s E) :
    Calls Try.prog 27 #[.slice a n c] w fun e w' => AllP w w' e f k pos v s E := by
  obtain ⟨i0, hi0, hz0, hz1, hz2⟩ := info_parts jchunk
  obtain ⟨hp, hpk, hend⟩ := h
  by_cases hn0 : n = 0
  · subst hn0
    have hk0 : k = 0 := Classical.byContradiction fun hk => by have := hp.lt (i := 0) (by omega); omega
    subst hk0
    obtain ⟨rfl, h0⟩ : E = 0 ∧ pos 0 = 0 := by
      rcases hend with h | ⟨h, _⟩
      · exact h
      · omega
    have HP0 : Hid (pos 0 = 0) := h0
    clear ha hend hp hpk h0
    go_enter Try.func27, Try.ntmps27
    go_wp2
    refine wp_loop_rounds 1 ?_
    rw [rounds_succ]
    go_wp2
    go_ret3
    refine ⟨.slice none 0 0, ?_, fun _ => ⟨fun _ => undef, Cls.nil _ _ _ _ _ _⟩, fun h => absurd rfl h, Below.refl _ _⟩
    rw [HP0.out]
    rfl
  · obtain ⟨b, o, rfl⟩ : ∃ b o, a = some ⟨b, o, none⟩ := by
      obtain ⟨b, o, e, _⟩ := ha.2 0 (by omega)
      exact ⟨b, o, e⟩
    have HPl : Hid (∀ i, i ≤ k → pos i ≤ n ∧ 6 * i ≤ pos i) := hp.le
    have HPlt : Hid (∀ i, i < k → pos i < n) := fun i hi => hp.lt hi
    have hp0 := hp.1
    have HStep : Hid (∀ i, i < k → ∃ z : Nat, pos (i + 1) = pos i + z ∧ 0 < z ∧ ∀ w' : World, Below w.heap.size w w' → Calls Try.prog 24 #[.slice (some ⟨b, o + pos i, none⟩) (n - pos i) (c - pos i)] w' fun e w'' => ∃ sx dx, e = .returned (.tuple #[.agg #[.int .u8 (f (pos i) : Nat), .slice sx (v i) dx], .int .i64 (z : Int), .int .i64 0]) ∧ Jo w'' w'.heap.size 5 .u8 (.slice sx (v i) dx) (v i) (bdf f pos s i) ∧ Below w'.heap.size w' w'') := fun i hi => by
      obtain ⟨h1, h2⟩ := hp.2 i hi
      refine ⟨_, h2, by omega, fun w' hb => ?_⟩
      have hlt := hp.lt hi
      have hsl := sl_part (c := c) (p := pos i) (m := n - pos i) (ha.later hb) (by omega) hnc
      unfold pca at hsl
      rw [if_neg (by omega)] at hsl
      refine (rrd8_ok w' _ (n - pos i) (c - pos i) (v i) (s i) _ hsl (by omega) (by omega) h1).mono (fun e w'' h => ?_)
      obtain ⟨x, he, ho, hbb⟩ := h
      obtain ⟨sx, dx, rfl, _⟩ := ho.form
      exact ⟨sx, dx, he, ho, hbb⟩
    have HEnd : Hid ((E = 0 ∧ pos k = n) ∨ (pos k < n ∧ ((E : Int) == 0) = false ∧ ∀ w' : World, Below w.heap.size w w' → Calls Try.prog 24 #[.slice (some ⟨b, o + pos k, none⟩) (n - pos k) (c - pos k)] w' fun e w'' => e = .returned (.tuple #[.agg #[.int .u8 0, .slice none 0 0], .int .i64 0, .int .i64 (E : Int)]) ∧ Below w'.heap.size w' w'')) := by
      rcases hend with h | ⟨h1, h2⟩
      · exact .inl h
      · refine .inr ⟨h1, by have := h2.ne; simp; omega, fun w' hb => ?_⟩
        have hsl := sl_part (c := c) (p := pos k) (m := n - pos k) (ha.later hb) (by omega) hnc
        unfold pca at hsl
        rw [if_neg (by omega)] at hsl
        exact rrd8_bad w' _ (n - pos k) (c - pos k) E _ hsl (by omega) (by omega) h2
    have HNil : Hid (Cls w w.heap.size (.slice none 0 0) 0 (fun i => f (pos i)) v (bdf f pos s) (fun _ => undef)) := Cls.nil _ _ _ _ _ _
    clear ha hend hp
    go_enter Try.func27, Try.ntmps27
    go_wp2
    go_loopw [5, 6, 7, 8, 9] (fun vl va _ _ _ wr => ∃ (i q : Nat) (S : Nat → Value), i ≤ k ∧ Hid (pos i = q) ∧ va = .int .i64 (q : Int) ∧ Cls wr w.heap.size vl i (fun i => f (pos i)) v (bdf f pos s) S ∧ Below w.heap.size w wr) (fun _ va _ _ _ _ => n - (intOf va).toNat)
    case atStart => exact ⟨0, 0, _, by omega, hp0, rfl, HNil.out, Below.refl _ _⟩
    case round =>
      clear HNil
      obtain ⟨i, q, S, hi, HQ, rfl, hcl, hb⟩ := hrel
      obtain ⟨ps, pd, rfl, _⟩ := hcl.form
      have HC := jhid8 hcl
      have HB := jhid8 hb
      have hqn := (HPl.out i hi).1
      have h6 := (HPl.out i hi).2
      rw [HQ.out] at hqn h6
      clear hcl
      by_cases hik : i < k
      · obtain ⟨z, hpz, hz0', hrd⟩ := HStep.out i hik
        have hlt := HPlt.out i hik
        have hle2 := (HPl.out (i + 1) (by omega)).1
        obtain ⟨q', HQ'⟩ : ∃ q', Hid (pos (i + 1) = q') := ⟨_, rfl⟩
        rw [HQ.out, HQ'.out] at hpz
        rw [HQ'.out] at hle2
        rw [HQ.out] at hlt
        have hrd2 := hrd _ hb
        rw [HQ.out] at hrd2
        obtain ⟨y, HY⟩ : ∃ y, Hid (f q = y) := ⟨_, rfl⟩
        obtain ⟨m, HM⟩ : ∃ m, Hid (v i = m) := ⟨_, rfl⟩
        rw [HY.out, HM.out] at hrd2
        have HRd := jhid8 hrd2
        have eq' : (q : Int) + (z : Int) = (q' : Int) := by omega
        have q1 : (q : Int) < (n : Int) := by omega
        have q2 : c ≠ q := by omega
        have hwsz := hb.size
        have hk63 : i + 1 ≤ maxLen := by unfold maxLen; omega
        have hqq : q < q' := by omega
        clear hrd hrd2 hb HEnd hpz
        go_wp2_with (first
          | (go_at_call 24; refine HRd.out.mono ?_; rintro e w1 ⟨sx, dx, rfl, ho1, hb1⟩; have HB1 : Hid (Below w.heap.size w w1) := jtwo HB.out hb1; have HO1 : Hid (Jo w1 w.heap.size 5 .u8 (.slice sx m dx) m (bdf f pos s i)) := ho1.mono HB.out.size; have HC1 := jhid8 (HC.out.later hb1); have va := Vc.new w1 (.int .u8 (y : Int)) (.slice sx m dx); have a0 := va.c0; have a1 := va.c1; clear ho1 hb1 va)
          | (at_builtin; refine wpList_append_own _ rfl _ _ 55 rfl w.heap.size 46 i0 (.agg #[.int .u8 0, .slice none 0 0]) 2 32 Try.underlying55 hi0 hz0 hz1 hz2 rfl (by decide) _ i _ rfl (HC1.out.later (jtwo (jlow _ _) (jlow _ _))).own ⟨(w1.alloc (.cells #[.int .u8 (y : Int), .slice sx m dx] 46)).heap.size, 0, none⟩ 1 1 [.int .u8 (y : Int), .slice sx m dx] (by simp; rfl) rfl (two_new _ _ _ _) (by intro u hu; simp at hu; rcases hu with rfl | rfl <;> rfl) hk63 (by omega) (by have := HB1.out.size; simp; omega) ?_; intro v' w6 hown' hgrow' _; have HP6 := jhid8 (cls_more HC1.out HO1.out HB1.out HQ.out HY.out HM.out hown' hgrow'); clear hown' hgrow'))
        exact ⟨⟨i + 1, q', _, by omega, HQ', by go_num, HP6.out.1, HP6.out.2⟩, by simp [intOf]; omega⟩
      · obtain rfl : i = k := by omega
        rcases HEnd.out with ⟨rfl, hpe⟩ | ⟨hlt, hE0, hrd⟩
        · rw [HQ.out] at hpe
          subst hpe
          have HE : Hid (pos i = q) := HQ
          go_wp2
          go_ret3
          refine ⟨_, ?_, fun _ => ⟨S, HC.out⟩, fun h => absurd rfl h, HB.out⟩
          rw [HE.out]
          rfl
        · rw [HQ.out] at hlt
          have hrd2 := hrd _ hb
          rw [HQ.out] at hrd2
          have HRd := jhid8 hrd2
          have q1 : (q : Int) < (n : Int) := by omega
          have q2 : c ≠ q := by omega
          clear hrd hrd2
          go_wp2_with (go_at_call 24; refine HRd.out.mono ?_; rintro e w1 ⟨rfl, hb1⟩; have HB1 : Hid (Below w.heap.size w w1) := jtwo HB.out hb1; clear hb1)
          go_ret3
          refine ⟨.slice none 0 0, ?_, fun h => ?_, fun _ => rfl, jtwo HB1.out (jlow _ _)⟩
          · rw [HQ.out]
            rfl
          · subst h
            cases hE0
/-- Two chunks alike. -/
def likeC (x y n m : Nat) (f h : Nat → Nat) : Bool := decide (x = y) && sameB n m f h
set_option maxRecDepth 20000 in
set_option maxHeartbeats 1000000 in
theorem rlike8 (w : World) (x y n m c d : Nat) (a b : Option Addr) (f h : Nat → Nat) (ha : Sl w a n f) (hb : Sl w b m h) :
    Calls Try.prog 25 #[.agg #[.int .u8 (x : Int), .slice a n c], .agg #[.int .u8 (y : Int), .slice b m d]] w fun e w' => e = .returned (.bool (likeC x y n m f h)) ∧ Below w.heap.size w w' := by
  have HS : Hid (∀ w' : World, Below w.heap.size w w' → Calls Try.prog 16 #[.slice a n c, .slice b m d] w' fun e w'' => e = .returned (.bool (sameB n m f h)) ∧ w' = w'') := fun w' hw => same_exact w' a b n m c d f h (ha.later hw) (hb.later hw)
  have HB : Hid (Below w.heap.size w ((w.alloc (.cells #[.int .u8 (x : Int), .slice a n c] 46)).alloc (.cells #[.int .u8 (y : Int), .slice b m d] 46))) := jtwo (jlow _ _) (jlow _ _)
  have va := (Vc.new w (.int .u8 (x : Int)) (.slice a n c)).later (jlow _ (.cells #[.int .u8 (y : Int), .slice b m d] 46))
  have a0 := va.c0
  have a1 := va.c1
  have vb := Vc.new (w.alloc (.cells #[.int .u8 (x : Int), .slice a n c] 46)) (.int .u8 (y : Int)) (.slice b m d)
  have b0 := vb.c0
  have b1 := vb.c1
  obtain ⟨q, HQ⟩ : ∃ q, Hid (sameB n m f h = q) := ⟨_, rfl⟩
  rw [HQ.out] at HS
  clear ha hb va vb
  by_cases e : x = y
  · subst e
    have HL : Hid (likeC x x n m f h = q) := by show _ = _; unfold likeC; rw [HQ.out]; simp
    rw [HL.out]
    go_enter Try.func25, Try.ntmps25
    go_wp2_with (go_at_call 16; refine (HS.out _ HB.out).mono ?_; rintro e w' ⟨rfl, rfl⟩)
    go_ret
    exact ⟨rfl, HB.out⟩
  · have HL : Hid (likeC x y n m f h = false) := by show _ = _; unfold likeC; simp [e]
    have hne : ((x : Int) == (y : Int)) = false := by simp; omega
    rw [HL.out]
    go_enter Try.func25, Try.ntmps25
    go_wp2
    go_ret
    exact ⟨rfl, HB.out⟩
end Go.Proofs.Ytlfmekjkgegclaa
