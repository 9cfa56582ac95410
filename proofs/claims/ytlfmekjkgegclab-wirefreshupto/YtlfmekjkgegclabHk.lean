/-
  Contracts of the wire's reference: All, Like.
-/
import Derived.Test.YtlfmekjkgegclabHj
namespace Go.Proofs.Ytlfmekjkgegclab
open Go.RowKit
/-- The body of a chunk that All tells. -/
def bdf (f pos s : Nat → Nat) (i j : Nat) : Nat := f (pos i + (1 + (s i + j)))
/-- What All answers. -/
def AllP (w w' : World) (e : Ending) (f : Nat → Nat) (k : Nat) (pos v s : Nat → Nat) (E : Nat) : Prop :=
  ∃ x : Value, e = .returned (.tuple #[x, .int .i64 (pos k : Nat), .int .i64 (E : Int)]) ∧ (E = 0 → ∃ S, Cls w' w.heap.size x k (fun i => f (pos i)) v (bdf f pos s) S) ∧ (E ≠ 0 → x = .slice none 0 0) ∧ Below w.heap.size w w'
theorem cls_more {w w1 w6 : World} {i q y m n' : Nat} {v' vl : Value} {sx : Option Addr} {dx : Nat} {f pos v s : Nat → Nat} {S : Nat → Value} {xs : Obj} {ys : Obj} (hC : Cls w1 w.heap.size vl i (fun i => f (pos i)) v (bdf f pos s) S) (hO : Jo w1 w.heap.size 5 .u8 (.slice sx m dx) m (bdf f pos s i)) (hB : Below w.heap.size w w1)
    (hq : pos i = q) (hy : f q = y) (hm : v i = m) (hown : w6.ownsRow w.heap.size 30 2 v' n' (crow (fun i => f (pos i)) S i ++ [.int .u8 (y : Int), .slice sx m dx])) (hg : ((w1.alloc xs).alloc ys).grownBy w6 vl.ownBlock) (hn' : n' = i + 1 := by rfl) :
    Cls w6 w.heap.size v' (i + 1) (fun i => f (pos i)) v (bdf f pos s) (fun j => if j = i then .slice sx m dx else S j) ∧ Below w.heap.size w w6 := by
  subst hn'
  have hl : Below w1.heap.size w1 ((w1.alloc xs).alloc ys) := jtwo (jlow _ _) (jlow _ _)
  have h := (hC.later hl).push (x := .slice sx m dx) (w2 := w6) (v' := v') (by rw [hm]; exact hO.later hl) (Nat.le_trans hB.size hl.size) (by
    show w6.ownsRow _ _ 2 _ _ (crow _ S i ++ [.int .u8 ((f (pos i) : Nat) : Int), _])
    rw [hq, hy]
    exact hown) hg
  exact ⟨h.1, (jtwo hB hl).trans h.2⟩
/-- Two chunks alike. -/
def likeC (x y n m : Nat) (f h : Nat → Nat) : Bool := decide (x = y) && sameB n m f h
set_option maxRecDepth 20000 in
set_option maxHeartbeats 1000000 in
theorem rlike8 (w : World) (x y n m c d : Nat) (a b : Option Addr) (f h : Nat → Nat) (ha : Sl w a n f) (hb : Sl w b m h) :
    Calls Try.prog 15 #[.agg #[.int .u8 (x : Int), .slice a n c], .agg #[.int .u8 (y : Int), .slice b m d]] w fun e w' => e = .returned (.bool (likeC x y n m f h)) ∧ Below w.heap.size w w' := by
  have HS : Hid (∀ w' : World, Below w.heap.size w w' → Calls Try.prog 10 #[.slice a n c, .slice b m d] w' fun e w'' => e = .returned (.bool (sameB n m f h)) ∧ w' = w'') := fun w' hw => same_exact w' a b n m c d f h (ha.later hw) (hb.later hw)
  have HB : Hid (Below w.heap.size w ((w.alloc (.cells #[.int .u8 (x : Int), .slice a n c] 30)).alloc (.cells #[.int .u8 (y : Int), .slice b m d] 30))) := jtwo (jlow _ _) (jlow _ _)
  have va := (Vc.new w (.int .u8 (x : Int)) (.slice a n c)).later (jlow _ (.cells #[.int .u8 (y : Int), .slice b m d] 30))
  have a0 := va.c0
  have a1 := va.c1
  have vb := Vc.new (w.alloc (.cells #[.int .u8 (x : Int), .slice a n c] 30)) (.int .u8 (y : Int)) (.slice b m d)
  have b0 := vb.c0
  have b1 := vb.c1
  obtain ⟨q, HQ⟩ : ∃ q, Hid (sameB n m f h = q) := ⟨_, rfl⟩
  rw [HQ.out] at HS
  clear ha hb va vb
  by_cases e : x = y
  · subst e
    have HL : Hid (likeC x x n m f h = q) := by show _ = _; unfold likeC; rw [HQ.out]; simp
    rw [HL.out]
    go_enter Try.func15, Try.ntmps15
    go_wp2_with (go_at_call 10; refine (HS.out _ HB.out).mono ?_; rintro e w' ⟨rfl, rfl⟩)
    go_ret
    exact ⟨rfl, HB.out⟩
  · have HL : Hid (likeC x y n m f h = false) := by show _ = _; unfold likeC; simp [e]
    have hne : ((x : Int) == (y : Int)) = false := by simp; omega
    rw [HL.out]
    go_enter Try.func15, Try.ntmps15
    go_wp2
    go_ret
    exact ⟨rfl, HB.out⟩
end Go.Proofs.Ytlfmekjkgegclab
