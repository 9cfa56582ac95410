/-
  What BuildFresh needs: the generators' answers are lists of the calls' own.
-/
import Derived.Test.YtblfldjlehjnbabGv
import Derived.Test.YtblfldjlehjnbabGq
namespace Go.Proofs.Ytblfldjlehjnbab
open Go.RowKit
theorem bsys_f (w : World) (r c : Int) (n k : Nat) (a : Option Addr) (F : Nat → Nat) (ha : Mt w a n k F) : Calls Try.prog 5 #[mv r c a n k] w (fun e w' => F2 w w' e) := by
  by_cases h : RightP r c n ∧ c ≤ r
  · obtain ⟨h, h2⟩ := h
    obtain ⟨r, c, rfl, rfl, R⟩ := right_rt h
    refine (bsys_x w r c n k a F ha R (by omega)).mono ?_
    rintro e w' (⟨⟨g, X, rfl, hr, _, _, hg, hb⟩, _⟩ | ⟨rfl, hb, _⟩)
    · exact ⟨r, c, some ⟨g, 0, none⟩, n, n, 0, rfl, ⟨_, _, _, rfl, R.le, hr.frs hg R.le⟩, hb⟩
    · exact ⟨0, 0, none, 0, 0, 6, rfl, Fs.nil _ _, hb⟩
  · exact (bsys_bad w r c n k a h).mono fun _ _ h => ⟨0, 0, none, 0, 0, 3, h.1, Fs.nil _ _, h.2⟩
theorem bchk_f (w : World) (r c : Int) (n k : Nat) (a : Option Addr) (F : Nat → Nat) (ha : Mt w a n k F) : Calls Try.prog 17 #[mv r c a n k] w (fun e w' => F2 w w' e) := by
  by_cases h : RightP r c n ∧ c ≤ r
  · obtain ⟨h, h2⟩ := h
    obtain ⟨r, c, rfl, rfl, R⟩ := right_rt h
    refine (bchk_x w r c n k a F ha R (by omega)).mono ?_
    rintro e w' (⟨⟨s, d, kr, top, p, G, H, rfl, _, hR, hS, hp, ek, _, hf, hb⟩, hk⟩ | ⟨rfl, hb, _⟩)
    · have hkr := (kr_of R hk hR hS hp ek).1
      have := R.r64
      exact ⟨kr, r, s, kr * r, d, 0, rfl, ⟨_, _, _, rfl, Nat.mul_le_mul (show kr ≤ 64 by omega) R.r64, hf⟩, hb⟩
    · exact ⟨0, 0, none, 0, 0, 6, rfl, Fs.nil _ _, hb⟩
  · exact (bchk_bad w r c n k a h).mono fun _ _ h => ⟨0, 0, none, 0, 0, 3, h.1, Fs.nil _ _, h.2⟩
theorem bcau_f (w : World) (n m k d : Nat) (a b : Option Addr) (X Y : Nat → Nat) (ha : Mt w a n k X) (hb : Mt w b m d Y) : Calls Try.prog 18 #[.slice a n k, .slice b m d] w (fun e w' => F2 w w' e) := by
  by_cases h : 64 < n ∨ 64 < m
  · exact (bcau_limit w n m k d a b h).mono fun _ _ h => ⟨0, 0, none, 0, 0, 4, h.1, Fs.nil _ _, h.2⟩
  · by_cases hD : Dst X n Y m
    · refine (bcau_ok w n m _ k d a b X Y ha hb (by omega) (by omega) rfl hD).mono ?_
      rintro e w' ⟨g, rfl, hr, hg, hb⟩
      have hle : n * m ≤ 4096 := Nat.mul_le_mul (show n ≤ 64 by omega) (show m ≤ 64 by omega)
      exact ⟨n, m, some ⟨g, 0, none⟩, _, _, 0, rfl, ⟨_, _, _, rfl, hle, hr.frs hg hle⟩, hb⟩
    · exact (bcau_dup w n m k d a b X Y ha hb (by omega) (by omega) hD).mono fun _ _ h => ⟨0, 0, none, 0, 0, 2, h.1, Fs.nil _ _, h.2⟩
def vs3 (a b c : Value) (i : Nat) : Value := if i = 0 then a else if i = 1 then b else c
theorem vs3_get (a b c : Value) : ∀ i, i < 3 → (#[a, b, c] : Array Value)[i]? = some (vs3 a b c i) := fun i hi => by
  rcases (by omega : i = 0 ∨ i = 1 ∨ i = 2) with rfl | rfl | rfl <;> rfl
/-- All of the three are lists of their own, apart from each other. -/
structure Thr (w : World) (B : Nat) (v : Nat → Value) : Prop where
  res : ∀ i, i < 3 → Fs w B (v i)
  apart : ∀ i j, i < 3 → j < 3 → i ≠ j → ∀ g, bk (v i) = some g → bk (v j) ≠ some g
theorem thr {w : World} {a b c : Value} {B l0 u0 l1 u1 l2 u2 : Nat} (ra : Fs w B a) (rb : Fs w B b) (rc : Fs w B c) (ia : Ik l0 u0 a) (ib : Ik l1 u1 b) (ic : Ik l2 u2 c) (h1 : u0 ≤ l1) (h2 : l1 ≤ u1) (h3 : u1 ≤ l2) : Thr w B (vs3 a b c) := by
  refine ⟨?_, ?_⟩
  · intro i hi
    rcases (by omega : i = 0 ∨ i = 1 ∨ i = 2) with rfl | rfl | rfl
    · exact ra
    · exact rb
    · exact rc
  · have H : ∀ i, i < 3 → ∃ lo hi, Ik lo hi (vs3 a b c i) ∧ (i = 0 → lo = l0 ∧ hi = u0) ∧ (i = 1 → lo = l1 ∧ hi = u1) ∧ (i = 2 → lo = l2 ∧ hi = u2) := by
      intro i hi
      rcases (by omega : i = 0 ∨ i = 1 ∨ i = 2) with rfl | rfl | rfl
      · exact ⟨_, _, ia, by omega⟩
      · exact ⟨_, _, ib, by omega⟩
      · exact ⟨_, _, ic, by omega⟩
    intro i j hi hj hij x hx hy
    obtain ⟨a1, b1, n1, p1⟩ := H i hi
    obtain ⟨a2, b2, n2, p2⟩ := H j hj
    have := n1 x hx
    have := n2 x hy
    omega
/-- What the loop that spoils keeps. -/
structure Sp3v (wb wr : World) (gl : Nat) (v : Nat → Value) (cs : Array Value) (k : Nat) : Prop where
  res : ∀ j, k ≤ j → j < 3 → Fs wr wb.heap.size (v j)
  arr : wr.heap[gl]? = some (.cells cs 22 (0, 0))
  below : Below wb.heap.size wb wr
theorem sp3v_next {wb wr w' : World} {gl k : Nat} {v : Nat → Value} {cs : Array Value} (I : Sp3v wb wr gl v cs k) (hk : k < 3) (hg : wr.grownBy w' (bk (v k))) (ap : ∀ i j, i < 3 → j < 3 → i ≠ j → ∀ g, bk (v i) = some g → bk (v j) ≠ some g) (hgl : ∀ j, j < 3 → bk (v j) ≠ some gl) : Sp3v wb w' gl v cs (k + 1) := by
  refine ⟨fun j hj hj8 => (I.res j (by omega) hj8).kept hg ?_, ?_, ?_⟩
  · cases e : bk (v j) with
    | none => exact .inl rfl
    | some g => exact .inr (fun h => ap j k hj8 hk (by omega) g e h.symm)
  · rw [hg.block gl (lt_of_block I.arr) (fun e => hgl k hk e.symm)]; exact I.arr
  · cases e : bk (v k) with
    | none => rw [e] at hg; exact two_below I.below (grown_none.mp hg)
    | some g => rw [e] at hg; exact below_row I.below hg ((I.res k (Nat.le_refl _) hk).ib g e).1
end Go.Proofs.Ytblfldjlehjnbab
