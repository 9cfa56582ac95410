/-
  Contracts of the program's matrices: combination, Mul.
  Contracts of the program's matrices: Mul's errors, Apply, Transpose.
  Contracts of the program's matrices: Transpose.
  Contracts of the program's matrices: Pick.
  Contracts of the program's matrices: ofRows, Of.
  Contracts of the program's matrices: Of.
  Contracts of the program's matrices: rowsOf.
  Contracts of the program's matrices: Stack.
  Contracts of the program's matrices: fillMultiples, Kron.
  The program's answers and the reference's, told alike: for each function what both answer.
  One product that the document fixes; what follows for products of matrices (grouped, transposed, applied, laid together); the program's answers by cases.
  Stage 21: the law of Back.
  Stage 21: the reference's Of.
-/
import Derived.Test.YtkfnedpnkeacpaaQmmde16
import Derived.Deep.RegionHeld3
import Derived.Test.YtkfnedpnkeacpaaQmmde00
import Derived.Test.YtkfnedpnkeacpaaQmmde47
set_option maxRecDepth 100000
set_option maxHeartbeats 16000000
namespace Go.Proofs.Ytkfnedpnkeacpaa
open Go.RowKit
theorem Rt.turn {r c n : Nat} (h : Rt r c n) : Rt c r n := ⟨h.c64, h.r64, by rw [Nat.mul_comm]; exact h.len⟩
open Go.RowKit
theorem like_ans (w : World) (r c : Int) (a b : Option Addr) (n k d : Nat) (f h : Nat → Nat) (ha : Mt w a n k f) (hb : Mt w b n d h) (e : ∀ i, i < n → f i = h i) : Calls Try.prog 14 #[mv r c a n k, mv r c b n d] w fun e w' => e = .returned (.bool true) ∧ Below w.heap.size w w' := by
 have := qe2 w r c r c a b n n k d f h ha.sl hb.sl
 rw [qe4 e] at this
 exact this
open Go.RowKit
/-- G is the flow of a matrix. -/
def IsOf (r c : Nat) (D : Nat → Nat) (G : Fl) : Prop := ∃ m f, G = ofF r c D m f ∧ En (UsP r c D) c m f
def OfG (r c : Nat) (D : Nat → Nat) (w : World) (e : Ending) : Prop := ∃ (x : Option Addr) (p : Nat) (y : Option Addr) (q : Nat) (z : Option Addr) (s : Nat) (G : Fl), e = .returned (.tuple #[flv x G.ni p y G.nn q z G.no s, .int .i64 0]) ∧ FlR w x y z G ∧ IsOf r c D G
theorem fof_g (w : World) (r c n k : Nat) (a : Option Addr) (D : Nat → Nat) (ha : Mt w a n k D) (R : Rt r c n) :
  Calls Try.prog 9 #[mv r c a n k] w fun e w' => OfG r c D w' e ∧ Below w.heap.size w w' :=
 (fof_ok w r c n k a D ha R).mono fun e w' hh => by
  obtain ⟨x, p, y, q, z, s, m, f, rfl, hf, he, hb⟩ := hh
  exact ⟨⟨x, p, y, q, z, s, _, rfl, hf, m, f, rfl, he⟩, hb⟩
theorem IsOf.no {r c : Nat} {D : Nat → Nat} {G : Fl} (h : IsOf r c D G) : G.no = r := by obtain ⟨m, f, rfl, _⟩ := h; rfl
theorem IsOf.may {r c : Nat} {D : Nat → Nat} {G : Fl} (h : IsOf r c D G) (hr : r ≤ 64) (hc : c ≤ 64) : MayP G := by obtain ⟨m, f, rfl, he⟩ := h; exact qfg hr hc he
theorem IsOf.inp {r c : Nat} {D : Nat → Nat} {G : Fl} (h : IsOf r c D G) : ∀ i, i < G.ni → G.inp i < (c : Int) := by
 obtain ⟨m, f, rfl, he⟩ := h
 exact fun i hi => by have := he.lt i hi; show (f i : Int) < (c : Int); omega
theorem IsOf.mat {r c : Nat} {D : Nat → Nat} {G : Fl} (h : IsOf r c D G) (hr : r ≤ 64) (hc : c ≤ 64) {i j : Nat} (hi : i < r) (hj : j < c) (hD : D (i * c + j) < 256) : vlx G unb (G.out i).toNat j = D (i * c + j) := by
 obtain ⟨m, f, rfl, he⟩ := h
 exact ofF_mat hr hc he hi hj hD
theorem IsOf.fc {r c : Nat} {D : Nat → Nat} {G : Fl} {w : World} {x y z : Option Addr} (_ : IsOf r c D G) (hf : FlR w x y z G) : ∀ v j, G.ni ≤ v → v < G.ni + G.nn → j < tn G v → G.fc (v - G.ni) j < 256 := fun _ _ h1 h2 h3 => hf.fc8 h1 h2 h3
/-- The empty flow. -/
def nilF : Fl := ⟨0, fun _ => 0, 0, fun _ => 0, fun _ _ => 0, fun _ _ => 0, 0, fun _ => 0⟩
theorem nilF_r (w : World) : FlR w none none none nilF := ⟨Nat.zero_le _, Nat.zero_le _, Nat.zero_le _, fun _ h => absurd h (Nat.not_lt_zero _), fun _ h => absurd h (Nat.not_lt_zero _), fun _ h => absurd h (Nat.not_lt_zero _)⟩
open Go.RowKit
theorem qal {a b c : World} {V : Nat} {g : Option Nat} (h : a.grownBy b (some V)) (k : b.grownBy c g) (hg : ∀ x, g = some x → a.heap.size ≤ x) : a.grownBy c (some V) :=
 ⟨k.os.trans h.os, k.tape.trans h.tape, k.output.trans h.output, Nat.le_trans h.size k.size, fun i hi hn => (k.block i (Nat.lt_of_lt_of_le hi h.size) (fun e => by have := hg i e.symm; omega)).trans (h.block i hi hn)⟩
/-- The terms of a row, column by column. -/
def rof (R at' : Nat → Nat) : Nat → List Trm
 | 0 => []
 | j + 1 => rof R at' j ++ (if R j = 0 then [] else [(((at' j : Nat) : Int), R j)])
theorem rof_tof {P : Nat → Prop} {R at' f : Nat → Nat} : ∀ j m, En P j m f → (∀ i, i < m → at' (f i) = i) → (∀ x, x < j → ¬ P x → R x = 0) → rof R at' j = tof R f m := by
 intro j
 induction j with
 | zero =>
  intro m h _ _
  have : m = 0 := by
   cases m with
   | zero => rfl
   | succ m => have := h.lt 0 (by omega); omega
  subst this
  rfl
 | succ j ih =>
  intro m h ha hz
  by_cases hP : P j
  ·obtain ⟨i, hi, he⟩ := h.all j (by omega) hP
   have hlast : i + 1 = m := by
    by_cases e : i + 1 < m
    ·have h1 := h.up i (i + 1) (by omega) e
     have h2 := h.lt (i + 1) e
     omega
    ·omega
   subst hlast
   have hE : En P j i f := ⟨fun k hk => by have := h.up k i hk (by omega); omega, fun k hk => h.has k (by omega), fun a b h1 h2 => h.up a b h1 (by omega), fun x hx hp => by
    obtain ⟨k, hk, hek⟩ := h.all x (by omega) hp
    refine ⟨k, ?_, hek⟩
    by_cases e : k = i
    ·subst e; omega
    ·omega⟩
   show rof R at' j ++ _ = tof R f i ++ _
   rw [ih i hE (fun k hk => ha k (by omega)) (fun x hx hp => hz x (by omega) hp), ← he, ha i (by omega)]
  ·have hE : En P j m f := ⟨fun k hk => by
    have h1 := h.lt k hk
    have h2 := h.has k hk
    by_cases e : f k = j
    ·rw [e] at h2; exact absurd h2 hP
    ·omega, h.has, h.up, fun x hx hp => h.all x (by omega) hp⟩
   show rof R at' j ++ (if R j = 0 then [] else _) = tof R f m
   rw [if_pos (hz j (by omega) hP), List.append_nil]
   exact ih m hE ha (fun x hx hp => hz x (by omega) hp)
/-- The rows, so far. -/
def rnds (F : Nat → Nat) (c : Nat) (at' : Nat → Nat) (i : Nat) : List (List Trm) := (List.range i).map fun t => rof (fun j => F (t * c + j)) at' c
theorem qfh (F : Nat → Nat) (c : Nat) (at' : Nat → Nat) (i : Nat) : rnds F c at' (i + 1) = rnds F c at' i ++ [rof (fun j => F (i * c + j)) at' c] := by
 unfold rnds
 rw [List.range_succ, List.map_append]
 rfl
theorem qbo (F : Nat → Nat) (c : Nat) (at' : Nat → Nat) (i : Nat) : (rnds F c at' i).length = i := by simp [rnds]
theorem rnds_nds {F : Nat → Nat} {r c m : Nat} {at' f : Nat → Nat} (hE : En (UsP r c F) c m f) (ha : ∀ i, i < m → at' (f i) = i) : rnds F c at' r = nds F c m f r := by
 unfold rnds nds
 apply List.map_congr_left
 intro t ht
 have ht : t < r := by simpa using ht
 exact rof_tof c m hE ha fun x _ hx => Classical.byContradiction fun hn => hx ⟨t, ht, hn⟩
theorem rof_bad (w : World) (r c : Int) (n k : Nat) (a : Option Addr) (hR : ¬ RightP r c n) :
  Calls Try.prog 10 #[mv r c a n k] w fun e w' => e = .returned (.tuple #[flv none 0 0 none 0 0 none 0 0, .int .i64 3]) ∧ Below w.heap.size w w' := by
 obtain ⟨wb, HW⟩ : ∃ wb, Hid ((w.alloc (.cells #[.int .i64 r, .int .i64 c, .slice a n k] 24)).alloc (.cells #[.slice none 0 0, .slice none 0 0, .slice none 0 0] 28) = wb) := ⟨_, rfl⟩
 have HB0 : Hid (Below w.heap.size w wb) := by rw [← HW.out]; exact jtwo (jlow _ _) (jlow _ _)
 have HVR : Hid (Vf wb (w.heap.size + 1) 28 #[.slice none 0 0, .slice none 0 0, .slice none 0 0]) := by rw [← HW.out]; exact Vf.new1 _ _ _ _
 have HRt := qa0 (fun (w2 : World) => right_no w2 r c a n k hR)
 clear hR
 go_enter Try.func10, Try.ntmps10
 go_wp2_with (first
  | (go_at_call 19; rw [HW.out]; refine (HRt.out _).mono ?_; rintro e w1 ⟨rfl, hb1⟩; have HB1 := qa0 (jtwo HB0.out hb1); have HVR1 := qa0 (HVR.out.later hb1); clear hb1)
  | (refine qa4 rfl 28 _ _ rfl (w.heap.size + 1) _ #[.slice none 0 0, .slice none 0 0, .slice none 0 0] rfl rfl HVR1.out sizeFl rfl (all3s _ _ _ _ _ _ _ _ _) ?_; intro w9 HV9 HG9))
 have d0 := HV9.out.cell 0 (.slice none 0 0) rfl
 have e1 := HV9.out.cell 1 (.slice none 0 0) rfl
 have e2 := HV9.out.cell 2 (.slice none 0 0) rfl
 refine bodyPost_ret (v := .tuple #[flv none 0 0 none 0 0 none 0 0, .int .i64 3]) (by simp [results, Try.results10, go_sem, d0, e1, e2]) rfl ?_
 exact ⟨rfl, qai HB1.out HG9.out (by omega)⟩
end Go.Proofs.Ytkfnedpnkeacpaa
