/-
  slices.Sort of a list of sets: order2, median, medianAdjacent, choosePivot: what is chosen lies in the bounds.
-/
import Derived.Test.YtmgfeepnkahkmaaGreatQggid00
import Derived.Test.YtmgfeepnkahkmaaGreatQggid44
set_option maxRecDepth 100000
set_option maxHeartbeats 16000000
namespace Go.Proofs.YtmgfeepnkahkmaaGreat
open Go.RowKit
theorem qiu (w : World) (o : Obj) : (w.alloc o).heap[w.heap.size]? = some o := Go.heap_alloc_new w o
theorem Sq.other {w0 w : World} {g o n c : Nat} {q f : Nat → Nat} (h : Sq w0 w g o n c q f) {sw i : Nat} (hs : w0.heap.size ≤ sw) (hne : sw ≠ g) (v : Value) : Sq w0 (w.setCell ⟨sw, i, none⟩ v) g o n c q f := by
 have hb : (w.setCell ⟨sw, i, none⟩ v).heap[g]? = w.heap[g]? := Below.heap_setCell w ⟨sw, i, none⟩ v g (fun e => hne e.symm)
 refine ⟨fun t ht => ?_, ?_, h.hs, h.gr.os, h.gr.tape, h.gr.output, by simpa using h.gr.size, fun k hk hr => ?_⟩
 ·rw [World.cell?_of_block (a := ⟨g, o + t, none⟩) hb]; exact h.cell t ht
 ·obtain ⟨cur, hc, hz⟩ := h.sh
  exact ⟨cur, by rw [hb]; exact hc, hz⟩
 ·rw [Below.heap_setCell w ⟨sw, i, none⟩ v k (fun e => by simp at e; omega)]; exact h.gr.block k hk hr
/-- The list, and a number that is counted up. -/
structure Sv (w0 : World) (g o n c : Nat) (q : Nat → Nat) (sw : Nat) (w : World) : Prop where
 sx : Sx w0 g o n c q w
 sc : ∃ v, w.heap[sw]? = some (.cells #[.int .i64 v] 3 (0, 0))
theorem Sv.below {w0 w w' : World} {g o n c sw : Nat} {q : Nat → Nat} (h : Sv w0 g o n c q sw w) (hb : Below w.heap.size w w') : Sv w0 g o n c q sw w' := ⟨h.sx.below hb, let ⟨v, hv⟩ := h.sc; ⟨v, by rw [hb.block sw (lt_of_block hv)]; exact hv⟩⟩
theorem Sv.put {w0 w : World} {g o n c sw : Nat} {q : Nat → Nat} (h : Sv w0 g o n c q sw w) (hs : w0.heap.size ≤ sw) (hne : sw ≠ g) (v : Int) : Sv w0 g o n c q sw (w.setCell ⟨sw, 0, none⟩ (.int .i64 v)) := by
 obtain ⟨⟨f, hf⟩, u, hu⟩ := h
 exact ⟨⟨f, hf.other hs hne _⟩, v, by rw [setCell_eq_setRow w sw 0 _ _ (0, 0) _ hu, setRow_heap w sw _ _ _ (0, 0) hu]; rfl⟩
theorem ord16 (w0 w : World) (g o n c cap a b sw lo hi : Nat) (q : Nat → Nat) (h : Sv w0 g o n c q sw w) (hs : w0.heap.size ≤ sw) (hne : sw ≠ g) (ha : lo ≤ a) (ha2 : a < hi) (hb : lo ≤ b) (hb2 : b < hi) (hh : hi ≤ n) (_hn : n ≤ 17592186044416) :
  Calls Tryz.prog 163 #[.slice (some ⟨g, o, none⟩) n cap, .int .i64 (a : Int), .int .i64 (b : Int), .pointer (some ⟨sw, 0, none⟩)] w fun e w' => (∃ x y : Nat, e = .returned (.tuple #[.int .i64 (x : Int), .int .i64 (y : Int)]) ∧ lo ≤ x ∧ x < hi ∧ lo ≤ y ∧ y < hi) ∧ Sv w0 g o n c q sw w' := by
 obtain ⟨⟨f, hS⟩, v, hv⟩ := h
 have hcw := hS.cell
 have HQ : Hid (Sq w0 w g o n c q f) := hS
 have HV : Hid (w.heap[sw]? = some (.cells #[.int .i64 v] 3 (0, 0))) := hv
 have c0 : w.cell? ⟨sw, 0, none⟩ = some (.int .i64 v) := by rw [cell_of_row w sw 0 _ _ _ hv]; rfl
 have f0 : w.frozen? ⟨sw, 0, none⟩ = false := by simp [World.frozen?, hv]
 clear hS hv
 go_enter Tryz.func163, Tryz.ntmps163
 go_wp2
 go_quiet ((go_at_call 134; refine Calls.quiet_of_same (qag _ _ _)))
 have HS : Hid (Sv w0 g o n c q sw (w.drewN nq)) := ⟨⟨f, HQ.out.drewN _⟩, v, HV.out⟩
 go_wp2
 ·go_ret2
  exact ⟨⟨b, a, rfl, by omega, by omega, by omega, by omega⟩, HS.out.put hs hne _⟩
 ·go_ret2
  exact ⟨⟨a, b, rfl, by omega, by omega, by omega, by omega⟩, HS.out⟩
theorem med16 (w0 w : World) (g o n c cap a b d sw lo hi : Nat) (q : Nat → Nat) (h : Sv w0 g o n c q sw w) (hs : w0.heap.size ≤ sw) (hne : sw ≠ g) (ha : lo ≤ a) (ha2 : a < hi) (hb : lo ≤ b) (hb2 : b < hi) (hd : lo ≤ d) (hd2 : d < hi) (hh : hi ≤ n) (hn : n ≤ 17592186044416) :
  Calls Tryz.prog 154 #[.slice (some ⟨g, o, none⟩) n cap, .int .i64 (a : Int), .int .i64 (b : Int), .int .i64 (d : Int), .pointer (some ⟨sw, 0, none⟩)] w fun e w' => (∃ x : Nat, e = .returned (.int .i64 (x : Int)) ∧ lo ≤ x ∧ x < hi) ∧ Sv w0 g o n c q sw w' := by
 have HO : Hid (∀ w a b, Sv w0 g o n c q sw w → lo ≤ a → a < hi → lo ≤ b → b < hi → Calls Tryz.prog 163 #[.slice (some ⟨g, o, none⟩) n cap, .int .i64 ((a : Nat) : Int), .int .i64 ((b : Nat) : Int), .pointer (some ⟨sw, 0, none⟩)] w fun e w' => (∃ x y : Nat, e = .returned (.tuple #[.int .i64 (x : Int), .int .i64 (y : Int)]) ∧ lo ≤ x ∧ x < hi ∧ lo ≤ y ∧ y < hi) ∧ Sv w0 g o n c q sw w') := fun w a b h h1 h2 h3 h4 => ord16 w0 w g o n c cap a b sw lo hi q h hs hne h1 h2 h3 h4 hh hn
 have H0 : Hid (Sv w0 g o n c q sw w) := h
 have M1 : Hid True := trivial
 clear h
 go_enter Tryz.func154, Tryz.ntmps154
 go_wp2_with (first
  | (go_at_call 163; clear M1; refine (HO.out _ a b H0.out ha ha2 hb hb2).mono ?_; rintro e w1 ⟨⟨x1, y1, rfl, p1, p2, p3, p4⟩, h1⟩; have H1 : Hid (Sv w0 g o n c q sw w1) := h1; have M2 : Hid True := trivial; clear h1)
  | (go_at_call 163; clear M2; refine (HO.out _ y1 d H1.out p3 p4 hd hd2).mono ?_; rintro e w2 ⟨⟨x2, y2, rfl, r1, r2, r3, r4⟩, h2⟩; have H2 : Hid (Sv w0 g o n c q sw w2) := h2; have M3 : Hid True := trivial; clear h2)
  | (go_at_call 163; clear M3; refine (HO.out _ x1 x2 H2.out p1 p2 r1 r2).mono ?_; rintro e w3 ⟨⟨x3, y3, rfl, s1, s2, s3, s4⟩, h3⟩; have H3 : Hid (Sv w0 g o n c q sw w3) := h3; clear h3))
 go_ret
 exact ⟨⟨y3, rfl, s3, s4⟩, H3.out⟩
theorem adj16 (w0 w : World) (g o n c cap a sw lo hi : Nat) (q : Nat → Nat) (h : Sv w0 g o n c q sw w) (hs : w0.heap.size ≤ sw) (hne : sw ≠ g) (ha : lo + 1 ≤ a) (ha2 : a + 1 < hi) (hh : hi ≤ n) (hn : n ≤ 17592186044416) :
  Calls Tryz.prog 153 #[.slice (some ⟨g, o, none⟩) n cap, .int .i64 (a : Int), .pointer (some ⟨sw, 0, none⟩)] w fun e w' => (∃ x : Nat, e = .returned (.int .i64 (x : Int)) ∧ lo ≤ x ∧ x < hi) ∧ Sv w0 g o n c q sw w' := by
 have HM : Hid (Calls Tryz.prog 154 #[.slice (some ⟨g, o, none⟩) n cap, .int .i64 ((a : Int) - 1), .int .i64 (a : Int), .int .i64 ((a : Int) + 1), .pointer (some ⟨sw, 0, none⟩)] w fun e w' => (∃ x : Nat, e = .returned (.int .i64 (x : Int)) ∧ lo ≤ x ∧ x < hi) ∧ Sv w0 g o n c q sw w') := by
  have := med16 w0 w g o n c cap (a - 1) a (a + 1) sw lo hi q h hs hne (by omega) (by omega) (by omega) (by omega) (by omega) (by omega) hh hn
  rw [show ((a - 1 : Nat) : Int) = (a : Int) - 1 by omega, show ((a + 1 : Nat) : Int) = (a : Int) + 1 by omega] at this
  exact this
 clear h
 go_enter Tryz.func153, Tryz.ntmps153
 go_wp2_with (go_at_call 154; refine HM.out.mono ?_; rintro e w1 ⟨⟨x, rfl, p1, p2⟩, h1⟩; have H1 : Hid (Sv w0 g o n c q sw w1) := h1; clear h1)
 go_ret
 exact ⟨⟨x, rfl, p1, p2⟩, H1.out⟩
theorem piv16 (w0 w : World) (g o n c cap a b l : Nat) (q : Nat → Nat) (h : Sx w0 g o n c q w) (hab : a + l = b) (h8 : 8 ≤ l) (hb : b ≤ n) (hn : n ≤ 17592186044416) :
  Calls Tryz.prog 131 #[.slice (some ⟨g, o, none⟩) n cap, .int .i64 (a : Int), .int .i64 (b : Int)] w fun e w' => (∃ x t : Nat, e = .returned (.tuple #[.int .i64 (x : Int), .int .i64 (t : Int)]) ∧ a ≤ x ∧ x < b) ∧ Sx w0 g o n c q w' := by
 obtain ⟨l4, hl4⟩ : ∃ l4 : Nat, l4 = l / 4 := ⟨_, rfl⟩
 have k1 : l4 * 4 ≤ l := by omega
 have k2 : 2 ≤ l4 := by omega
 have k3 : l < l4 * 4 + 4 := by omega
 have e1 : (b : Int) - (a : Int) = (l : Int) := by omega
 have e2 : (l : Int).tdiv 4 = (l4 : Int) := by rw [Int.tdiv_eq_ediv_of_nonneg (by omega)]; omega
 have hs0 : w0.heap.size ≤ w.heap.size := let ⟨f, hf⟩ := h; hf.gr.size
 have hg0 : w.heap.size ≠ g := by
  obtain ⟨f, hf⟩ := h
  have := hf.lt
  omega
 obtain ⟨wb, HW⟩ : ∃ wb, Hid (w.alloc (.cells #[.int .i64 0] 3) = wb) := ⟨_, rfl⟩
 have H0 : Hid (Sv w0 g o n c q w.heap.size wb) := by
  rw [← HW.out]
  exact ⟨h.below (jlow _ _), 0, qiu w _⟩
 have HA : Hid (∀ w' (X : Int) (x : Nat), X = (x : Int) → Sv w0 g o n c q w.heap.size w' → a + 1 ≤ x → x + 1 < b → Calls Tryz.prog 153 #[.slice (some ⟨g, o, none⟩) n cap, .int .i64 X, .pointer (some ⟨w.heap.size, 0, none⟩)] w' fun e w'' => (∃ x : Nat, e = .returned (.int .i64 (x : Int)) ∧ a ≤ x ∧ x < b) ∧ Sv w0 g o n c q w.heap.size w'') := fun w' X x hX h h1 h2 => by
  rw [hX]
  exact adj16 w0 w' g o n c cap x w.heap.size a b q h hs0 hg0 h1 h2 hb hn
 have HM : Hid (∀ w' (X Y Z : Int) (x y z : Nat), X = (x : Int) → Y = (y : Int) → Z = (z : Int) → Sv w0 g o n c q w.heap.size w' → a ≤ x → x < b → a ≤ y → y < b → a ≤ z → z < b → Calls Tryz.prog 154 #[.slice (some ⟨g, o, none⟩) n cap, .int .i64 X, .int .i64 Y, .int .i64 Z, .pointer (some ⟨w.heap.size, 0, none⟩)] w' fun e w'' => (∃ x : Nat, e = .returned (.int .i64 (x : Int)) ∧ a ≤ x ∧ x < b) ∧ Sv w0 g o n c q w.heap.size w'') := fun w' X Y Z x y z hX hY hZ h h1 h2 h3 h4 h5 h6 => by
  rw [hX, hY, hZ]
  exact med16 w0 w' g o n c cap x y z w.heap.size a b q h hs0 hg0 h1 h2 h3 h4 h5 h6 hb hn
 have M1 : Hid True := trivial
 have hal : a + l4 * 4 ≤ b := by omega
 clear h hl4 hab
 by_cases h50 : 50 ≤ l
 ·have k5 : 12 ≤ l4 := by omega
  go_enter Tryz.func131, Tryz.ntmps131
  go_wp2_with (first
   | (go_at_call 153; clear M1; rw [HW.out]; refine (HA.out _ _ (a + l4) (by omega) H0.out (by omega) (by omega)).mono ?_; rintro e w1 ⟨⟨x1, rfl, p1, r1⟩, h1⟩; have H1 : Hid (Sv w0 g o n c q w.heap.size w1) := h1; have M2 : Hid True := trivial; clear h1)
   | (go_at_call 153; clear M2; refine (HA.out _ _ (a + l4 * 2) (by omega) H1.out (by omega) (by omega)).mono ?_; rintro e w2 ⟨⟨x2, rfl, p2, r2⟩, h2⟩; have H2 : Hid (Sv w0 g o n c q w.heap.size w2) := h2; have M3 : Hid True := trivial; clear h2)
   | (go_at_call 153; clear M3; refine (HA.out _ _ (a + l4 * 3) (by omega) H2.out (by omega) (by omega)).mono ?_; rintro e w3 ⟨⟨x3, rfl, p3, r3⟩, h3⟩; have H3 : Hid (Sv w0 g o n c q w.heap.size w3) := h3; have M4 : Hid True := trivial; clear h3)
   | (go_at_call 154; clear M4; refine (HM.out _ _ _ _ x1 x2 x3 rfl rfl rfl H3.out p1 r1 p2 r2 p3 r3).mono ?_; rintro e w4 ⟨⟨x4, rfl, p4, r4⟩, h4⟩; have H4 : Hid (Sx w0 g o n c q w4) := h4.sx; obtain ⟨sv, hsv⟩ := h4.sc; have c4 : w4.cell? ⟨w.heap.size, 0, none⟩ = some (.int .i64 sv) := (by rw [cell_of_row w4 w.heap.size 0 _ _ _ hsv]; rfl); clear h4 hsv))
  ·go_ret2
   exact ⟨⟨x4, 1, rfl, p4, r4⟩, H4.out⟩
  ·go_ret2
   exact ⟨⟨x4, 2, rfl, p4, r4⟩, H4.out⟩
  ·go_ret2
   exact ⟨⟨x4, 0, rfl, p4, r4⟩, H4.out⟩
 ·go_enter Tryz.func131, Tryz.ntmps131
  go_wp2_with (go_at_call 154; rw [HW.out]; refine (HM.out _ _ _ _ (a + l4) (a + l4 * 2) (a + l4 * 3) (by omega) (by omega) (by omega) H0.out (by omega) (by omega) (by omega) (by omega) (by omega) (by omega)).mono ?_; rintro e w4 ⟨⟨x4, rfl, p4, r4⟩, h4⟩; have H4 : Hid (Sx w0 g o n c q w4) := h4.sx; obtain ⟨sv, hsv⟩ := h4.sc; have c4 : w4.cell? ⟨w.heap.size, 0, none⟩ = some (.int .i64 sv) := (by rw [cell_of_row w4 w.heap.size 0 _ _ _ hsv]; rfl); clear h4 hsv)
  ·go_ret2
   exact ⟨⟨x4, 1, rfl, p4, r4⟩, H4.out⟩
  ·go_ret2
   exact ⟨⟨x4, 2, rfl, p4, r4⟩, H4.out⟩
  ·go_ret2
   exact ⟨⟨x4, 0, rfl, p4, r4⟩, H4.out⟩
end Go.Proofs.YtmgfeepnkahkmaaGreat
