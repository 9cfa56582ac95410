/-
  slices.Sort of a list of sets: order2, median, medianAdjacent, choosePivot: what is chosen lies in the bounds.
  slices.Sort of a list of sets: xorshift's next number, a power of two, breakPatterns.
-/
import Derived.Test.YtblagbghpfopcaaGreatQwwin00
import Derived.Test.YtblagbghpfopcaaGreatQwwin22
import Derived.Test.YtblagbghpfopcaaGreatQwwin23
import Derived.Laws.Bits64
import Derived.Laws.Bits64b
import Derived.Sort.WalkA14
import Derived.Sort.LotD1
import Derived.Sort.Walk7a
set_option maxRecDepth 100000
set_option maxHeartbeats 16000000
namespace Go.Proofs.YtblagbghpfopcaaGreat
open Go.RowKit
theorem qkj (w : World) (o : Obj) : (w.alloc o).heap[w.heap.size]? = some o := Go.heap_alloc_new w o
theorem Sq.other {w0 w : World} {g o n c : Nat} {q f : Nat → Nat} (h : Sq w0 w g o n c q f) {sw i : Nat} (hs : w0.heap.size ≤ sw) (hne : sw ≠ g) (v : Value) : Sq w0 (w.setCell ⟨sw, i, none⟩ v) g o n c q f := by
 have hb : (w.setCell ⟨sw, i, none⟩ v).heap[g]? = w.heap[g]? := Below.heap_setCell w ⟨sw, i, none⟩ v g (fun e => hne e.symm)
 refine ⟨fun t ht => ?_, ?_, h.hs, h.gr.os, h.gr.tape, h.gr.output, by simpa using h.gr.size, fun k hk hr => ?_⟩
 ·rw [World.cell?_of_block (a := ⟨g, o + t, none⟩) hb]; exact h.cell t ht
 ·obtain ⟨cur, hc, hz⟩ := h.sh
  exact ⟨cur, by rw [hb]; exact hc, hz⟩
 ·rw [Below.heap_setCell w ⟨sw, i, none⟩ v k (fun e => by simp at e; omega)]; exact h.gr.block k hk hr
/-- The list, and a number that is counted up. -/
structure Sv (w0 : World) (g o n c : Nat) (q : Nat → Nat) (sw : Nat) (w : World) : Prop where
 sx : Sx w0 g o n c q w
 sc : ∃ v, w.heap[sw]? = some (.cells #[.int .i64 v] 3 (0, 0))
theorem Sv.below {w0 w w' : World} {g o n c sw : Nat} {q : Nat → Nat} (h : Sv w0 g o n c q sw w) (hb : Below w.heap.size w w') : Sv w0 g o n c q sw w' := ⟨h.sx.below hb, let ⟨v, hv⟩ := h.sc; ⟨v, by rw [hb.block sw (lt_of_block hv)]; exact hv⟩⟩
theorem Sv.put {w0 w : World} {g o n c sw : Nat} {q : Nat → Nat} (h : Sv w0 g o n c q sw w) (hs : w0.heap.size ≤ sw) (hne : sw ≠ g) (v : Int) : Sv w0 g o n c q sw (w.setCell ⟨sw, 0, none⟩ (.int .i64 v)) := by
 obtain ⟨⟨f, hf⟩, u, hu⟩ := h
 exact ⟨⟨f, hf.other hs hne _⟩, v, by rw [setCell_eq_setRow w sw 0 _ _ (0, 0) _ hu, setRow_heap w sw _ _ _ (0, 0) hu]; rfl⟩
theorem ord16 (w0 w : World) (g o n c cap a b sw lo hi : Nat) (q : Nat → Nat) (h : Sv w0 g o n c q sw w) (hs : w0.heap.size ≤ sw) (hne : sw ≠ g) (ha : lo ≤ a) (ha2 : a < hi) (hb : lo ≤ b) (hb2 : b < hi) (hh : hi ≤ n) (_hn : n ≤ 17592186044416) :
  Calls Tryz.prog 166 #[.slice (some ⟨g, o, none⟩) n cap, .int .i64 (a : Int), .int .i64 (b : Int), .pointer (some ⟨sw, 0, none⟩)] w fun e w' => (∃ x y : Nat, e = .returned (.tuple #[.int .i64 (x : Int), .int .i64 (y : Int)]) ∧ lo ≤ x ∧ x < hi ∧ lo ≤ y ∧ y < hi) ∧ Sv w0 g o n c q sw w' := by
 obtain ⟨⟨f, hS⟩, v, hv⟩ := h
 have hcw := hS.cell
 have HQ : Hid (Sq w0 w g o n c q f) := hS
 have HV : Hid (w.heap[sw]? = some (.cells #[.int .i64 v] 3 (0, 0))) := hv
 have c0 : w.cell? ⟨sw, 0, none⟩ = some (.int .i64 v) := by rw [cell_of_row w sw 0 _ _ _ hv]; rfl
 have f0 : w.frozen? ⟨sw, 0, none⟩ = false := by simp [World.frozen?, hv]
 clear hS hv
 go_enter Tryz.func166, Tryz.ntmps166
 go_wp2
 go_quiet ((go_at_call 148; refine Calls.quiet_of_same (qak _ _ _)))
 have HS : Hid (Sv w0 g o n c q sw (w.drewN nq)) := ⟨⟨f, HQ.out.drewN _⟩, v, HV.out⟩
 go_wp2
 ·go_ret2
  exact ⟨⟨b, a, rfl, by omega, by omega, by omega, by omega⟩, HS.out.put hs hne _⟩
 ·go_ret2
  exact ⟨⟨a, b, rfl, by omega, by omega, by omega, by omega⟩, HS.out⟩
theorem med16 (w0 w : World) (g o n c cap a b d sw lo hi : Nat) (q : Nat → Nat) (h : Sv w0 g o n c q sw w) (hs : w0.heap.size ≤ sw) (hne : sw ≠ g) (ha : lo ≤ a) (ha2 : a < hi) (hb : lo ≤ b) (hb2 : b < hi) (hd : lo ≤ d) (hd2 : d < hi) (hh : hi ≤ n) (hn : n ≤ 17592186044416) :
  Calls Tryz.prog 163 #[.slice (some ⟨g, o, none⟩) n cap, .int .i64 (a : Int), .int .i64 (b : Int), .int .i64 (d : Int), .pointer (some ⟨sw, 0, none⟩)] w fun e w' => (∃ x : Nat, e = .returned (.int .i64 (x : Int)) ∧ lo ≤ x ∧ x < hi) ∧ Sv w0 g o n c q sw w' := by
 have HO : Hid (∀ w a b, Sv w0 g o n c q sw w → lo ≤ a → a < hi → lo ≤ b → b < hi → Calls Tryz.prog 166 #[.slice (some ⟨g, o, none⟩) n cap, .int .i64 ((a : Nat) : Int), .int .i64 ((b : Nat) : Int), .pointer (some ⟨sw, 0, none⟩)] w fun e w' => (∃ x y : Nat, e = .returned (.tuple #[.int .i64 (x : Int), .int .i64 (y : Int)]) ∧ lo ≤ x ∧ x < hi ∧ lo ≤ y ∧ y < hi) ∧ Sv w0 g o n c q sw w') := fun w a b h h1 h2 h3 h4 => ord16 w0 w g o n c cap a b sw lo hi q h hs hne h1 h2 h3 h4 hh hn
 have H0 : Hid (Sv w0 g o n c q sw w) := h
 have M1 : Hid True := trivial
 clear h
 go_enter Tryz.func163, Tryz.ntmps163
 go_wp2_with (first
  | (go_at_call 166; clear M1; refine (HO.out _ a b H0.out ha ha2 hb hb2).mono ?_; rintro e w1 ⟨⟨x1, y1, rfl, p1, p2, p3, p4⟩, h1⟩; have H1 : Hid (Sv w0 g o n c q sw w1) := h1; have M2 : Hid True := trivial; clear h1)
  | (go_at_call 166; clear M2; refine (HO.out _ y1 d H1.out p3 p4 hd hd2).mono ?_; rintro e w2 ⟨⟨x2, y2, rfl, r1, r2, r3, r4⟩, h2⟩; have H2 : Hid (Sv w0 g o n c q sw w2) := h2; have M3 : Hid True := trivial; clear h2)
  | (go_at_call 166; clear M3; refine (HO.out _ x1 x2 H2.out p1 p2 r1 r2).mono ?_; rintro e w3 ⟨⟨x3, y3, rfl, s1, s2, s3, s4⟩, h3⟩; have H3 : Hid (Sv w0 g o n c q sw w3) := h3; clear h3))
 go_ret
 exact ⟨⟨y3, rfl, s3, s4⟩, H3.out⟩
theorem adj16 (w0 w : World) (g o n c cap a sw lo hi : Nat) (q : Nat → Nat) (h : Sv w0 g o n c q sw w) (hs : w0.heap.size ≤ sw) (hne : sw ≠ g) (ha : lo + 1 ≤ a) (ha2 : a + 1 < hi) (hh : hi ≤ n) (hn : n ≤ 17592186044416) :
  Calls Tryz.prog 162 #[.slice (some ⟨g, o, none⟩) n cap, .int .i64 (a : Int), .pointer (some ⟨sw, 0, none⟩)] w fun e w' => (∃ x : Nat, e = .returned (.int .i64 (x : Int)) ∧ lo ≤ x ∧ x < hi) ∧ Sv w0 g o n c q sw w' := by
 have HM : Hid (Calls Tryz.prog 163 #[.slice (some ⟨g, o, none⟩) n cap, .int .i64 ((a : Int) - 1), .int .i64 (a : Int), .int .i64 ((a : Int) + 1), .pointer (some ⟨sw, 0, none⟩)] w fun e w' => (∃ x : Nat, e = .returned (.int .i64 (x : Int)) ∧ lo ≤ x ∧ x < hi) ∧ Sv w0 g o n c q sw w') := by
  have := med16 w0 w g o n c cap (a - 1) a (a + 1) sw lo hi q h hs hne (by omega) (by omega) (by omega) (by omega) (by omega) (by omega) hh hn
  rw [show ((a - 1 : Nat) : Int) = (a : Int) - 1 by omega, show ((a + 1 : Nat) : Int) = (a : Int) + 1 by omega] at this
  exact this
 clear h
 go_enter Tryz.func162, Tryz.ntmps162
 go_wp2_with (go_at_call 163; refine HM.out.mono ?_; rintro e w1 ⟨⟨x, rfl, p1, p2⟩, h1⟩; have H1 : Hid (Sv w0 g o n c q sw w1) := h1; clear h1)
 go_ret
 exact ⟨⟨x, rfl, p1, p2⟩, H1.out⟩
theorem piv16 (w0 w : World) (g o n c cap a b l : Nat) (q : Nat → Nat) (h : Sx w0 g o n c q w) (hab : a + l = b) (h8 : 8 ≤ l) (hb : b ≤ n) (hn : n ≤ 17592186044416) :
  Calls Tryz.prog 145 #[.slice (some ⟨g, o, none⟩) n cap, .int .i64 (a : Int), .int .i64 (b : Int)] w fun e w' => (∃ x t : Nat, e = .returned (.tuple #[.int .i64 (x : Int), .int .i64 (t : Int)]) ∧ a ≤ x ∧ x < b) ∧ Sx w0 g o n c q w' := by
 obtain ⟨l4, hl4⟩ : ∃ l4 : Nat, l4 = l / 4 := ⟨_, rfl⟩
 have k1 : l4 * 4 ≤ l := by omega
 have k2 : 2 ≤ l4 := by omega
 have k3 : l < l4 * 4 + 4 := by omega
 have e1 : (b : Int) - (a : Int) = (l : Int) := by omega
 have e2 : (l : Int).tdiv 4 = (l4 : Int) := by rw [Int.tdiv_eq_ediv_of_nonneg (by omega)]; omega
 have hs0 : w0.heap.size ≤ w.heap.size := let ⟨f, hf⟩ := h; hf.gr.size
 have hg0 : w.heap.size ≠ g := by
  obtain ⟨f, hf⟩ := h
  have := hf.lt
  omega
 obtain ⟨wb, HW⟩ : ∃ wb, Hid (w.alloc (.cells #[.int .i64 0] 3) = wb) := ⟨_, rfl⟩
 have H0 : Hid (Sv w0 g o n c q w.heap.size wb) := by
  rw [← HW.out]
  exact ⟨h.below (jlow _ _), 0, qkj w _⟩
 have HA : Hid (∀ w' (X : Int) (x : Nat), X = (x : Int) → Sv w0 g o n c q w.heap.size w' → a + 1 ≤ x → x + 1 < b → Calls Tryz.prog 162 #[.slice (some ⟨g, o, none⟩) n cap, .int .i64 X, .pointer (some ⟨w.heap.size, 0, none⟩)] w' fun e w'' => (∃ x : Nat, e = .returned (.int .i64 (x : Int)) ∧ a ≤ x ∧ x < b) ∧ Sv w0 g o n c q w.heap.size w'') := fun w' X x hX h h1 h2 => by
  rw [hX]
  exact adj16 w0 w' g o n c cap x w.heap.size a b q h hs0 hg0 h1 h2 hb hn
 have HM : Hid (∀ w' (X Y Z : Int) (x y z : Nat), X = (x : Int) → Y = (y : Int) → Z = (z : Int) → Sv w0 g o n c q w.heap.size w' → a ≤ x → x < b → a ≤ y → y < b → a ≤ z → z < b → Calls Tryz.prog 163 #[.slice (some ⟨g, o, none⟩) n cap, .int .i64 X, .int .i64 Y, .int .i64 Z, .pointer (some ⟨w.heap.size, 0, none⟩)] w' fun e w'' => (∃ x : Nat, e = .returned (.int .i64 (x : Int)) ∧ a ≤ x ∧ x < b) ∧ Sv w0 g o n c q w.heap.size w'') := fun w' X Y Z x y z hX hY hZ h h1 h2 h3 h4 h5 h6 => by
  rw [hX, hY, hZ]
  exact med16 w0 w' g o n c cap x y z w.heap.size a b q h hs0 hg0 h1 h2 h3 h4 h5 h6 hb hn
 have M1 : Hid True := trivial
 have hal : a + l4 * 4 ≤ b := by omega
 clear h hl4 hab
 by_cases h50 : 50 ≤ l
 ·have k5 : 12 ≤ l4 := by omega
  go_enter Tryz.func145, Tryz.ntmps145
  go_wp2_with (first
   | (go_at_call 162; clear M1; rw [HW.out]; refine (HA.out _ _ (a + l4) (by omega) H0.out (by omega) (by omega)).mono ?_; rintro e w1 ⟨⟨x1, rfl, p1, r1⟩, h1⟩; have H1 : Hid (Sv w0 g o n c q w.heap.size w1) := h1; have M2 : Hid True := trivial; clear h1)
   | (go_at_call 162; clear M2; refine (HA.out _ _ (a + l4 * 2) (by omega) H1.out (by omega) (by omega)).mono ?_; rintro e w2 ⟨⟨x2, rfl, p2, r2⟩, h2⟩; have H2 : Hid (Sv w0 g o n c q w.heap.size w2) := h2; have M3 : Hid True := trivial; clear h2)
   | (go_at_call 162; clear M3; refine (HA.out _ _ (a + l4 * 3) (by omega) H2.out (by omega) (by omega)).mono ?_; rintro e w3 ⟨⟨x3, rfl, p3, r3⟩, h3⟩; have H3 : Hid (Sv w0 g o n c q w.heap.size w3) := h3; have M4 : Hid True := trivial; clear h3)
   | (go_at_call 163; clear M4; refine (HM.out _ _ _ _ x1 x2 x3 rfl rfl rfl H3.out p1 r1 p2 r2 p3 r3).mono ?_; rintro e w4 ⟨⟨x4, rfl, p4, r4⟩, h4⟩; have H4 : Hid (Sx w0 g o n c q w4) := h4.sx; obtain ⟨sv, hsv⟩ := h4.sc; have c4 : w4.cell? ⟨w.heap.size, 0, none⟩ = some (.int .i64 sv) := (by rw [cell_of_row w4 w.heap.size 0 _ _ _ hsv]; rfl); clear h4 hsv))
  ·go_ret2
   exact ⟨⟨x4, 1, rfl, p4, r4⟩, H4.out⟩
  ·go_ret2
   exact ⟨⟨x4, 2, rfl, p4, r4⟩, H4.out⟩
  ·go_ret2
   exact ⟨⟨x4, 0, rfl, p4, r4⟩, H4.out⟩
 ·go_enter Tryz.func145, Tryz.ntmps145
  go_wp2_with (go_at_call 163; rw [HW.out]; refine (HM.out _ _ _ _ (a + l4) (a + l4 * 2) (a + l4 * 3) (by omega) (by omega) (by omega) H0.out (by omega) (by omega) (by omega) (by omega) (by omega) (by omega)).mono ?_; rintro e w4 ⟨⟨x4, rfl, p4, r4⟩, h4⟩; have H4 : Hid (Sx w0 g o n c q w4) := h4.sx; obtain ⟨sv, hsv⟩ := h4.sc; have c4 : w4.cell? ⟨w.heap.size, 0, none⟩ = some (.int .i64 sv) := (by rw [cell_of_row w4 w.heap.size 0 _ _ _ hsv]; rfl); clear h4 hsv)
  ·go_ret2
   exact ⟨⟨x4, 1, rfl, p4, r4⟩, H4.out⟩
  ·go_ret2
   exact ⟨⟨x4, 2, rfl, p4, r4⟩, H4.out⟩
  ·go_ret2
   exact ⟨⟨x4, 0, rfl, p4, r4⟩, H4.out⟩
open Go.RowKit
theorem qfo (a b : Int) (h1 : 0 ≤ a) (h2 : a < 18446744073709551616) (h3 : 0 ≤ b) (h4 : b < 18446744073709551616) : ∃ c : Nat, c < 18446744073709551616 ∧ bits .xor .u64 a b = (c : Int) := by
 obtain ⟨x, rfl⟩ := Int.eq_ofNat_of_zero_le h1
 obtain ⟨y, rfl⟩ := Int.eq_ofNat_of_zero_le h3
 exact ⟨x ^^^ y, Nat.xor_lt_two_pow (n := 64) (by omega) (by omega), bits_xor_u64_nat x y (by omega) (by omega)⟩
theorem qbr (x : Int) : 0 ≤ IntKind.u64.wrap x ∧ IntKind.u64.wrap x < 18446744073709551616 := by
 rw [IntKind.wrap_u64]
 omega
theorem pow_len (n : Nat) (h : 1 ≤ n) (hn : n < 4611686018427387904) : ∃ k, Lib.bitLen n = k ∧ k ≤ 62 ∧ 2 ^ k ≤ 2 * n ∧ n < 2 ^ k := by
 have e := bitLen_eq n (by omega)
 have h1 := (Sort.bitsLen_le_iff n (Sort.bitsLen n)).1 (Nat.le_refl _)
 refine ⟨_, e, (Sort.bitsLen_le_iff n 62).2 (by omega), ?_, h1⟩
 have h0 : Sort.bitsLen n ≠ 0 := fun h0 => by
  rw [h0] at h1
  omega
 obtain ⟨k, hk⟩ : ∃ k, Sort.bitsLen n = k + 1 := ⟨Sort.bitsLen n - 1, by omega⟩
 have h2 : ¬ n < 2 ^ k := fun h2 => by
  have := (Sort.bitsLen_le_iff n k).2 h2
  omega
 rw [hk, Nat.pow_succ]
 omega
theorem next16 (w : World) (rb X : Nat) (hX : X < 18446744073709551616) (hc : w.cell? ⟨rb, 0, none⟩ = some (.int .u64 (X : Int))) (hf : w.frozen? ⟨rb, 0, none⟩ = false) :
  Calls Tryz.prog 161 #[.pointer (some ⟨rb, 0, none⟩)] w fun e w' => ∃ C m : Nat, C < 18446744073709551616 ∧ e = .returned (.int .u64 (C : Int)) ∧ w' = (w.setCell ⟨rb, 0, none⟩ (.int .u64 (C : Int))).drewN m := by
 obtain ⟨A, lA, e1⟩ := qfo (X : Int) (IntKind.u64.wrap ((X : Int) * 8192)) (by omega) (by omega) (qbr _).1 (qbr _).2
 obtain ⟨B, lB, e2⟩ := qfo (A : Int) ((A : Int) / 128) (by omega) (by omega) (by omega) (by omega)
 obtain ⟨C, lC, e3⟩ := qfo (B : Int) (IntKind.u64.wrap ((B : Int) * 131072)) (by omega) (by omega) (qbr _).1 (qbr _).2
 have hss : ∀ v v', (w.setCell ⟨rb, 0, none⟩ v).setCell ⟨rb, 0, none⟩ v' = w.setCell ⟨rb, 0, none⟩ v' := setCell_setCell w rb 0
 go_enter Tryz.func161, Tryz.ntmps161
 go_wp2
 go_region
 all_goals go_wp2
 all_goals go_region
 all_goals go_wp2
 all_goals go_region
 all_goals go_wp2
 go_ret
 exact ⟨C, 3, lC, rfl, rfl⟩
theorem pow16 (w : World) (n : Nat) (h1 : 1 ≤ n) (hn : n < 4611686018427387904) :
  Calls Tryz.prog 160 #[.int .i64 (n : Int)] w fun e w' => ∃ M : Nat, n < M ∧ M ≤ 2 * n ∧ e = .returned (.int .u64 (M : Int)) ∧ w' = w := by
 obtain ⟨k, ek, hk, h2, h3⟩ := pow_len n h1 hn
 have HL : Hid (∀ w, Calls Tryz.prog 133 #[.int .u64 (n : Int)] w fun e w' => e = .returned (.int .i64 (k : Int)) ∧ w' = w) := fun w => by
  have := lenx16 w (n : Int) (by omega) (by omega)
  rwa [Int.toNat_natCast, ek] at this
 have hp := wrap_two_pow k hk
 have hq : ((1 <<< k : Nat) : Int) = ((2 ^ k : Nat) : Int) := by rw [Nat.one_shiftLeft]
 rw [hq] at hp
 obtain ⟨M, HM⟩ : ∃ M : Nat, Hid (2 ^ k = M) := ⟨_, rfl⟩
 rw [HM.out] at hp h2 h3
 have wr : IntKind.u64.wrap (n : Int) = n := by rw [IntKind.wrap_u64]; omega
 clear hq ek
 go_enter Tryz.func160, Tryz.ntmps160
 go_wp2_with (go_at_call 133; refine (HL.out _).mono ?_; rintro e w' ⟨rfl, rfl⟩)
 go_ret
 exact ⟨M, h3, h2, rfl, rfl⟩
/-- The list, and xorshift's number. -/
structure Su (w0 : World) (g o n c : Nat) (q : Nat → Nat) (rb : Nat) (w : World) : Prop where
 sx : Sx w0 g o n c q w
 sc : ∃ v : Nat, v < 18446744073709551616 ∧ w.heap[rb]? = some (.cells #[.int .u64 (v : Int)] 185 (0, 0))
theorem Su.below {w0 w w' : World} {g o n c rb : Nat} {q : Nat → Nat} (h : Su w0 g o n c q rb w) (hb : Below w.heap.size w w') : Su w0 g o n c q rb w' := ⟨h.sx.below hb, let ⟨v, hl, hv⟩ := h.sc; ⟨v, hl, by rw [hb.block rb (lt_of_block hv)]; exact hv⟩⟩
theorem Su.kept {w0 w w' : World} {g o n c rb : Nat} {q : Nat → Nat} (h : Su w0 g o n c q rb w) (hx : Sx w0 g o n c q w') (hb : w'.heap[rb]? = w.heap[rb]?) : Su w0 g o n c q rb w' := ⟨hx, let ⟨v, hl, hv⟩ := h.sc; ⟨v, hl, by rw [hb]; exact hv⟩⟩
theorem nexts16 (w0 w : World) (g o n c rb : Nat) (q : Nat → Nat) (h : Su w0 g o n c q rb w) (hs : w0.heap.size ≤ rb) (hne : rb ≠ g) :
  Calls Tryz.prog 161 #[.pointer (some ⟨rb, 0, none⟩)] w fun e w' => ∃ C : Nat, C < 18446744073709551616 ∧ e = .returned (.int .u64 (C : Int)) ∧ Su w0 g o n c q rb w' := by
 obtain ⟨⟨f, hf⟩, v, hl, hv⟩ := h
 refine (next16 w rb v hl (by rw [cell_of_row w rb 0 _ _ _ hv]; rfl) (by simp [World.frozen?, hv])).mono ?_
 rintro e w' ⟨C, m, hC, rfl, rfl⟩
 have h1 : Su w0 g o n c q rb (w.setCell ⟨rb, 0, none⟩ (.int .u64 (C : Int))) := ⟨⟨f, hf.other hs hne _⟩, C, hC, by rw [setCell_eq_setRow w rb 0 _ _ (0, 0) _ hv, setRow_heap w rb _ _ _ (0, 0) hv]; rfl⟩
 exact ⟨C, hC, rfl, h1.below (below_drewN (Below.refl _ _) m)⟩
theorem and_some (a M : Nat) (ha : a < 18446744073709551616) (h0 : 1 ≤ M) (hM : M < 18446744073709551616) : ∃ x : Nat, x < M ∧ bits .and .u64 (a : Int) ((M : Int) - 1) = (x : Int) := by
 refine ⟨a &&& (M - 1), ?_, ?_⟩
 ·have := @Nat.and_le_right a (M - 1)
  omega
 ·rw [show (M : Int) - 1 = ((M - 1 : Nat) : Int) by omega]
  exact bits_and_u64_nat a (M - 1) ha (by omega)
theorem brk16 (w0 w : World) (g o n c cap a b l : Nat) (q : Nat → Nat) (h : Sx w0 g o n c q w) (hab : a + l = b) (h8 : 8 ≤ l) (hb : b ≤ n) (hn : n ≤ 17592186044416) :
  Calls Tryz.prog 144 #[.slice (some ⟨g, o, none⟩) n cap, .int .i64 (a : Int), .int .i64 (b : Int)] w fun e w' => e = .returned (.tuple #[]) ∧ Sx w0 g o n c q w' := by
 obtain ⟨l4, hl4⟩ : ∃ l4 : Nat, l4 = l / 4 := ⟨_, rfl⟩
 have k1 : l4 * 4 ≤ l := by omega
 have k2 : 2 ≤ l4 := by omega
 have e1 : (b : Int) - (a : Int) = (l : Int) := by omega
 have e2 : (l : Int).tdiv 4 = (l4 : Int) := by rw [Int.tdiv_eq_ediv_of_nonneg (by omega)]; omega
 have hs0 : w0.heap.size ≤ w.heap.size := let ⟨f, hf⟩ := h; hf.gr.size
 have hg0 : w.heap.size ≠ g := by
  obtain ⟨f, hf⟩ := h
  have := hf.lt
  omega
 have el : IntKind.u64.wrap (l : Int) = (l : Int) := by rw [IntKind.wrap_u64]; omega
 obtain ⟨wb, HW⟩ : ∃ wb, Hid (w.alloc (.cells #[.int .u64 (l : Int)] 185) = wb) := ⟨_, rfl⟩
 have H0 : Hid (Su w0 g o n c q w.heap.size wb) := by
  rw [← HW.out]
  exact ⟨h.below (jlow _ _), l, by omega, qkj w _⟩
 have hal : a + l4 * 4 ≤ b := by omega
 have hlb : a + l ≤ b := by omega
 clear h hl4 hab
 go_enter Tryz.func144, Tryz.ntmps144
 go_wp2_with (go_at_call 160; rw [HW.out]; refine (pow16 _ l (by omega) (by omega)).mono ?_; rintro e w' ⟨M, hM1, hM2, rfl, rfl⟩)
 go_loopw [9] (fun vi wr => ∃ i : Nat, vi = .int .i64 (i : Int) ∧ a + 3 ≤ i ∧ i ≤ a + l4 * 2 + 2 ∧ Su w0 g o n c q w.heap.size wr) (fun vi _ => a + l4 * 2 + 2 - (intOf vi).toNat)
 case atStart => exact ⟨a + l4 * 2 - 1, by congr 1; omega, by omega, by omega, H0.out⟩
 case round =>
  obtain ⟨i, rfl, hi1, hi2, hS⟩ := hrel
  have HS : Hid (Su w0 g o n c q w.heap.size wr) := hS
  clear hS H0
  by_cases hlt : i ≤ a + l4 * 2 + 1
  ·go_wp2_with (go_at_call 161; refine (nexts16 w0 _ g o n c w.heap.size q HS.out hs0 hg0).mono ?_; rintro e w1 ⟨C, hC, rfl, h1⟩; obtain ⟨x, hx, ex⟩ := and_some C M hC (by omega) (by omega); have H1 : Hid (Su w0 g o n c q w.heap.size w1) := h1; clear h1)
   ·have hlx : l ≤ x := by assumption
    obtain ⟨y, hy⟩ : ∃ y : Nat, x = l + y := ⟨x - l, by omega⟩
    rw [show (x : Int) - (l : Int) = (y : Int) by omega]
    have hyl : y < l := by omega
    clear hy
    obtain ⟨f, hS⟩ := H1.out.sx
    have hcw := hS.cell
    have hfw : ∀ t, t < n → w1.frozen? ⟨g, o + t, none⟩ = false := fun t _ => hS.free t
    have HX : Hid (Sx w0 g o n c q ((w1.setCell ⟨g, o + i, none⟩ (.int .u64 (f (a + y) : Nat))).setCell ⟨g, o + (a + y), none⟩ (.int .u64 (f i : Nat)))) := hS.swap (by omega) (by omega)
    obtain ⟨hz, hfz⟩ := hS.mid (i := i) (by omega) (f (a + y))
    obtain ⟨z, hz⟩ := hz (a + y) (by omega)
    have hfz := hfz (a + y)
    clear hS
    go_region
    all_goals go_wp2
    refine ⟨⟨i + 1, by go_num, by omega, by omega, H1.out.kept HX.out.drew ?_⟩, by simp [intOf]; omega⟩
    exact (Below.heap_setCell _ _ _ _ (fun e => hg0 e)).trans (Below.heap_setCell _ _ _ _ (fun e => hg0 e))
   ·have hlx : x < l := by omega
    obtain ⟨f, hS⟩ := H1.out.sx
    have hcw := hS.cell
    have hfw : ∀ t, t < n → w1.frozen? ⟨g, o + t, none⟩ = false := fun t _ => hS.free t
    have HX : Hid (Sx w0 g o n c q ((w1.setCell ⟨g, o + i, none⟩ (.int .u64 (f (a + x) : Nat))).setCell ⟨g, o + (a + x), none⟩ (.int .u64 (f i : Nat)))) := hS.swap (by omega) (by omega)
    obtain ⟨hz, hfz⟩ := hS.mid (i := i) (by omega) (f (a + x))
    obtain ⟨z, hz⟩ := hz (a + x) (by omega)
    have hfz := hfz (a + x)
    clear hS
    go_region
    all_goals go_wp2
    refine ⟨⟨i + 1, by go_num, by omega, by omega, H1.out.kept HX.out.drew ?_⟩, by simp [intOf]; omega⟩
    exact (Below.heap_setCell _ _ _ _ (fun e => hg0 e)).trans (Below.heap_setCell _ _ _ _ (fun e => hg0 e))
  ·go_wp2
   go_end0
   exact ⟨rfl, HS.out.sx⟩
end Go.Proofs.YtblagbghpfopcaaGreat
