/-
  The document's answer: codes by their numbers: plain, Reed, Cross.
  The document's answer: codes of portions.
-/
import Derived.Test.YtnfbbddoaeofgaaGreatQmmde00
import Derived.Test.YtnfbbddoaeofgaaGreatQmmde45
set_option maxRecDepth 100000
set_option maxHeartbeats 16000000
namespace Go.Proofs.YtnfbbddoaeofgaaGreat
open Go.RowKit
/-- What fails of k, l and m, l being no matter but for the sum. -/
def RpP (k l m E : Int) : Prop := ((k < 1 ∨ m < 0) ∧ E = 2) ∨ (¬ (k < 1 ∨ m < 0) ∧ 64 < k + l + m ∧ E = 4) ∨ (¬ (k < 1 ∨ m < 0) ∧ k + l + m ≤ 64 ∧ E = 0)
theorem qcj (w : World) (k l m E : Int) (hl : 0 ≤ l) (h : RpP k l m E) :
  Calls Tryz.prog 35 #[.int .i64 k, .int .i64 l, .int .i64 m] w fun e w' => e = .returned (.int .i64 E) ∧ w = w' := by
 have HE : Hid (RpP k l m E) := h
 clear h
 by_cases h1 : k < 1
 ·obtain rfl : E = 2 := by rcases HE.out with ⟨_, h⟩ | ⟨h, _⟩ | ⟨h, _⟩ <;> omega
  have g1 : decide (k < 1) = true := by simpa using h1
  clear HE h1
  go_enter Tryz.func35, Tryz.ntmps35
  go_wp2
  go_ret
  exact ⟨rfl, rfl⟩
 ·have g1 : decide (k < 1) = false := by simpa using h1
  by_cases h2 : m < 0
  ·obtain rfl : E = 2 := by rcases HE.out with ⟨_, h⟩ | ⟨h, _⟩ | ⟨h, _⟩ <;> omega
   have g2 : decide (m < 0) = true := by simpa using h2
   clear HE h1 h2
   go_enter Tryz.func35, Tryz.ntmps35
   go_wp2
   go_ret
   exact ⟨rfl, rfl⟩
  ·have g2 : decide (m < 0) = false := by simpa using h2
   by_cases h3 : 64 < k
   ·obtain rfl : E = 4 := by rcases HE.out with ⟨h, _⟩ | ⟨_, _, h⟩ | ⟨_, h, _⟩ <;> omega
    have g3 : decide (64 < k) = true := by simpa using h3
    clear HE h1 h2 h3
    go_enter Tryz.func35, Tryz.ntmps35
    go_wp2
    go_ret
    exact ⟨rfl, rfl⟩
   ·have g3 : decide (64 < k) = false := by simpa using h3
    by_cases h4 : 64 < l
    ·obtain rfl : E = 4 := by rcases HE.out with ⟨h, _⟩ | ⟨_, _, h⟩ | ⟨_, h, _⟩ <;> omega
     have g4 : decide (64 < l) = true := by simpa using h4
     clear HE h1 h2 h3 h4
     go_enter Tryz.func35, Tryz.ntmps35
     go_wp2
     go_ret
     exact ⟨rfl, rfl⟩
    ·have g4 : decide (64 < l) = false := by simpa using h4
     by_cases h5 : 64 < m
     ·obtain rfl : E = 4 := by rcases HE.out with ⟨h, _⟩ | ⟨_, _, h⟩ | ⟨_, h, _⟩ <;> omega
      have g5 : decide (64 < m) = true := by simpa using h5
      clear HE h1 h2 h3 h4 h5
      go_enter Tryz.func35, Tryz.ntmps35
      go_wp2
      go_ret
      exact ⟨rfl, rfl⟩
     ·have g5 : decide (64 < m) = false := by simpa using h5
      obtain ⟨x, HX⟩ : ∃ x, Hid (k + l = x) := ⟨_, rfl⟩
      have hx := HX.out
      obtain ⟨y, HY⟩ : ∃ y, Hid (x + m = y) := ⟨_, rfl⟩
      have hy := HY.out
      have w1 : IntKind.i64.wrap (k + l) = x := by rw [IntKind.wrap_i64]; omega
      have w2 : IntKind.i64.wrap (x + m) = y := by rw [IntKind.wrap_i64]; omega
      by_cases h6 : 64 < y
      ·obtain rfl : E = 4 := by rcases HE.out with ⟨h, _⟩ | ⟨_, _, h⟩ | ⟨_, h, _⟩ <;> omega
       have g6 : decide (64 < y) = true := by simpa using h6
       clear HE h1 h2 h3 h4 h5 h6 hx hy
       go_enter Tryz.func35, Tryz.ntmps35
       go_wp2
       go_ret
       exact ⟨rfl, rfl⟩
      ·obtain rfl : E = 0 := by rcases HE.out with ⟨h, _⟩ | ⟨_, h, _⟩ | ⟨_, _, h⟩ <;> omega
       have g6 : decide (64 < y) = false := by simpa using h6
       clear HE h1 h2 h3 h4 h5 h6 hx hy
       go_enter Tryz.func35, Tryz.ntmps35
       go_wp2
       go_ret
       exact ⟨rfl, rfl⟩
theorem qgu (w : World) (k m : Int) (R C : Int) (N : Nat) (f : Nat → Nat) (E : Int) (HE : Hid ((k < 1 ∨ m < 0) ∧ E = 2 ∧ R = 0 ∧ C = 0 ∧ N = 0 ∨ ¬ (k < 1 ∨ m < 0) ∧ 64 < k + m ∧ E = 4 ∧ R = 0 ∧ C = 0 ∧ N = 0 ∨ ¬ (k < 1 ∨ m < 0) ∧ k + m ≤ 64 ∧ E = 0 ∧ ∀ w, Calls Tryz.prog 36 #[.int .i64 k, .int .i64 m] w (fun e w' => MAns w w' e R C N f 0))) :
  Calls Tryz.prog 10 #[.int .i64 k, .int .i64 m] w fun e w' => CAns w w' e R C N f 0 (fun _ => 0) E := by
 have HV0 : Hid (Vq (w.alloc (.cells #[.int .i64 0, .int .i64 0, .slice none 0 0, .slice none 0 0] 27)) w.heap.size 27 #[.int .i64 0, .int .i64 0, .slice none 0 0, .slice none 0 0]) := Vq.new w _ _
 have HPl : Hid (∀ w, Calls Tryz.prog 35 #[.int .i64 k, .int .i64 0, .int .i64 m] w fun e w' => e = .returned (.int .i64 E) ∧ w = w') := fun w => qcj w k 0 m E (by omega) (by
  rcases HE.out with ⟨h1, h2, _⟩ | ⟨h1, h2, h3, _⟩ | ⟨h1, h2, h3, _⟩
  ·exact .inl ⟨h1, h2⟩
  ·exact .inr (.inl ⟨h1, by omega, h3⟩)
  ·exact .inr (.inr ⟨h1, by omega, h3⟩))
 by_cases hE : E = 0
 ·subst hE
  have HGe : Hid (∀ w, Calls Tryz.prog 36 #[.int .i64 k, .int .i64 m] w (fun e w' => MAns w w' e R C N f 0)) := by
   rcases HE.out with ⟨_, h2, _⟩ | ⟨_, _, h3, _⟩ | ⟨_, _, _, h4⟩
   ·omega
   ·omega
   ·exact h4
  clear HE
  go_enter Tryz.func10, Tryz.ntmps10
  go_wp2_with (first
   | (go_at_call 35; refine (HPl.out _).mono ?_; rintro e w' ⟨rfl, rfl⟩)
   | (go_at_call 36; refine (HGe.out _).mono ?_; rintro e w1 ⟨s1, d1, rfl, hm1, hb1⟩; have HM1 : Hid (Mt (w1.alloc (.cells #[.int .i64 R, .int .i64 C, .slice s1 N d1] 24)) s1 N d1 f) := hm1.later (qa0 _ _); have HB1 : Hid (Below w.heap.size w (w1.alloc (.cells #[.int .i64 R, .int .i64 C, .slice s1 N d1] 24))) := qa1 (qa1 (qa0 _ _) hb1) (qa0 _ _); have HV2 : Hid (Vq (w1.alloc (.cells #[.int .i64 R, .int .i64 C, .slice s1 N d1] 24)) w.heap.size 27 #[.int .i64 0, .int .i64 0, .slice none 0 0, .slice none 0 0]) := (HV0.out.later hb1).later (qa0 _ _); clear hm1 hb1)
   | (refine qa4 rfl 27 _ _ rfl w.heap.size _ #[.int .i64 R, .int .i64 C, .slice s1 N d1, .slice none 0 0] rfl rfl HV2.out sizeCo rfl (occ _ _ _ _ _ _ _ _) ?_; intro w5 HV5 HG5))
  have c0 := HV5.out.cell 0 _ rfl
  have c1 := HV5.out.cell 1 _ rfl
  have c2 := HV5.out.cell 2 _ rfl
  have c3 := HV5.out.cell 3 _ rfl
  refine bodyPost_ret (v := .tuple #[cv R C s1 N d1 none 0 0, .int .i64 0]) (by simp [results, Tryz.results10, go_sem, c0, c1, c2, c3, cv]) rfl ?_
  exact ⟨s1, d1, none, 0, rfl, HM1.out.kept HG5.out (fun hp x hx => qbm HM1.out.sl hp HV2.out x hx), fun i hi => by omega, qa2 HB1.out HG5.out (Nat.le_refl _)⟩
 ·obtain ⟨hR, hC, hN⟩ : R = 0 ∧ C = 0 ∧ N = 0 := by
   rcases HE.out with ⟨_, _, h⟩ | ⟨_, _, _, h⟩ | ⟨_, _, h3, _⟩
   ·exact h
   ·exact h
   ·exact absurd h3 hE
  subst hR
  subst hC
  subst hN
  have gE : (E != 0) = true := by simpa using hE
  have gE2 : (E == 0) = false := by simpa using hE
  clear HE hE
  go_enter Tryz.func10, Tryz.ntmps10
  go_wp2_with (first
   | (go_at_call 35; refine (HPl.out _).mono ?_; rintro e w' ⟨rfl, rfl⟩)
   | (refine qa4 rfl 27 _ _ rfl w.heap.size _ #[.int .i64 0, .int .i64 0, .slice none 0 0, .slice none 0 0] rfl rfl HV0.out sizeCo rfl (occ _ _ _ _ _ _ _ _) ?_; intro w5 HV5 HG5))
  have c0 := HV5.out.cell 0 _ rfl
  have c1 := HV5.out.cell 1 _ rfl
  have c2 := HV5.out.cell 2 _ rfl
  have c3 := HV5.out.cell 3 _ rfl
  refine bodyPost_ret (v := .tuple #[cv 0 0 none 0 0 none 0 0, .int .i64 E]) (by simp [results, Tryz.results10, go_sem, c0, c1, c2, c3, cv]) rfl ?_
  exact ⟨none, 0, none, 0, rfl, Mt.none _ _, fun i hi => by omega, qa2 (qa0 _ _) HG5.out (Nat.le_refl _)⟩
theorem qfl (w : World) (k m : Int) (R C : Int) (N : Nat) (f : Nat → Nat) (E : Int) (HE : Hid ((k < 1 ∨ m < 0) ∧ E = 2 ∧ R = 0 ∧ C = 0 ∧ N = 0 ∨ ¬ (k < 1 ∨ m < 0) ∧ 64 < k + m ∧ E = 4 ∧ R = 0 ∧ C = 0 ∧ N = 0 ∨ ¬ (k < 1 ∨ m < 0) ∧ k + m ≤ 64 ∧ E = 0 ∧ ∀ w, Calls Tryz.prog 38 #[.int .i64 k, .int .i64 m] w (fun e w' => MAns w w' e R C N f 0))) :
  Calls Tryz.prog 12 #[.int .i64 k, .int .i64 m] w fun e w' => CAns w w' e R C N f 0 (fun _ => 0) E := by
 have HV0 : Hid (Vq (w.alloc (.cells #[.int .i64 0, .int .i64 0, .slice none 0 0, .slice none 0 0] 27)) w.heap.size 27 #[.int .i64 0, .int .i64 0, .slice none 0 0, .slice none 0 0]) := Vq.new w _ _
 have HPl : Hid (∀ w, Calls Tryz.prog 35 #[.int .i64 k, .int .i64 0, .int .i64 m] w fun e w' => e = .returned (.int .i64 E) ∧ w = w') := fun w => qcj w k 0 m E (by omega) (by
  rcases HE.out with ⟨h1, h2, _⟩ | ⟨h1, h2, h3, _⟩ | ⟨h1, h2, h3, _⟩
  ·exact .inl ⟨h1, h2⟩
  ·exact .inr (.inl ⟨h1, by omega, h3⟩)
  ·exact .inr (.inr ⟨h1, by omega, h3⟩))
 by_cases hE : E = 0
 ·subst hE
  have HGe : Hid (∀ w, Calls Tryz.prog 38 #[.int .i64 k, .int .i64 m] w (fun e w' => MAns w w' e R C N f 0)) := by
   rcases HE.out with ⟨_, h2, _⟩ | ⟨_, _, h3, _⟩ | ⟨_, _, _, h4⟩
   ·omega
   ·omega
   ·exact h4
  clear HE
  go_enter Tryz.func12, Tryz.ntmps12
  go_wp2_with (first
   | (go_at_call 35; refine (HPl.out _).mono ?_; rintro e w' ⟨rfl, rfl⟩)
   | (go_at_call 38; refine (HGe.out _).mono ?_; rintro e w1 ⟨s1, d1, rfl, hm1, hb1⟩; have HM1 : Hid (Mt (w1.alloc (.cells #[.int .i64 R, .int .i64 C, .slice s1 N d1] 24)) s1 N d1 f) := hm1.later (qa0 _ _); have HB1 : Hid (Below w.heap.size w (w1.alloc (.cells #[.int .i64 R, .int .i64 C, .slice s1 N d1] 24))) := qa1 (qa1 (qa0 _ _) hb1) (qa0 _ _); have HV2 : Hid (Vq (w1.alloc (.cells #[.int .i64 R, .int .i64 C, .slice s1 N d1] 24)) w.heap.size 27 #[.int .i64 0, .int .i64 0, .slice none 0 0, .slice none 0 0]) := (HV0.out.later hb1).later (qa0 _ _); clear hm1 hb1)
   | (refine qa4 rfl 27 _ _ rfl w.heap.size _ #[.int .i64 R, .int .i64 C, .slice s1 N d1, .slice none 0 0] rfl rfl HV2.out sizeCo rfl (occ _ _ _ _ _ _ _ _) ?_; intro w5 HV5 HG5))
  have c0 := HV5.out.cell 0 _ rfl
  have c1 := HV5.out.cell 1 _ rfl
  have c2 := HV5.out.cell 2 _ rfl
  have c3 := HV5.out.cell 3 _ rfl
  refine bodyPost_ret (v := .tuple #[cv R C s1 N d1 none 0 0, .int .i64 0]) (by simp [results, Tryz.results12, go_sem, c0, c1, c2, c3, cv]) rfl ?_
  exact ⟨s1, d1, none, 0, rfl, HM1.out.kept HG5.out (fun hp x hx => qbm HM1.out.sl hp HV2.out x hx), fun i hi => by omega, qa2 HB1.out HG5.out (Nat.le_refl _)⟩
 ·obtain ⟨hR, hC, hN⟩ : R = 0 ∧ C = 0 ∧ N = 0 := by
   rcases HE.out with ⟨_, _, h⟩ | ⟨_, _, _, h⟩ | ⟨_, _, h3, _⟩
   ·exact h
   ·exact h
   ·exact absurd h3 hE
  subst hR
  subst hC
  subst hN
  have gE : (E != 0) = true := by simpa using hE
  have gE2 : (E == 0) = false := by simpa using hE
  clear HE hE
  go_enter Tryz.func12, Tryz.ntmps12
  go_wp2_with (first
   | (go_at_call 35; refine (HPl.out _).mono ?_; rintro e w' ⟨rfl, rfl⟩)
   | (refine qa4 rfl 27 _ _ rfl w.heap.size _ #[.int .i64 0, .int .i64 0, .slice none 0 0, .slice none 0 0] rfl rfl HV0.out sizeCo rfl (occ _ _ _ _ _ _ _ _) ?_; intro w5 HV5 HG5))
  have c0 := HV5.out.cell 0 _ rfl
  have c1 := HV5.out.cell 1 _ rfl
  have c2 := HV5.out.cell 2 _ rfl
  have c3 := HV5.out.cell 3 _ rfl
  refine bodyPost_ret (v := .tuple #[cv 0 0 none 0 0 none 0 0, .int .i64 E]) (by simp [results, Tryz.results12, go_sem, c0, c1, c2, c3, cv]) rfl ?_
  exact ⟨none, 0, none, 0, rfl, Mt.none _ _, fun i hi => by omega, qa2 (qa0 _ _) HG5.out (Nat.le_refl _)⟩
open Go.RowKit
theorem ptf_id {k l s q : Nat} {W X : Nat → Nat} (hq : q < k * k) : ptf k l s W X q = idf k q := if_pos hq
theorem qi9 {k l s p j : Nat} {W X : Nat → Nat} (hp : p < l) (hj : j < k) : ptf k l s W X ((k + p) * k + j) = if j / s = p then W j else 0 := by
 have h1 : k * k ≤ (k + p) * k := Nat.mul_le_mul_right k (by omega)
 have h2 : (k + p + 1) * k ≤ (k + l) * k := Nat.mul_le_mul_right k (by omega)
 rw [Nat.add_mul (k + p) 1 k, Nat.one_mul] at h2
 obtain ⟨e1, e2⟩ := qi3 (C := k) (q := (k + p) * k + j) (i := k + p) (by omega) (by omega) (by omega)
 unfold ptf
 rw [if_neg (by omega), if_pos (by omega), e1, e2, show (k + p) * k + j - (k + p) * k = j by omega, show k + p - k = p by omega]
theorem qia {k l s i j : Nat} {W X : Nat → Nat} : ptf k l s W X ((k + l) * k + i * k + j) = X (i * k + j) := by
 have h1 : k * k ≤ (k + l) * k := Nat.mul_le_mul_right k (by omega)
 unfold ptf
 rw [if_neg (by omega), if_neg (by omega)]
 congr 1
 omega
theorem qln {w : World} {B g n : Nat} {f : Nat → Nat} (h : RowAt w g 5 n f) (hn : n ≤ 140737488351232) (hB : B ≤ g) : w.ownsRow B 5 1 (.slice (some ⟨g, 0, none⟩) n n) n (row n f).toList :=
 ⟨by simp [qa7], .inr ⟨g, n, row n f, rfl, hB, h, Nat.le_refl _, by unfold maxLen; omega, by simp [qa7], List.take_of_length_le (by simp [qa7])⟩⟩
theorem qlo (n m : Nat) (F : Nat → Nat) : (row n F).toList ++ (row m (fun j => F (n + j))).toList = (row (n + m) F).toList := by
 rw [qd9]
 congr 1
 refine qbc _ _ _ (fun i _ => ?_)
 unfold stf
 by_cases h : i < n
 ·rw [if_pos h]
 ·rw [if_neg h]; show F (n + (i - n)) = F i; congr 1; omega
theorem qg2 (K : IntKind) (k : Nat) (f : Nat → Nat) : (jrow K k f).toList ++ [.int K (f k : Nat)] = (jrow K (k + 1) f).toList := by simp [jrow, List.range_succ]
theorem qcc {w : World} {B g n : Nat} {T : TypeId} {s : Nat} {v : Value} {xs : List Value} (h : w.ownsRow B T s v n xs) (hg : g < B) : v.ownBlock = none ∨ v.ownBlock ≠ some g := by
 cases e : v.ownBlock with
 | none => exact .inl rfl
 | some x => exact .inr (fun e2 => by have := qa9 h x e; cases e2; omega)
theorem qib {w : World} {B B' n m : Nat} {v u : Value} {f h : Nat → Nat} (hv : Ob w B v n f) (hu : Jo w B' 54 .u64 u m h) : u.ownBlock = none ∨ u.ownBlock ≠ v.ownBlock := by
 rcases hu.2 with ⟨e2, _⟩ | ⟨g2, cap2, cur2, e2, _, hg2, _⟩
 ·rw [e2]; exact .inl rfl
 ·rcases hv.2 with ⟨e1, _⟩ | ⟨g1, cap, cur, e1, _, hg, _⟩
  ·rw [e1, e2]; exact .inr (by simp [Value.ownBlock])
  ·rw [e1, e2]
   refine .inr (fun he => ?_)
   have h1 : g2 = g1 := by simpa [Value.ownBlock] using he
   subst h1
   rw [hg] at hg2
   simp at hg2
theorem Vq.lowB {w w' : World} {b B : Nat} {T : TypeId} {xs : Array Value} (h : Vq w b T xs) (hb : Below B w w') (hlt : b < B) : Vq w' b T xs := by unfold Vq; rw [hb.block b hlt]; exact h
structure RpI (w wr : World) (bB bO B T k R Q db : Nat) (sb : Option Addr) (n : Nat) (f : Nat → Nat) (M : Nat) (q : Nat → Nat) (s1 : Option Addr) (d : Nat) (s2 : Option Addr) (d2 : Nat) : Prop where
 vr : Vq wr w.heap.size 27 #[.int .i64 0, .int .i64 0, .slice none 0 0, .slice none 0 0]
 vb : Vq wr bB 24 #[.int .i64 (T : Int), .int .i64 (k : Int), .slice sb Q db]
 vo : Vq wr bO 27 #[.int .i64 (R : Int), .int .i64 (k : Int), .slice s1 n d, .slice s2 M d2]
 mb : Mt wr sb Q db (crf k)
 data : Ob wr B (.slice s1 n d) n f
 grp : Jo wr B 54 .u64 (.slice s2 M d2) M q
 below : Below w.heap.size w wr
 l0 : w.heap.size < bB
 l1 : bB < bO
 l2 : bO < B
 lB : B ≤ wr.heap.size
 lS : ∀ x, sb = some x → 0 < Q → x.block < B
theorem RpI.later {w wr w' : World} {bB bO B T k R Q db : Nat} {sb : Option Addr} {n : Nat} {f : Nat → Nat} {M : Nat} {q : Nat → Nat} {s1 : Option Addr} {d : Nat} {s2 : Option Addr} {d2 : Nat} (h : RpI w wr bB bO B T k R Q db sb n f M q s1 d s2 d2) (hb : Below wr.heap.size wr w') : RpI w w' bB bO B T k R Q db sb n f M q s1 d s2 d2 :=
 ⟨h.vr.later hb, h.vb.later hb, h.vo.later hb, h.mb.later hb, h.data.later hb, h.grp.later hb, qa1 h.below hb, h.l0, h.l1, h.l2, Nat.le_trans h.lB hb.size, h.lS⟩
theorem qlp {w w' : World} {a : Option Addr} {n k B : Nat} {F : Nat → Nat} (h : Mt w a n k F) (hb : Below B w w') (hs : ∀ x, a = some x → 0 < n → x.block < B) : Mt w' a n k F := by
 refine ⟨⟨h.sl.1, fun i hi => ?_⟩, h.room, h.nil⟩
 obtain ⟨b, o, e, hc⟩ := h.sl.2 i hi
 have := hs _ e (by omega)
 exact ⟨b, o, e, by rw [hb.cell (p := ⟨b, o + i, none⟩) this]; exact hc⟩
theorem RpI.lowO {w wr wx w3 : World} {bB bO B T k R Q db : Nat} {sb : Option Addr} {n : Nat} {f : Nat → Nat} {M : Nat} {q : Nat → Nat} {s1 : Option Addr} {d : Nat} {s2 : Option Addr} {d2 : Nat} (h : RpI w wr bB bO B T k R Q db sb n f M q s1 d s2 d2) {row : Option Nat} (hx : Below wr.heap.size wr wx) (hg : wx.grownBy w3 row) (hr : ∀ g, row = some g → B ≤ g) (i : Nat) :
  w3.cell? ⟨bO, i, none⟩ = (#[.int .i64 (R : Int), .int .i64 (k : Int), .slice s1 n d, .slice s2 M d2] : Array Value)[i]? ∧ w3.frozen? ⟨bO, i, none⟩ = false := by
 have hv := (h.vo.later hx).lowB (jbelow hg (Nat.le_trans h.lB hx.size) hr) h.l2
 exact ⟨cell_of_row w3 bO i _ _ _ hv, hv.free i⟩
theorem RpI.putD {w wr wx w3 : World} {bB bO B T k R Q db : Nat} {sb : Option Addr} {n n' : Nat} {f f' : Nat → Nat} {M : Nat} {q : Nat → Nat} {s1 s1' : Option Addr} {d d' : Nat} {s2 : Option Addr} {d2 : Nat} (h : RpI w wr bB bO B T k R Q db sb n f M q s1 d s2 d2) (hx : Below wr.heap.size wr wx) (hg : wx.grownBy w3 (Value.slice s1 n d).ownBlock) (ho : Ob w3 B (.slice s1' n' d') n' f') :
  RpI w (w3.setCell ⟨bO, 2, none⟩ (.slice s1' n' d')) bB bO B T k R Q db sb n' f' M q s1' d' s2 d2 := by
 have hB : Below B wr w3 := (hx.mono h.lB).trans (jbelow hg (Nat.le_trans h.lB hx.size) (qa9 h.data))
 have l0 := h.l0
 have l1 := h.l1
 have l2 := h.l2
 have gs := qa3 w3 bO 2 (.slice s1' n' d')
 have hJ : Jo w3 B 54 .u64 (.slice s2 M d2) M q := (h.grp.later hx).kept hg (qib (h.data.later hx) (h.grp.later hx))
 refine ⟨(h.vr.lowB hB (by omega)).kept gs (by omega), (h.vb.lowB hB (by omega)).kept gs (by omega), (h.vo.lowB hB l2).set 2 _, (qlp h.mb hB h.lS).kept gs (fun hp x hx e => ?_), ho.kept gs (qcc ho l2), hJ.kept gs (qcc hJ l2), ?_, l0, l1, l2, ?_, h.lS⟩
 ·have hv := h.vo
  obtain ⟨b, o, e1, hc⟩ := h.mb.sl.2 0 hp
  rw [e1] at hx
  cases hx
  simp only at e
  subst e
  rw [Nat.add_zero, cell_of_row wr b o _ _ _ hv] at hc
  rcases (by omega : o = 0 ∨ o = 1 ∨ o = 2 ∨ o = 3 ∨ 4 ≤ o) with rfl | rfl | rfl | rfl | h4
  ·cases hc
  ·cases hc
  ·cases hc
  ·cases hc
  ·rw [Array.getElem?_eq_none (by simpa using h4)] at hc; cases hc
 ·exact qa2 (h.below.trans (hB.mono (by omega))) gs (by omega)
 ·have : w3.heap.size = (w3.setCell ⟨bO, 2, none⟩ (.slice s1' n' d')).heap.size := by simp
  have := hB.size
  have := h.lB
  omega
theorem RpI.putG {w wr wx w3 : World} {bB bO B T k R Q db : Nat} {sb : Option Addr} {n : Nat} {f : Nat → Nat} {M M' : Nat} {q q' : Nat → Nat} {s1 : Option Addr} {d : Nat} {s2 s2' : Option Addr} {d2 d2' : Nat} (h : RpI w wr bB bO B T k R Q db sb n f M q s1 d s2 d2) (hx : Below wr.heap.size wr wx) (hg : wx.grownBy w3 (Value.slice s2 M d2).ownBlock) (ho : Jo w3 B 54 .u64 (.slice s2' M' d2') M' q') :
  RpI w (w3.setCell ⟨bO, 3, none⟩ (.slice s2' M' d2')) bB bO B T k R Q db sb n f M' q' s1 d s2' d2' := by
 have hB : Below B wr w3 := (hx.mono h.lB).trans (jbelow hg (Nat.le_trans h.lB hx.size) (qa9 h.grp))
 have l0 := h.l0
 have l1 := h.l1
 have l2 := h.l2
 have gs := qa3 w3 bO 3 (.slice s2' M' d2')
 have hne : (Value.slice s1 n d).ownBlock = none ∨ (Value.slice s1 n d).ownBlock ≠ (Value.slice s2 M d2).ownBlock := by
  rcases qib h.data h.grp with e | e
  ·rw [e]
   cases e2 : (Value.slice s1 n d).ownBlock with
   | none => exact .inl rfl
   | some x => exact .inr (by simp)
  ·exact .inr (fun x => e x.symm)
 have hD : Ob w3 B (.slice s1 n d) n f := (h.data.later hx).kept hg hne
 refine ⟨(h.vr.lowB hB (by omega)).kept gs (by omega), (h.vb.lowB hB (by omega)).kept gs (by omega), (h.vo.lowB hB l2).set 3 _, (qlp h.mb hB h.lS).kept gs (fun hp x hx e => ?_), hD.kept gs (qcc hD l2), ho.kept gs (qcc ho l2), ?_, l0, l1, l2, ?_, h.lS⟩
 ·have hv := h.vo
  obtain ⟨b, o, e1, hc⟩ := h.mb.sl.2 0 hp
  rw [e1] at hx
  cases hx
  simp only at e
  subst e
  rw [Nat.add_zero, cell_of_row wr b o _ _ _ hv] at hc
  rcases (by omega : o = 0 ∨ o = 1 ∨ o = 2 ∨ o = 3 ∨ 4 ≤ o) with rfl | rfl | rfl | rfl | h4
  ·cases hc
  ·cases hc
  ·cases hc
  ·cases hc
  ·rw [Array.getElem?_eq_none (by simpa using h4)] at hc; cases hc
 ·exact qa2 (h.below.trans (hB.mono (by omega))) gs (by omega)
 ·have : w3.heap.size = (w3.setCell ⟨bO, 3, none⟩ (.slice s2' M' d2')).heap.size := by simp
  have := hB.size
  have := h.lB
  omega
theorem qic {w w1 w2 : World} {k R T Q db A g1 : Nat} {sb : Option Addr} {F q : Nat → Nat} (hv : Vq w1 w.heap.size 27 #[.int .i64 0, .int .i64 0, .slice none 0 0, .slice none 0 0]) (hm : Mt w1 sb Q db (crf k)) (hb1 : Below w.heap.size w w1)
  (hr : RowAt w2 g1 5 A (idf k)) (hg : ((w1.alloc (.cells #[.int .i64 (T : Int), .int .i64 (k : Int), .slice sb Q db] 24)).alloc (.cells #[.int .i64 (R : Int), .int .i64 (k : Int), .slice none 0 0, .slice none 0 0] 27)).heap.size ≤ g1) (hb2 : Below ((w1.alloc (.cells #[.int .i64 (T : Int), .int .i64 (k : Int), .slice sb Q db] 24)).alloc (.cells #[.int .i64 (R : Int), .int .i64 (k : Int), .slice none 0 0, .slice none 0 0] 27)).heap.size ((w1.alloc (.cells #[.int .i64 (T : Int), .int .i64 (k : Int), .slice sb Q db] 24)).alloc (.cells #[.int .i64 (R : Int), .int .i64 (k : Int), .slice none 0 0, .slice none 0 0] 27)) w2) (hF : ∀ x, x < A → idf k x = F x) (hA : A ≤ 140737488351232) :
  RpI w ((w2.alloc (.cells #[.int .i64 (k : Int), .int .i64 (k : Int), .slice (some ⟨g1, 0, none⟩) A A] 24)).setCell ⟨w1.heap.size + 1, 2, none⟩ (.slice (some ⟨g1, 0, none⟩) A A)) w1.heap.size (w1.heap.size + 1) (w1.heap.size + 1 + 1) T k R Q db sb A F 0 q (some ⟨g1, 0, none⟩) A none 0 ∧ Vq (w2.alloc (.cells #[.int .i64 (k : Int), .int .i64 (k : Int), .slice (some ⟨g1, 0, none⟩) A A] 24)) (w1.heap.size + 1) 27 #[.int .i64 (R : Int), .int .i64 (k : Int), .slice none 0 0, .slice none 0 0] ∧ Vq (w2.alloc (.cells #[.int .i64 (k : Int), .int .i64 (k : Int), .slice (some ⟨g1, 0, none⟩) A A] 24)) w2.heap.size 24 #[.int .i64 (k : Int), .int .i64 (k : Int), .slice (some ⟨g1, 0, none⟩) A A] := by
 have hs2 : ((w1.alloc (.cells #[.int .i64 (T : Int), .int .i64 (k : Int), .slice sb Q db] 24)).alloc (.cells #[.int .i64 (R : Int), .int .i64 (k : Int), .slice none 0 0, .slice none 0 0] 27)).heap.size = w1.heap.size + 1 + 1 := by rw [qaq, qaq]
 have hB3 : Below ((w1.alloc (.cells #[.int .i64 (T : Int), .int .i64 (k : Int), .slice sb Q db] 24)).alloc (.cells #[.int .i64 (R : Int), .int .i64 (k : Int), .slice none 0 0, .slice none 0 0] 27)).heap.size ((w1.alloc (.cells #[.int .i64 (T : Int), .int .i64 (k : Int), .slice sb Q db] 24)).alloc (.cells #[.int .i64 (R : Int), .int .i64 (k : Int), .slice none 0 0, .slice none 0 0] 27)) (w2.alloc (.cells #[.int .i64 (k : Int), .int .i64 (k : Int), .slice (some ⟨g1, 0, none⟩) A A] 24)) := qa1 hb2 (qa0 _ _)
 have hB13 : Below w1.heap.size w1 (w2.alloc (.cells #[.int .i64 (k : Int), .int .i64 (k : Int), .slice (some ⟨g1, 0, none⟩) A A] 24)) := qa1 (qa1 (qa0 _ _) (qa0 _ _)) hB3
 have vb : Vq (w2.alloc (.cells #[.int .i64 (k : Int), .int .i64 (k : Int), .slice (some ⟨g1, 0, none⟩) A A] 24)) w1.heap.size 24 #[.int .i64 (T : Int), .int .i64 (k : Int), .slice sb Q db] := ((Vq.new w1 _ _).later (qa0 _ _)).later hB3
 have vo : Vq (w2.alloc (.cells #[.int .i64 (k : Int), .int .i64 (k : Int), .slice (some ⟨g1, 0, none⟩) A A] 24)) (w1.heap.size + 1) 27 #[.int .i64 (R : Int), .int .i64 (k : Int), .slice none 0 0, .slice none 0 0] := (Vq.new1 w1 _ _ _).later hB3
 have hm3 := hm.later hB13
 have hr3 : RowAt (w2.alloc (.cells #[.int .i64 (k : Int), .int .i64 (k : Int), .slice (some ⟨g1, 0, none⟩) A A] 24)) g1 5 A F := (hr.later (qa0 _ _)).congr hF
 have hg1 : g1 < w2.heap.size := lt_of_block hr
 have gs := qa3 (w2.alloc (.cells #[.int .i64 (k : Int), .int .i64 (k : Int), .slice (some ⟨g1, 0, none⟩) A A] 24)) (w1.heap.size + 1) 2 (.slice (some ⟨g1, 0, none⟩) A A)
 refine ⟨⟨(hv.later hB13).kept gs (by have := hv.lt; omega), vb.kept gs (by omega), vo.set 2 _, hm3.kept gs (fun hp x hx e => ?_), qln (hr3.kept gs (by omega)) hA (by omega), Jo.nil _ _ _ _ _, ?_, hv.lt, by omega, by omega, ?_, fun x hx hp => ?_⟩, vo, Vq.new w2 _ _⟩
 ·obtain ⟨b, o, e1, hc⟩ := hm.sl.2 0 hp
  rw [e1] at hx
  cases hx
  have := qak hc
  simp only at e
  omega
 ·exact qa2 (qa1 hb1 hB13) gs (by have := hv.lt; omega)
 ·have : ((w2.alloc (.cells #[.int .i64 (k : Int), .int .i64 (k : Int), .slice (some ⟨g1, 0, none⟩) A A] 24)).setCell ⟨w1.heap.size + 1, 2, none⟩ (.slice (some ⟨g1, 0, none⟩) A A)).heap.size = (w2.alloc (.cells #[.int .i64 (k : Int), .int .i64 (k : Int), .slice (some ⟨g1, 0, none⟩) A A] 24)).heap.size := by simp
  have := hB3.size
  omega
 ·obtain ⟨b, o, e1, hc⟩ := hm.sl.2 0 hp
  rw [e1] at hx
  cases hx
  have := qak hc
  show b < _
  omega
end Go.Proofs.YtnfbbddoaeofgaaGreat
