/-
  Contracts of the program's matrices: Row, Same.
-/
import Derived.Test.YtkfnedpnkeacpaaQffsh00
import Derived.Test.YtkfnedpnkeacpaaQffsh12
import Derived.Laws.OwnMore
set_option maxRecDepth 100000
set_option maxHeartbeats 16000000
namespace Go.Proofs.Ytkfnedpnkeacpaa
open Go.RowKit
theorem qf8 (w : World) (s : Option Addr) (c d : Nat) (f : Nat → Nat) (hs : Sl w s c f) (hc : c ≤ 4096) (h0 : s = none → c = 0 ∧ d = 0) :
  Calls Try.prog 48 #[.slice s c d] w fun e w' => ∃ v, e = .returned v ∧ w'.ownsRow w.heap.size 5 1 v c (row c f).toList ∧ Below w.heap.size w w' := by
 cases s with
 | none =>
  obtain ⟨rfl, rfl⟩ := h0 rfl
  have hnil : (binOp .eql 22 (.slice none 0 0) (.slice none 0 0)).run Try.prog w = .ok (.bool true) w := Go.Lib.run_eql_slice_nil w 22 5 none 0 0 0 0 Try.underlying22
  clear hs h0
  go_enter Try.func48, Try.ntmps48
  go_wp2
  go_ret
  exact ⟨_, rfl, by rw [qby]; exact World.ownsRow_nil _ _ _ _, Below.refl _ _⟩
 | some x =>
  have HS : Hid (Sl w (some x) c f) := hs
  have HO : Hid ((w.alloc (.cells #[] 5)).ownsRow w.heap.size 5 1 (.slice (some ⟨w.heap.size, 0, none⟩) 0 0) 0 []) := World.ownsRow_lit w #[] 0 (Nat.le_refl _) (by decide) rfl
  have hnil : (binOp .eql 22 (.slice (some x) c d) (.slice none 0 0)).run Try.prog w = .ok (.bool false) w := Go.Lib.run_eql_slice_nil w 22 5 (some x) c d 0 0 Try.underlying22
  clear hs h0
  go_enter Try.func48, Try.ntmps48
  go_wp2_with (first
   | (at_builtin; refine qbc rfl _ _ rfl w.heap.size 0 (.slice (some ⟨w.heap.size, 0, none⟩) 0 0) [] rfl HO.out (some x) c d f rfl (HS.out.later (qa4 _ _)) (fun e => by cases e) (by omega) (by simp) ?_; intro v w2 ho2 hg2; have HO2 : Hid (w2.ownsRow w.heap.size 5 1 v c (row c f).toList) := by { show World.ownsRow _ _ _ _ _ _ _; simpa using ho2 }; have HB2 : Hid (Below w.heap.size w w2) := qaj (qa4 _ _) hg2 (Nat.le_refl _); clear ho2 hg2))
  go_ret
  exact ⟨_, rfl, HO2.out, HB2.out⟩
theorem pc_none {a : Option Addr} {n k p c : Nat} (h0 : a = none → n = 0 ∧ k = 0) (hf : p + c ≤ n) : pc a p c = none → c = 0 := by
 intro e
 unfold pc at e
 by_cases hc : c = 0
 ·exact hc
 ·rw [if_neg hc] at e
  cases a with
  | none => have := h0 rfl; omega
  | some x => cases e
theorem qf9 (w : World) (r c n k i : Nat) (a : Option Addr) (F : Nat → Nat) (ha : Mt w a n k F) (R : Rt r c n) (hi : i < r) :
  Calls Try.prog 31 #[mv r c a n k, .int .i64 (i : Int)] w fun e w' => ∃ v, e = .returned (.tuple #[v, .int .i64 0]) ∧ w'.ownsRow w.heap.size 5 1 v c (row c (fun j => F (i * c + j))).toList ∧ Below w.heap.size w w' := by
 have HRt : Hid (Rt r c n) := R
 have hc := R.c64
 have hn := R.le
 have hr := R.r64
 have HA : Hid (Mt w a n k F) := ha
 obtain ⟨p, HP⟩ : ∃ p, Hid (i * c = p) := ⟨_, rfl⟩
 rw [HP.out]
 obtain ⟨s, HS⟩ : ∃ s, Hid (pc a p c = s) := ⟨_, rfl⟩
 have HF : Hid (p + c ≤ n) := by have := R.fit hi; rw [HP.out] at this; exact this
 have HSl : Hid (Sl w s c (fun j => F (p + j))) := by have := ha.piece HF.out; rw [HS.out] at this; exact this
 have H0 : Hid (s = none → c = 0 ∧ c = 0) := fun e => by have := pc_none ha.nil HF.out (by rw [HS.out]; exact e); exact ⟨this, this⟩
 obtain ⟨G, HG⟩ : ∃ G : Nat → Nat, Hid ((fun j => F (p + j)) = G) := ⟨_, rfl⟩
 rw [HG.out]
 rw [HG.out] at HSl
 obtain ⟨wb, HW⟩ : ∃ wb, Hid (wb = w.alloc (.cells #[.int .i64 (r : Int), .int .i64 (c : Int), .slice a n k] 24)) := ⟨_, rfl⟩
 have HV0 : Hid (Vr wb w.heap.size (.int .i64 (r : Int)) (.int .i64 (c : Int)) (.slice a n k)) := by rw [HW.out]; exact Vr.new w _ _ _
 have HB0 : Hid (Below w.heap.size w wb) := by rw [HW.out]; exact qa4 _ _
 clear ha R
 go_enter Try.func31, Try.ntmps31
 go_wp2_with (first
  | (go_at_call 29; rw [← HW.out]; refine (qbg _ _ _ _ _ _ HRt.out.p).mono ?_; rintro e w1 ⟨rfl, hb1⟩; have HB1 : Hid (Below wb.heap.size wb w1) := hb1; have c0 := (HV0.out.later hb1).c0; have c1 := (HV0.out.later hb1).c1; have c2 := (HV0.out.later hb1).c2; clear hb1)
  | (go_at_call 47; refine (qee _ _ _ _ _ _ _ ⟨by omega, by omega⟩).mono ?_; rintro e w2 ⟨rfl, hb2⟩; have HB2 : Hid (Below wb.heap.size wb w2) := qai HB1.out hb2; have d0 := (HV0.out.later HB2.out).c0; have d1 := (HV0.out.later HB2.out).c1; have d2 := (HV0.out.later HB2.out).c2; clear hb2)
  | (go_at_call 49; refine (qf7 _ _ c n k i p a s HA.out.nil HA.out.room HF.out hn (by omega) HP HS).mono ?_; rintro e w3 ⟨rfl, hb3⟩; have HB3 : Hid (Below w.heap.size w w3) := qai (qai HB0.out HB2.out) hb3; clear hb3)
  | (go_at_call 48; refine (qf8 _ s c c G (HSl.out.later HB3.out) (by omega) H0.out).mono ?_; rintro e w4 ⟨v, rfl, ho4, hb4⟩; have HO4 : Hid (w4.ownsRow w3.heap.size 5 1 v c (row c G).toList) := ho4; have HB4 : Hid (Below w3.heap.size w3 w4) := hb4; clear ho4 hb4))
 go_ret2
 exact ⟨v, rfl, qdq HO4.out HB3.out.size, qai HB3.out HB4.out⟩
end Go.Proofs.Ytkfnedpnkeacpaa
