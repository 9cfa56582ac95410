/-
  The program's gauss and the reference's, together.
  The checks' own anchors.
  Ranks: of the matrix transposed, of the reduced one, and the free columns.
-/
import Derived.Test.YtfplhaelpbocjabGj
import Derived.Test.YtfplhaelpbocjabGn
import Derived.Test.YtfplhaelpbocjabGc
namespace Go.Proofs.Ytfplhaelpbocjab
open Go.RowKit
theorem gcomb_bad4 (w : World) (r c : Int) (n k m kb : Nat) (a b : Option Addr) (F : Nat → Nat) (ha : Mt w a n k F) (h : ¬ (RightP r c n ∧ (m : Int) = c)) : Calls Try.prog 15 #[mv r c a n k, .slice b m kb] w fun e w' => NoneP w w' e 3 := gcomb_bad w r c n k m kb a b F ha h
end Go.Proofs.Ytfplhaelpbocjab

namespace Go.Proofs.Ytfplhaelpbocjab
open Go.RowKit
def one1 (a : Nat) (_ : Nat) : Nat := a
theorem one1_lt {a : Nat} (h : a < 256) (i : Nat) : one1 a i < 256 := h
theorem one_row (w : World) (a : Nat) : RowAt (w.alloc (.cells #[.int .u8 (a : Int)] 5)) w.heap.size 5 1 (one1 a) := by
  unfold RowAt
  rw [new_at]
  kernel_rfl
theorem rt11 : Rt 1 1 1 := ⟨by omega, by omega, rfl⟩
theorem two_rk : Rk (m2 (one1 2) 1 1) 1 1 := by
  have hE : El2 (m2 (one1 2) 1 1) := m2_el (fun i _ => one1_lt (by decide) i) rt11
  refine (Rk.zero (m2 (one1 2) 1 1)).more hE (fun ⟨a, _, h⟩ => ?_)
  have := h 0
  exact absurd this (by show ¬ (2 = 0); decide)
theorem two_inv {O : Nat → Nat} (hO : O 0 < 256) (h : ∀ i j, i < 1 → j < 1 → pr (m2 (one1 2) 1 1) (m2 O 1 1) 1 i j = dl i j) : ∀ i, i < 1 → O i = one1 142 i := by
  refine inv_one (F := one1 2) (r := 1) (n := 1) (fun i _ => one1_lt (by decide) i) (fun i hi => by rw [show i = 0 by omega]; exact hO) (fun i _ => one1_lt (by decide) i) rt11 two_rk h ?_
  intro i j hi hj
  obtain rfl : i = 0 := by omega
  obtain rfl : j = 0 := by omega
  kernel_rfl
theorem four_rk : Rk (m2 (four 1 2 2 4) 2 2) 2 1 := by
  have hE : El2 (m2 (four 1 2 2 4) 2 2) := m2_el (fun i _ => four_lt (by decide) (by decide) (by decide) (by decide) i) rt22
  refine ((Rk.zero (m2 (four 1 2 2 4) 2 2)).more hE (fun ⟨a, _, h⟩ => ?_)).same hE ⟨one1 2, one1_lt (by decide), fun j => ?_⟩
  · have := h 0
    exact absurd this (by show ¬ (1 = 0); decide)
  · rcases (by omega : j = 0 ∨ j = 1 ∨ 2 ≤ j) with rfl | rfl | hj
    · kernel_rfl
    · kernel_rfl
    · show m2 _ 2 2 1 j = 0 ^^^ fm 2 (m2 _ 2 2 0 j)
      rw [m2_cut _ hj, m2_cut _ hj]
      kernel_rfl
set_option maxRecDepth 20000 in
set_option maxHeartbeats 2000000 in
theorem anch4_any (w : World) : Calls Try.prog 10 #[] w fun e w' => e = .returned (.bool true) ∧ Below w.heap.size w w' := by
  obtain ⟨f2, HF2⟩ : ∃ f, Hid (one1 2 = f) := ⟨_, rfl⟩
  obtain ⟨f4, HF4⟩ : ∃ f, Hid (four 1 2 2 4 = f) := ⟨_, rfl⟩
  obtain ⟨f7, HF7⟩ : ∃ f, Hid (one1 142 = f) := ⟨_, rfl⟩
  have HInv : Hid (∀ (w : World) (a : Option Addr), Mt w a 1 1 f2 → Calls Try.prog 8 #[mv 1 1 a 1 1] w fun e w' => ∃ s d, e = .returned (.tuple #[mv 1 1 s 1 d, .int .i64 0]) ∧ Sl w' s 1 f7 ∧ Below w.heap.size w w') := fun w a ha => by
    rw [← HF2.out] at ha
    refine (ginv_ok w 1 1 1 a _ ha rt11 two_rk).mono (fun e w' h => ?_)
    obtain ⟨s, d, O, he, hm, hp, hb⟩ := h
    refine ⟨s, d, he, ?_, hb⟩
    rw [← HF7.out]
    exact hm.sl.congr (two_inv (hm.sl.1 0 (by omega)) hp)
  have HRk : Hid (∀ (w : World) (a : Option Addr), Mt w a 4 4 f4 → Calls Try.prog 21 #[mv 2 2 a 4 4] w fun e w' => e = .returned (.tuple #[.int .i64 1, .int .i64 0]) ∧ Below w.heap.size w w') := fun w a ha => by
    rw [← HF4.out] at ha
    refine (grank_ok w 2 2 4 4 a _ ha rt22).mono (fun e w' h => ?_)
    obtain ⟨t, he, hk, hb⟩ := h
    have ht : t = 1 := hk.unique four_rk (SpEq.refl (m2_el (fun i _ => four_lt (by decide) (by decide) (by decide) (by decide) i) rt22) 2)
    subst ht
    exact ⟨he, hb⟩
  have H2 : Hid (∀ w : World, Mt (w.alloc (.cells #[.int .u8 2] 5)) (some ⟨w.heap.size, 0, none⟩) 1 1 f2) := fun w => by
    rw [← HF2.out]
    exact (one_row w 2).mt (fun i _ => one1_lt (by decide) i)
  have H4 : Hid (∀ (w : World) (o : Obj), Mt ((w.alloc o).alloc (.cells #[.int .u8 1, .int .u8 2, .int .u8 2, .int .u8 4] 5)) (some ⟨w.heap.size + 1, 0, none⟩) 4 4 f4) := fun w o => by
    rw [← HF4.out]
    have := (four_row (w.alloc o) 1 2 2 4).mt (fun i _ => four_lt (by decide) (by decide) (by decide) (by decide) i)
    simpa using this
  have H7 : Hid (∀ w : World, Sl (w.alloc (.cells #[.int .u8 142] 5)) (some ⟨w.heap.size, 0, none⟩) 1 f7) := fun w => by
    rw [← HF7.out]
    exact (one_row w 142).sl (fun i _ => one1_lt (by decide) i)
  have HL : Hid (likeB 1 1 1 1 1 1 f7 f7 = true) := likeB_true (fun _ _ => rfl)
  have HLk : Hid (∀ (w : World) (a b : Option Addr) (k d : Nat), Sl w a 1 f7 → Sl w b 1 f7 → Calls Try.prog 14 #[mv 1 1 a 1 k, mv 1 1 b 1 d] w fun e w' => e = .returned (.bool true) ∧ Below w.heap.size w w') := fun w a b k d ha hb => by
    have := like_exact w 1 1 1 1 a b 1 1 k d f7 f7 ha hb
    rw [HL.out] at this
    exact this
  clear HF2 HF4 HF7 HL
  go_enter Try.func10, Try.ntmps10
  go_wp2_with (first
    | (go_at_call 8; refine (HInv.out _ _ (H2.out _)).mono ?_; rintro e w1 ⟨s, d, rfl, hr, hb⟩; have HR : Hid (Sl w1 s 1 f7) := hr; have HB1 : Hid (Below w.heap.size w w1) := two_below (alloc_low _ _) hb; clear hr hb)
    | (go_at_call 21; refine (HRk.out _ _ (H4.out _ _)).mono ?_; rintro e w2 ⟨rfl, hb⟩; have HV : Hid (Vr w2 w1.heap.size (.int .i64 1) (.int .i64 1) (.slice s 1 d)) := (Vr.new w1 (.int .i64 1) (.int .i64 1) (.slice s 1 d)).later (two_below (alloc_low _ _) hb); have HR2 : Hid (Sl w2 s 1 f7) := HR.out.later (two_below (alloc_low _ _) (two_below (alloc_low _ _) hb)); have HB2 : Hid (Below w.heap.size w w2) := two_below (two_below (two_below HB1.out (alloc_low _ _)) (alloc_low _ _)) hb; have c0 := HV.out.c0; have c1 := HV.out.c1; have c2 := HV.out.c2; have d0 := (HV.out.later (alloc_low w2 (.cells #[.int .u8 142] 5))).c0; have d1 := (HV.out.later (alloc_low w2 (.cells #[.int .u8 142] 5))).c1; have d2 := (HV.out.later (alloc_low w2 (.cells #[.int .u8 142] 5))).c2; clear hb)
    | (go_at_call 14; refine (HLk.out _ _ _ _ _ (HR2.out.later (alloc_low _ _)) (H7.out _)).mono ?_; rintro e w3 ⟨rfl, hb3⟩; have HB3 : Hid (Below w.heap.size w w3) := two_below (two_below HB2.out (alloc_low _ _)) hb3; clear hb3))
  go_ret
  exact ⟨rfl, HB3.out⟩
end Go.Proofs.Ytfplhaelpbocjab

namespace Go.Proofs.Ytfplhaelpbocjab
open Go.RowKit
theorem trf_el4 {F : Nat → Nat} {r c n : Nat} (hF : ∀ i, i < n → F i < 256) (R : Rt r c n) : ∀ p, p < n → trf F r c p < 256 := by
  intro p hp
  have R2 : Rt c r n := ⟨R.c64, R.r64, by rw [Nat.mul_comm]; exact R.len⟩
  obtain ⟨j, i, hj, hi, rfl⟩ := place_of R2 hp
  rw [trf_at F r c i j hi]
  exact hF _ (R.at hi hj)
theorem rtrans_p (w : World) (r c n k : Nat) (a : Option Addr) (F : Nat → Nat) (ha : Mt w a n k F) (R : Rt r c n) : Calls Try.prog 16 #[mv r c a n k] w fun e w' => ∃ s d T, e = .returned (.tuple #[mv c r s n d, .int .i64 0]) ∧ Mt w' s n d T ∧ (∀ k l, Rk (m2 F r c) r k → Rk (m2 T c r) c l → k = l) ∧ Below w.heap.size w w' :=
  (rtrans_ok w r c n k a F ha.sl R).mono fun _ _ ⟨s, d, he, ho, hb⟩ => ⟨s, d, _, he, own_mt4 ho (trf_el4 ha.sl.1 R), fun k l hk hl => by
    refine rk_tpo (fun i j _ hj => m2_cut F hj) hk (hl.at (fun i j hi => ?_))
    unfold tpo
    by_cases hj : j < r
    · rw [if_pos hj]; dsimp only; rw [m2_at _ hj hi, m2_at _ hi hj, trf_at F r c j i hj]
    · rw [if_neg hj, m2_cut _ (by omega)], hb⟩
theorem red_rk {r c n t : Nat} {F G p : Nat → Nat} (hG : ∀ i, i < n → G i < 256) (R : Rt r c n) (hR : Rdf (m2 G r c) r t p) (hS : SpEq (m2 G r c) r (m2 F r c) r) : Rk (m2 F r c) r t := (hR.rk (m2_el hG R)).span hS
theorem rk_one {F : Nat → Nat} {r c n k l : Nat} (hF : ∀ i, i < n → F i < 256) (R : Rt r c n) (h : Rk (m2 F r c) r k) (g : Rk (m2 F r c) r l) : k = l := h.unique g (SpEq.refl (m2_el hF R) r)
theorem ker_cnt {r c n t t2 kr : Nat} {F G G2 p p2 : Nat → Nat} (R : Rt r c n) (hR : Rdf (m2 G r c) r t p) (hS : SpEq (m2 G r c) r (m2 F r c) r) (hR2 : Rdf (m2 G2 r c) r t2 p2) (hS2 : SpEq (m2 G2 r c) r (m2 F r c) r) (hp : ∀ i, i < t2 → p2 i < c) (hk : kr = cnt (fre p2 t2) c) : t + kr = c := by
  obtain ⟨e, _, _⟩ := red_same R hR hS hR2 hS2
  rw [e, hk]
  exact cnt_free hR2.up hp
end Go.Proofs.Ytfplhaelpbocjab
