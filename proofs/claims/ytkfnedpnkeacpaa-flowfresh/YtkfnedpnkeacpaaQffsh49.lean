/-
  Contract of the matrices' reference: Copy.
-/
import Derived.Test.YtkfnedpnkeacpaaQffsh00
import Derived.Test.YtkfnedpnkeacpaaQffsh09
set_option maxRecDepth 100000
set_option maxHeartbeats 16000000
namespace Go.Proofs.Ytkfnedpnkeacpaa
open Go.RowKit
theorem qem (w : World) (r c : Int) (n k : Nat) (a : Option Addr) (F : Nat → Nat) (ha : Sl w a n F) (hn : n ≤ 140737488351232) (h0 : a = none → n = 0 ∧ k = 0) :
  Calls Try.prog 26 #[mv r c a n k] w fun e w' => ∃ s d, e = .returned (mv r c s n d) ∧ w'.ownsRow w.heap.size 5 1 (.slice s n d) n (row n F).toList ∧ Below w.heap.size w w' := by
 obtain ⟨wb, HW, HX⟩ : ∃ wb, Hid (wb = (w.alloc (.cells #[.int .i64 r, .int .i64 c, .slice a n k] 24)).alloc (.cells #[.int .i64 0, .int .i64 0, .slice none 0 0] 24)) ∧ Hid (Box2 w wb r c n k a) := ⟨_, rfl, box2 w r c n k a⟩
 have HCp : Hid (∀ w', Below w.heap.size w w' → Calls Try.prog 40 #[.slice a n k] w' fun e w'' => ∃ v, e = .returned v ∧ w''.ownsRow w'.heap.size 5 1 v n (row n F).toList ∧ Below w'.heap.size w' w'') := fun w' h' => qb8 w' a n k F (ha.later h') hn h0
 have v2 := HX.out.va.c2
 have v1 := HX.out.va.c1
 have v0 := HX.out.va.c0
 clear ha
 go_enter Try.func26, Try.ntmps26
 go_wp2_with (first
  | (go_at_call 40; rw [← HW.out]; refine (HCp.out _ HX.out.below).mono ?_; rintro e w1 ⟨v, rfl, ho, hb1⟩; obtain ⟨s, d, e3, _, _⟩ := own_sl' ho; subst e3; have HO : Hid (w1.ownsRow wb.heap.size 5 1 (.slice s n d) n (row n F).toList) := ho; have HB1 : Hid (Below wb.heap.size wb w1) := hb1; have HVa : Hid (Vr w1 w.heap.size (.int .i64 r) (.int .i64 c) (.slice a n k)) := HX.out.va.later hb1; have HVr : Hid (Vr w1 (w.heap.size + 1) (.int .i64 0) (.int .i64 0) (.slice none 0 0)) := HX.out.vr.later hb1; have u2 := HVa.out.c2; have uf := HVa.out.free 2; have u0 := HVa.out.c0; have u1 := HVa.out.c1; have HVa2 : Hid (Vr (w1.setCell ⟨w.heap.size, 2, none⟩ (.slice s n d)) w.heap.size (.int .i64 r) (.int .i64 c) (.slice s n d)) := HVa.out.set2 (.slice s n d); have z0 := HVa2.out.c0; have z1 := HVa2.out.c1; have z2 := HVa2.out.c2; clear ho hb1)
  | (refine qbm rfl _ _ rfl (w.heap.size + 1) _ _ _ (.int .i64 r) (.int .i64 c) (.slice s n d) rfl rfl (HVr.out.kept (qa2 _ _ _ _) (by omega)) rfl rfl rfl ?_; intro w4 HV4 HG4))
 have d0 := HV4.out.c0
 have d1 := HV4.out.c1
 have d2 := HV4.out.c2
 refine bodyPost_ret (v := mv r c s n d) (by simp [results, Try.results26, go_sem, d0, d1, d2, mv]) rfl ?_
 have hsz := HX.out.below.size
 have hlt := HX.out.vr.lt
 have o1 := HO.out.kept (qa2 w1 w.heap.size 2 (.slice s n d)) (.inr (fun h => by have := qac HO.out _ h; omega))
 have o2 := o1.kept HG4.out (.inr (fun h => by have := qac HO.out _ h; omega))
 exact ⟨s, d, rfl, qdq o2 hsz, qaj ((qai HX.out.below HB1.out).setCell (Nat.le_refl _) _) HG4.out (by omega)⟩
end Go.Proofs.Ytkfnedpnkeacpaa
