/-
  Contracts of the program's matrices: Make, Identity, Row, Same.
-/
import Derived.Test.YtkfnedpnkeacpaaQmmde00
import Derived.Test.YtkfnedpnkeacpaaQmmde14
set_option maxRecDepth 100000
set_option maxHeartbeats 16000000
namespace Go.Proofs.Ytkfnedpnkeacpaa
open Go.RowKit
theorem mmake_ok (w : World) (r c n : Nat) (hr : r ≤ 64) (hc : c ≤ 64) (HN : Hid (r * c = n)) :
  Calls Try.prog 37 #[.int .i64 (r : Int), .int .i64 (c : Int)] w fun e w' => ∃ g, e = .returned (.tuple #[mv r c (some ⟨g, 0, none⟩) n n, .int .i64 0]) ∧ RowAt w' g 5 n (fun _ => 0) ∧ w.heap.size ≤ g ∧ Below w.heap.size w w' := by
 go_enter Try.func37, Try.ntmps37
 go_wp2_with (first
  | (go_at_call 46; refine (qcg _ _ ⟨by omega, by omega⟩).mono ?_; rintro e w' ⟨rfl, rfl⟩)
  | (go_at_call 46; refine (qd5 _ _ (by omega)).mono ?_; rintro e w' ⟨rfl, rfl⟩)
  | (go_at_call 53; refine (qcb _ r c n hr hc HN).mono ?_; rintro e w1 ⟨g, rfl, hr1, hg1, hb1⟩; have HR : Hid (RowAt w1 g 5 n (fun _ => 0)) := hr1; have hg2 : w.heap.size + 1 ≤ g := by { have := hg1; simpa using this }; have HB : Hid (Below w.heap.size w w1) := qab (qa2 _ _) hb1; have HV : Hid (Vr w1 w.heap.size (.int .i64 0) (.int .i64 0) (.slice none 0 0)) := (Vr.new w _ _ _).later hb1; clear hr1 hg1 hb1)
  | (refine qag rfl _ _ rfl w.heap.size _ _ _ (.int .i64 (r : Int)) (.int .i64 (c : Int)) (.slice (some ⟨g, 0, none⟩) n n) rfl rfl HV.out rfl rfl rfl ?_; intro w2 HV2 HG2))
 have c0 := HV2.out.c0
 have c1 := HV2.out.c1
 have c2 := HV2.out.c2
 refine bodyPost_ret (v := .tuple #[mv r c (some ⟨g, 0, none⟩) n n, .int .i64 0]) (by simp [results, Try.results37, go_sem, c0, c1, c2, mv]) rfl ?_
 exact ⟨g, rfl, HR.out.kept HG2.out (by omega), by omega, qai HB.out HG2.out (Nat.le_refl _)⟩
theorem qf1 (w : World) (n m : Nat) (hn : n ≤ 64) (HM : Hid (n * n = m)) :
  Calls Try.prog 36 #[.int .i64 (n : Int)] w fun e w' => ∃ g, e = .returned (.tuple #[mv n n (some ⟨g, 0, none⟩) m m, .int .i64 0]) ∧ RowAt w' g 5 m (idf n) ∧ w.heap.size ≤ g ∧ Below w.heap.size w w' := by
 have hm : m ≤ 4096 := by rw [← HM.out]; exact Nat.mul_le_mul hn hn
 go_enter Try.func36, Try.ntmps36
 go_wp2_with (first
  | (go_at_call 46; refine (qcg _ _ ⟨by omega, by omega⟩).mono ?_; rintro e w' ⟨rfl, rfl⟩)
  | (go_at_call 46; refine (qd5 _ _ (by omega)).mono ?_; rintro e w' ⟨rfl, rfl⟩)
  | (go_at_call 53; refine (qcb _ n n m hn hn HM).mono ?_; rintro e w1 ⟨g, rfl, hr1, hg1, hb1⟩; have HR : Hid (RowAt w1 g 5 m (fun _ => 0)) := hr1; have hg2 : w.heap.size + 1 ≤ g := by { have := hg1; simpa using this }; have HB : Hid (Below w.heap.size w w1) := qab (qa2 _ _) hb1; have HV : Hid (Vr w1 w.heap.size (.int .i64 0) (.int .i64 0) (.slice none 0 0)) := (Vr.new w _ _ _).later hb1; clear hr1 hg1 hb1))
 have HBeg : Hid (Vr (w1.alloc (.cells #[.int .i64 (n : Int), .int .i64 (n : Int), .slice (some ⟨g, 0, none⟩) m m] 24)) w1.heap.size (.int .i64 (n : Int)) (.int .i64 (n : Int)) (.slice (some ⟨g, 0, none⟩) m m)) := Vr.new w1 _ _ _
 have glt := HR.out.lt
 have vlt := HV.out.lt
 go_loopw [5, 14] (fun _ i wr => ∃ k : Nat, k ≤ n ∧ i = .int .i64 (k : Int) ∧ RowAt wr g 5 m (idk n k) ∧ Vr wr w1.heap.size (.int .i64 (n : Int)) (.int .i64 (n : Int)) (.slice (some ⟨g, 0, none⟩) m m) ∧ Vr wr w.heap.size (.int .i64 0) (.int .i64 0) (.slice none 0 0) ∧ Below w.heap.size w wr) (fun _ i _ => n - (intOf i).toNat)
 case atStart => exact ⟨0, by omega, rfl, (HR.out.later (qa2 _ _)).congr (fun i _ => by unfold idk; rw [if_neg (fun x => absurd x.2 (Nat.not_lt_zero _))]), HBeg.out, HV.out.later (qa2 _ _), qab HB.out (qa2 _ _)⟩
 case round =>
  clear HBeg HR HV HB
  obtain ⟨k, hk, rfl, hr, hv, hv2, hbr⟩ := hrel
  by_cases hlt : k < n
  ·obtain ⟨p, HP⟩ : ∃ p, Hid (k * n + k = p) := ⟨_, rfl⟩
   obtain ⟨q, HQ⟩ : ∃ q, Hid (k * n = q) := ⟨_, rfl⟩
   have hpq : p = q + k := by rw [← HP.out, ← HQ.out]
   have hfit : q + n ≤ m := by rw [← HQ.out]; exact Rt.fit ⟨hn, hn, HM.out⟩ hlt
   have HS : Hid (pc (some ⟨g, 0, none⟩) q n = some ⟨g, q, none⟩) := pc_row g q n (by omega)
   have c0 := hv.c0
   have c1 := hv.c1
   have c2 := hv.c2
   have HR : Hid (RowAt wr g 5 m (idk n k)) := hr
   have HV : Hid (Vr wr w1.heap.size (.int .i64 (n : Int)) (.int .i64 (n : Int)) (.slice (some ⟨g, 0, none⟩) m m)) := hv
   have HV2 : Hid (Vr wr w.heap.size (.int .i64 0) (.int .i64 0) (.slice none 0 0)) := hv2
   have HB : Hid (Below w.heap.size w wr) := hbr
   have hgs : g ≠ w.heap.size := by omega
   have hgs1 : g ≠ w1.heap.size := by omega
   clear hr hv hv2 hbr
   go_wp2_with (first
    | (go_at_call 49; refine (qcs _ n n m m k q (some ⟨g, 0, none⟩) (some ⟨g, q, none⟩) (fun e => by cases e) (Nat.le_refl _) hfit hm (by omega) HQ HS).mono ?_; rintro e w3 ⟨rfl, hb3⟩; have hc := (HR.out.later hb3).cell (q + k) (by omega); have hf := (HR.out.later hb3).free (q + k); have RR : Hid (RowAt (w3.setCell ⟨g, q + k, none⟩ (.int .u8 1)) g 5 m (idk n (k + 1)) ∧ Vr (w3.setCell ⟨g, q + k, none⟩ (.int .u8 1)) w1.heap.size (.int .i64 (n : Int)) (.int .i64 (n : Int)) (.slice (some ⟨g, 0, none⟩) m m) ∧ Vr (w3.setCell ⟨g, q + k, none⟩ (.int .u8 1)) w.heap.size (.int .i64 0) (.int .i64 0) (.slice none 0 0) ∧ Below w.heap.size w (w3.setCell ⟨g, q + k, none⟩ (.int .u8 1))) := ⟨((HR.out.later hb3).set (q + k) 1).congr (fun j _ => by rw [← hpq, ← HP.out]; exact idk_step n k j), (HV.out.later hb3).kept (qa1 _ _ _ _) (Ne.symm hgs1), (HV2.out.later hb3).kept (qa1 _ _ _ _) (Ne.symm hgs), (qab HB.out hb3).setCell (by show w.heap.size ≤ g; omega) _⟩; clear hb3))
   exact ⟨⟨k + 1, by omega, by go_num, RR.out.1, RR.out.2.1, RR.out.2.2.1, RR.out.2.2.2⟩, by simp [intOf]; omega⟩
  ·obtain rfl : k = n := by omega
   have c0 := hv.c0
   have c1 := hv.c1
   have c2 := hv.c2
   have HR : Hid (RowAt wr g 5 m (idk k k)) := hr
   have HV2 : Hid (Vr wr w.heap.size (.int .i64 0) (.int .i64 0) (.slice none 0 0)) := hv2
   have HB : Hid (Below w.heap.size w wr) := hbr
   clear hr hv hv2 hbr
   go_wp2_with (refine qag rfl _ _ rfl w.heap.size _ _ _ (.int .i64 (k : Int)) (.int .i64 (k : Int)) (.slice (some ⟨g, 0, none⟩) m m) rfl rfl HV2.out rfl rfl rfl ?_; intro w3 HV3 HG3)
   have d0 := HV3.out.c0
   have d1 := HV3.out.c1
   have d2 := HV3.out.c2
   refine bodyPost_ret (v := .tuple #[mv k k (some ⟨g, 0, none⟩) m m, .int .i64 0]) (by simp [results, Try.results36, go_sem, d0, d1, d2, mv]) rfl ?_
   exact ⟨g, rfl, (HR.out.kept HG3.out (by omega)).congr (fun j hj => idk_all k j (by rw [HM.out]; exact hj)), by omega, qai HB.out HG3.out (Nat.le_refl _)⟩
theorem qe8 (w : World) (n : Int) (h : ¬ (0 ≤ n ∧ n ≤ 64)) :
  Calls Try.prog 36 #[.int .i64 n] w fun e w' => e = .returned (.tuple #[mv 0 0 none 0 0, .int .i64 2]) ∧ Below w.heap.size w w' := by
 have HV : Hid (Vr (w.alloc (.cells #[.int .i64 0, .int .i64 0, .slice none 0 0] 24)) w.heap.size (.int .i64 0) (.int .i64 0) (.slice none 0 0)) := Vr.new w _ _ _
 all_goals
  go_enter Try.func36, Try.ntmps36
  go_wp2_with (first
  | (go_at_call 46; refine (qcg _ _ ⟨by omega, by omega⟩).mono ?_; rintro e w' ⟨rfl, rfl⟩)
  | (go_at_call 46; refine (qd5 _ _ (by omega)).mono ?_; rintro e w' ⟨rfl, rfl⟩)
  | (refine qag rfl _ _ rfl w.heap.size _ _ _ (.int .i64 0) (.int .i64 0) (.slice none 0 0) rfl rfl HV.out rfl rfl rfl ?_; intro w2 HV2 HG2))
  have c0 := HV2.out.c0
  have c1 := HV2.out.c1
  have c2 := HV2.out.c2
  refine bodyPost_ret (v := .tuple #[mv 0 0 none 0 0, .int .i64 2]) (by simp [results, Try.results36, go_sem, c0, c1, c2, mv]) rfl ?_
  exact ⟨rfl, qai (qa2 _ _) HG2.out (Nat.le_refl _)⟩
end Go.Proofs.Ytkfnedpnkeacpaa
