/-
  shape.Join, shape.Product: the errors.
-/
import Derived.Test.YtmgfeepnkahkmaaGreatQsses00
import Derived.Test.YtmgfeepnkahkmaaGreatQsses48
set_option maxRecDepth 100000
set_option maxHeartbeats 16000000
namespace Go.Proofs.YtmgfeepnkahkmaaGreat
open Go.RowKit
theorem ql0 (w : World) (r c r' c' : Int) (a b a' b' : Option Addr) (n k m d n' k' m' d' : Nat) (F F' q q' : Nat → Nat) (ha : Mt w a n k F) (ha' : Mt w a' n' k' F') (hb : Jl w b .u64 m (fun i => (q i : Int))) (hb' : Jl w b' .u64 m' (fun i => (q' i : Int))) (hm : m ≤ 17592186044416) (hm' : m' ≤ 17592186044416) (hq : ∀ i, i < m → q i < 18446744073709551616) (hq' : ∀ i, i < m' → q' i < 18446744073709551616) (h : ¬ (MayP F r c n m q ∧ MayP F' r' c' n' m' q')) :
  Calls Tryz.prog 11 #[cv r c a n k b m d, cv r' c' a' n' k' b' m' d'] w fun e w' => e = .returned (.tuple #[cv 0 0 none 0 0 none 0 0, .int .i64 3]) ∧ Below w.heap.size w w' := by
 obtain ⟨wb, HW⟩ : ∃ wb, Hid (((w.alloc (.cells #[.int .i64 r, .int .i64 c, .slice a n k, .slice b m d] 27)).alloc (.cells #[.int .i64 r', .int .i64 c', .slice a' n' k', .slice b' m' d'] 27)).alloc (.cells #[.int .i64 0, .int .i64 0, .slice none 0 0, .slice none 0 0] 27) = wb) := ⟨_, rfl⟩
 have HB0 : Hid (Below w.heap.size w wb) := by rw [← HW.out]; exact qa0 (qa0 (qa1 _ _) (qa1 _ _)) (qa1 _ _)
 have HA : Hid (Vq wb w.heap.size 27 #[.int .i64 r, .int .i64 c, .slice a n k, .slice b m d]) := by rw [← HW.out]; exact ((Vq.new w _ _).later (qa1 _ _)).later (qa1 _ _)
 have HBv : Hid (Vq wb (w.heap.size + 1) 27 #[.int .i64 r', .int .i64 c', .slice a' n' k', .slice b' m' d']) := by rw [← HW.out]; exact (Vq.new1 _ _ _ _).later (qa1 _ _)
 have HZ : Hid (Vq wb (w.heap.size + 1 + 1) 27 #[.int .i64 0, .int .i64 0, .slice none 0 0, .slice none 0 0]) := by rw [← HW.out]; exact Vq.new2 _ _ _ _ _
 have hsz : wb.heap.size = w.heap.size + 1 + 1 + 1 := by rw [← HW.out]; simp
 have HR0 : Hid (Below wb.heap.size wb wb) := Below.refl _ _
 by_cases h1 : MayP F r c n m q
 ·have h2 : ¬ MayP F' r' c' n' m' q' := fun h2 => h ⟨h1, h2⟩
  have HMa : Hid (∀ w', Below wb.heap.size wb w' → Calls Tryz.prog 16 #[cv r c a n k b m d] w' fun e w'' => e = .returned (.bool true) ∧ Below w'.heap.size w' w'') := fun w' h => qgl w' r c n k d m a b F q ((ha.later HB0.out).later h) ((hb.later HB0.out).later h) hm hq true ⟨fun _ => h1, fun _ => rfl⟩
  have HMb : Hid (∀ w', Below wb.heap.size wb w' → Calls Tryz.prog 16 #[cv r' c' a' n' k' b' m' d'] w' fun e w'' => e = .returned (.bool false) ∧ Below w'.heap.size w' w'') := fun w' h => qgl w' r' c' n' k' d' m' a' b' F' q' ((ha'.later HB0.out).later h) ((hb'.later HB0.out).later h) hm' hq' false ⟨fun h => (by cases h), fun h => (h2 h).elim⟩
  have M1 : Hid True := trivial
  clear ha ha' hb hb' hq hq' h h1 h2
  go_enter Tryz.func11, Tryz.ntmps11
  go_upto_region 2 with (first
   | (go_at_call 16; clear M1; rw [HW.out]; refine (HMa.out _ HR0.out).mono ?_; rintro e w1 ⟨rfl, hb1⟩; have HB1 : Hid (Below wb.heap.size wb w1) := hb1; have a_10 := (HA.out.later HB1.out).cell 0 _ rfl; have a_11 := (HA.out.later HB1.out).cell 1 _ rfl; have a_12 := (HA.out.later HB1.out).cell 2 _ rfl; have a_13 := (HA.out.later HB1.out).cell 3 _ rfl; have b_10 := (HBv.out.later HB1.out).cell 0 _ rfl; have b_11 := (HBv.out.later HB1.out).cell 1 _ rfl; have b_12 := (HBv.out.later HB1.out).cell 2 _ rfl; have b_13 := (HBv.out.later HB1.out).cell 3 _ rfl; have z_10 := (HZ.out.later HB1.out).cell 0 _ rfl; have z_11 := (HZ.out.later HB1.out).cell 1 _ rfl; have z_12 := (HZ.out.later HB1.out).cell 2 _ rfl; have z_13 := (HZ.out.later HB1.out).cell 3 _ rfl; have f_10 := (HZ.out.later HB1.out).free 0; have f_11 := (HZ.out.later HB1.out).free 1; have f_12 := (HZ.out.later HB1.out).free 2; have f_13 := (HZ.out.later HB1.out).free 3;  clear hb1)
   | (go_at_call 16; refine (HMb.out _ HB1.out).mono ?_; rintro e w2 ⟨rfl, hb2⟩; have HB2 : Hid (Below wb.heap.size wb w2) := qa0 HB1.out hb2; clear a_10 a_11 a_12 a_13 b_10 b_11 b_12 b_13 z_10 z_11 z_12 z_13 f_10 f_11 f_12 f_13; have a_20 := (HA.out.later HB2.out).cell 0 _ rfl; have a_21 := (HA.out.later HB2.out).cell 1 _ rfl; have a_22 := (HA.out.later HB2.out).cell 2 _ rfl; have a_23 := (HA.out.later HB2.out).cell 3 _ rfl; have b_20 := (HBv.out.later HB2.out).cell 0 _ rfl; have b_21 := (HBv.out.later HB2.out).cell 1 _ rfl; have b_22 := (HBv.out.later HB2.out).cell 2 _ rfl; have b_23 := (HBv.out.later HB2.out).cell 3 _ rfl; have z_20 := (HZ.out.later HB2.out).cell 0 _ rfl; have z_21 := (HZ.out.later HB2.out).cell 1 _ rfl; have z_22 := (HZ.out.later HB2.out).cell 2 _ rfl; have z_23 := (HZ.out.later HB2.out).cell 3 _ rfl; have f_20 := (HZ.out.later HB2.out).free 0; have f_21 := (HZ.out.later HB2.out).free 1; have f_22 := (HZ.out.later HB2.out).free 2; have f_23 := (HZ.out.later HB2.out).free 3;  clear hb2))
  obtain ⟨hp1, hp2⟩ := qcz (HZ.out.later HB2.out) (.int .i64 0) (.int .i64 0) (.slice none 0 0) (.slice none 0 0)
  have HP1 := jhidv hp1
  have HP2 := jhidv hp2
  clear hp1 hp2
  go_wp2
  refine bodyPost_ret (qaw Tryz.results11 _ _ (w.heap.size + 1 + 1) _ _ _ _ _ rfl rfl HP1.out) rfl ?_
  exact ⟨rfl, (qa0 HB0.out HB2.out).grown HP2.out (qa0 HB0.out HB2.out).size (fun g e => (by cases e; omega))⟩
 ·have HMa : Hid (∀ w', Below wb.heap.size wb w' → Calls Tryz.prog 16 #[cv r c a n k b m d] w' fun e w'' => e = .returned (.bool false) ∧ Below w'.heap.size w' w'') := fun w' h => qgl w' r c n k d m a b F q ((ha.later HB0.out).later h) ((hb.later HB0.out).later h) hm hq false ⟨fun h => (by cases h), fun h => (h1 h).elim⟩
  clear ha ha' hb hb' hq hq' h h1
  go_enter Tryz.func11, Tryz.ntmps11
  go_upto_region 2 with (go_at_call 16; rw [HW.out]; refine (HMa.out _ HR0.out).mono ?_; rintro e w1 ⟨rfl, hb1⟩; have HB1 : Hid (Below wb.heap.size wb w1) := hb1; have a_10 := (HA.out.later HB1.out).cell 0 _ rfl; have a_11 := (HA.out.later HB1.out).cell 1 _ rfl; have a_12 := (HA.out.later HB1.out).cell 2 _ rfl; have a_13 := (HA.out.later HB1.out).cell 3 _ rfl; have b_10 := (HBv.out.later HB1.out).cell 0 _ rfl; have b_11 := (HBv.out.later HB1.out).cell 1 _ rfl; have b_12 := (HBv.out.later HB1.out).cell 2 _ rfl; have b_13 := (HBv.out.later HB1.out).cell 3 _ rfl; have z_10 := (HZ.out.later HB1.out).cell 0 _ rfl; have z_11 := (HZ.out.later HB1.out).cell 1 _ rfl; have z_12 := (HZ.out.later HB1.out).cell 2 _ rfl; have z_13 := (HZ.out.later HB1.out).cell 3 _ rfl; have f_10 := (HZ.out.later HB1.out).free 0; have f_11 := (HZ.out.later HB1.out).free 1; have f_12 := (HZ.out.later HB1.out).free 2; have f_13 := (HZ.out.later HB1.out).free 3;  clear hb1)
  obtain ⟨hp1, hp2⟩ := qcz (HZ.out.later HB1.out) (.int .i64 0) (.int .i64 0) (.slice none 0 0) (.slice none 0 0)
  have HP1 := jhidv hp1
  have HP2 := jhidv hp2
  clear hp1 hp2
  go_wp2
  refine bodyPost_ret (qaw Tryz.results11 _ _ (w.heap.size + 1 + 1) _ _ _ _ _ rfl rfl HP1.out) rfl ?_
  exact ⟨rfl, (qa0 HB0.out HB1.out).grown HP2.out (qa0 HB0.out HB1.out).size (fun g e => (by cases e; omega))⟩
theorem ql1 (w : World) (ra ca na ka ma da rb cb nb kb mb db : Nat) (a b a' b' : Option Addr) (F F' q q' : Nat → Nat) (ha : Mt w a na ka F) (ha' : Mt w a' nb kb F') (hb : Jl w b .u64 ma (fun i => (q i : Int))) (hb' : Jl w b' .u64 mb (fun i => (q' i : Int))) (RA : Rt ra ca na) (RB : Rt rb cb nb) (hc : 1 ≤ ca) (hr : ca ≤ ra) (hc' : 1 ≤ cb) (hr' : cb ≤ rb) (hm : ma ≤ 17592186044416) (hm' : mb ≤ 17592186044416) (hg : ∀ i, i < ma → HangP F ra ca (q i)) (hg' : ∀ i, i < mb → HangP F' rb cb (q' i)) (hlim : 64 < ra + rb ∨ 16384 < ma + mb) :
  Calls Tryz.prog 11 #[cv ra ca a na ka b ma da, cv rb cb a' nb kb b' mb db] w fun e w' => e = .returned (.tuple #[cv 0 0 none 0 0 none 0 0, .int .i64 4]) ∧ Below w.heap.size w w' := by
 obtain ⟨wb, HW⟩ : ∃ wb, Hid (((w.alloc (.cells #[.int .i64 (ra : Int), .int .i64 (ca : Int), .slice a na ka, .slice b ma da] 27)).alloc (.cells #[.int .i64 (rb : Int), .int .i64 (cb : Int), .slice a' nb kb, .slice b' mb db] 27)).alloc (.cells #[.int .i64 0, .int .i64 0, .slice none 0 0, .slice none 0 0] 27) = wb) := ⟨_, rfl⟩
 have HB0 : Hid (Below w.heap.size w wb) := by rw [← HW.out]; exact qa0 (qa0 (qa1 _ _) (qa1 _ _)) (qa1 _ _)
 have HA : Hid (Vq wb w.heap.size 27 #[.int .i64 (ra : Int), .int .i64 (ca : Int), .slice a na ka, .slice b ma da]) := by rw [← HW.out]; exact ((Vq.new w _ _).later (qa1 _ _)).later (qa1 _ _)
 have HBv : Hid (Vq wb (w.heap.size + 1) 27 #[.int .i64 (rb : Int), .int .i64 (cb : Int), .slice a' nb kb, .slice b' mb db]) := by rw [← HW.out]; exact (Vq.new1 _ _ _ _).later (qa1 _ _)
 have HZ : Hid (Vq wb (w.heap.size + 1 + 1) 27 #[.int .i64 0, .int .i64 0, .slice none 0 0, .slice none 0 0]) := by rw [← HW.out]; exact Vq.new2 _ _ _ _ _
 have hsz : wb.heap.size = w.heap.size + 1 + 1 + 1 := by rw [← HW.out]; simp
 have HR0 : Hid (Below wb.heap.size wb wb) := Below.refl _ _
 have hra := RA.r64
 have hrb := RB.r64
 have GA : GenP ra ca na := ⟨RA.p, by omega, by omega⟩
 have GB : GenP rb cb nb := ⟨RB.p, by omega, by omega⟩
 have HMa : Hid (∀ w', Below wb.heap.size wb w' → Calls Tryz.prog 16 #[cv ra ca a na ka b ma da] w' fun e w'' => e = .returned (.bool true) ∧ Below w'.heap.size w' w'') := fun w' h => qgl w' ra ca na ka da ma a b F q ((ha.later HB0.out).later h) ((hb.later HB0.out).later h) (by omega) (fun i hi => qcg (hg i hi) hra) true ⟨fun _ => ⟨GA, by simpa using hg⟩, fun _ => rfl⟩
 have HMb : Hid (∀ w', Below wb.heap.size wb w' → Calls Tryz.prog 16 #[cv rb cb a' nb kb b' mb db] w' fun e w'' => e = .returned (.bool true) ∧ Below w'.heap.size w' w'') := fun w' h => qgl w' rb cb nb kb db mb a' b' F' q' ((ha'.later HB0.out).later h) ((hb'.later HB0.out).later h) (by omega) (fun i hi => qcg (hg' i hi) hrb) true ⟨fun _ => ⟨GB, by simpa using hg'⟩, fun _ => rfl⟩
 have M1 : Hid True := trivial
 by_cases hrr : 64 < ra + rb
 ·have HTm : Hid (∀ w' bq, Jl w' bq .i64 2 (tw16 ra rb) → Calls Tryz.prog 36 #[.slice bq 2 2] w' fun e w'' => e = .returned (.bool true) ∧ w' = w'') := fun w' bq h => by
   have := qc0 w' 2 2 bq (tw16 ra rb) (by omega) h (fun i hi => by rcases (by omega : i = 0 ∨ i = 1) with rfl | rfl <;> simp [tw16] <;> omega)
   rwa [show decide (64 < sm16 (tw16 ra rb) 2) = true by simp [sm16, tw16]; omega] at this
  clear ha ha' hb hb' RA RB hg hg' GA GB hlim
  go_enter Tryz.func11, Tryz.ntmps11
  go_upto_region 4 with (first
   | (go_at_call 16; clear M1; rw [HW.out]; refine (HMa.out _ HR0.out).mono ?_; rintro e w1 ⟨rfl, hb1⟩; have HB1 : Hid (Below wb.heap.size wb w1) := hb1; have a_10 := (HA.out.later HB1.out).cell 0 _ rfl; have a_11 := (HA.out.later HB1.out).cell 1 _ rfl; have a_12 := (HA.out.later HB1.out).cell 2 _ rfl; have a_13 := (HA.out.later HB1.out).cell 3 _ rfl; have b_10 := (HBv.out.later HB1.out).cell 0 _ rfl; have b_11 := (HBv.out.later HB1.out).cell 1 _ rfl; have b_12 := (HBv.out.later HB1.out).cell 2 _ rfl; have b_13 := (HBv.out.later HB1.out).cell 3 _ rfl; have z_10 := (HZ.out.later HB1.out).cell 0 _ rfl; have z_11 := (HZ.out.later HB1.out).cell 1 _ rfl; have z_12 := (HZ.out.later HB1.out).cell 2 _ rfl; have z_13 := (HZ.out.later HB1.out).cell 3 _ rfl; have f_10 := (HZ.out.later HB1.out).free 0; have f_11 := (HZ.out.later HB1.out).free 1; have f_12 := (HZ.out.later HB1.out).free 2; have f_13 := (HZ.out.later HB1.out).free 3;  clear hb1)
   | (go_at_call 16; refine (HMb.out _ HB1.out).mono ?_; rintro e w2 ⟨rfl, hb2⟩; have HB2 : Hid (Below wb.heap.size wb w2) := qa0 HB1.out hb2; clear a_10 a_11 a_12 a_13 b_10 b_11 b_12 b_13 z_10 z_11 z_12 z_13 f_10 f_11 f_12 f_13; have a_20 := (HA.out.later HB2.out).cell 0 _ rfl; have a_21 := (HA.out.later HB2.out).cell 1 _ rfl; have a_22 := (HA.out.later HB2.out).cell 2 _ rfl; have a_23 := (HA.out.later HB2.out).cell 3 _ rfl; have b_20 := (HBv.out.later HB2.out).cell 0 _ rfl; have b_21 := (HBv.out.later HB2.out).cell 1 _ rfl; have b_22 := (HBv.out.later HB2.out).cell 2 _ rfl; have b_23 := (HBv.out.later HB2.out).cell 3 _ rfl; have z_20 := (HZ.out.later HB2.out).cell 0 _ rfl; have z_21 := (HZ.out.later HB2.out).cell 1 _ rfl; have z_22 := (HZ.out.later HB2.out).cell 2 _ rfl; have z_23 := (HZ.out.later HB2.out).cell 3 _ rfl; have f_20 := (HZ.out.later HB2.out).free 0; have f_21 := (HZ.out.later HB2.out).free 1; have f_22 := (HZ.out.later HB2.out).free 2; have f_23 := (HZ.out.later HB2.out).free 3;  clear hb2)
   | (go_at_call 36; obtain ⟨w3, HW3⟩ : ∃ w3, Hid (w2.alloc (.cells #[.int .i64 (ra : Int), .int .i64 (rb : Int)] 3) = w3) := ⟨_, rfl⟩; rw [HW3.out]; have HB3 : Hid (Below wb.heap.size wb w3) := (by rw [← HW3.out]; exact qa0 HB2.out (qa1 _ _)); refine (HTm.out _ _ (by rw [← HW3.out]; exact qgj _ _ _ _)).mono ?_; rintro e w' ⟨rfl, rfl⟩; clear a_20 a_21 a_22 a_23 b_20 b_21 b_22 b_23 z_20 z_21 z_22 z_23 f_20 f_21 f_22 f_23; have a_30 := (HA.out.later HB3.out).cell 0 _ rfl; have a_31 := (HA.out.later HB3.out).cell 1 _ rfl; have a_32 := (HA.out.later HB3.out).cell 2 _ rfl; have a_33 := (HA.out.later HB3.out).cell 3 _ rfl; have b_30 := (HBv.out.later HB3.out).cell 0 _ rfl; have b_31 := (HBv.out.later HB3.out).cell 1 _ rfl; have b_32 := (HBv.out.later HB3.out).cell 2 _ rfl; have b_33 := (HBv.out.later HB3.out).cell 3 _ rfl; have z_30 := (HZ.out.later HB3.out).cell 0 _ rfl; have z_31 := (HZ.out.later HB3.out).cell 1 _ rfl; have z_32 := (HZ.out.later HB3.out).cell 2 _ rfl; have z_33 := (HZ.out.later HB3.out).cell 3 _ rfl; have f_30 := (HZ.out.later HB3.out).free 0; have f_31 := (HZ.out.later HB3.out).free 1; have f_32 := (HZ.out.later HB3.out).free 2; have f_33 := (HZ.out.later HB3.out).free 3;  clear HW3))
  obtain ⟨hp1, hp2⟩ := qcz (HZ.out.later HB3.out) (.int .i64 0) (.int .i64 0) (.slice none 0 0) (.slice none 0 0)
  have HP1 := jhidv hp1
  have HP2 := jhidv hp2
  clear hp1 hp2
  go_wp2
  refine bodyPost_ret (qaw Tryz.results11 _ _ (w.heap.size + 1 + 1) _ _ _ _ _ rfl rfl HP1.out) rfl ?_
  exact ⟨rfl, (qa0 HB0.out HB3.out).grown HP2.out (qa0 HB0.out HB3.out).size (fun g e => (by cases e; omega))⟩
 ·have HTm : Hid (∀ w' bq, Jl w' bq .i64 2 (tw16 ra rb) → Calls Tryz.prog 36 #[.slice bq 2 2] w' fun e w'' => e = .returned (.bool false) ∧ w' = w'') := fun w' bq h => by
   have := qc0 w' 2 2 bq (tw16 ra rb) (by omega) h (fun i hi => by rcases (by omega : i = 0 ∨ i = 1) with rfl | rfl <;> simp [tw16] <;> omega)
   rwa [show decide (64 < sm16 (tw16 ra rb) 2) = false by simp [sm16, tw16]; omega] at this
  have HTg : Hid (∀ w', Calls Tryz.prog 28 #[cv ra ca a na ka b ma da, .int .i64 1, cv rb cb a' nb kb b' mb db, .int .i64 1] w' fun e w'' => e = .returned (.bool true) ∧ Below w'.heap.size w' w'') := fun w' => tmg16 w' ra ca rb cb a b a' b' na ka ma da nb kb mb db 1 1 (by omega) (by omega) (by omega) (by omega) (by omega) (by omega) true ⟨fun _ => (by omega), fun _ => rfl⟩
  clear ha ha' hb hb' RA RB hg hg' GA GB hlim
  go_enter Tryz.func11, Tryz.ntmps11
  go_upto_region 4 with (first
   | (go_at_call 16; clear M1; rw [HW.out]; refine (HMa.out _ HR0.out).mono ?_; rintro e w1 ⟨rfl, hb1⟩; have HB1 : Hid (Below wb.heap.size wb w1) := hb1; have a_10 := (HA.out.later HB1.out).cell 0 _ rfl; have a_11 := (HA.out.later HB1.out).cell 1 _ rfl; have a_12 := (HA.out.later HB1.out).cell 2 _ rfl; have a_13 := (HA.out.later HB1.out).cell 3 _ rfl; have b_10 := (HBv.out.later HB1.out).cell 0 _ rfl; have b_11 := (HBv.out.later HB1.out).cell 1 _ rfl; have b_12 := (HBv.out.later HB1.out).cell 2 _ rfl; have b_13 := (HBv.out.later HB1.out).cell 3 _ rfl; have z_10 := (HZ.out.later HB1.out).cell 0 _ rfl; have z_11 := (HZ.out.later HB1.out).cell 1 _ rfl; have z_12 := (HZ.out.later HB1.out).cell 2 _ rfl; have z_13 := (HZ.out.later HB1.out).cell 3 _ rfl; have f_10 := (HZ.out.later HB1.out).free 0; have f_11 := (HZ.out.later HB1.out).free 1; have f_12 := (HZ.out.later HB1.out).free 2; have f_13 := (HZ.out.later HB1.out).free 3;  clear hb1)
   | (go_at_call 16; refine (HMb.out _ HB1.out).mono ?_; rintro e w2 ⟨rfl, hb2⟩; have HB2 : Hid (Below wb.heap.size wb w2) := qa0 HB1.out hb2; clear a_10 a_11 a_12 a_13 b_10 b_11 b_12 b_13 z_10 z_11 z_12 z_13 f_10 f_11 f_12 f_13; have a_20 := (HA.out.later HB2.out).cell 0 _ rfl; have a_21 := (HA.out.later HB2.out).cell 1 _ rfl; have a_22 := (HA.out.later HB2.out).cell 2 _ rfl; have a_23 := (HA.out.later HB2.out).cell 3 _ rfl; have b_20 := (HBv.out.later HB2.out).cell 0 _ rfl; have b_21 := (HBv.out.later HB2.out).cell 1 _ rfl; have b_22 := (HBv.out.later HB2.out).cell 2 _ rfl; have b_23 := (HBv.out.later HB2.out).cell 3 _ rfl; have z_20 := (HZ.out.later HB2.out).cell 0 _ rfl; have z_21 := (HZ.out.later HB2.out).cell 1 _ rfl; have z_22 := (HZ.out.later HB2.out).cell 2 _ rfl; have z_23 := (HZ.out.later HB2.out).cell 3 _ rfl; have f_20 := (HZ.out.later HB2.out).free 0; have f_21 := (HZ.out.later HB2.out).free 1; have f_22 := (HZ.out.later HB2.out).free 2; have f_23 := (HZ.out.later HB2.out).free 3;  clear hb2)
   | (go_at_call 36; obtain ⟨w3, HW3⟩ : ∃ w3, Hid (w2.alloc (.cells #[.int .i64 (ra : Int), .int .i64 (rb : Int)] 3) = w3) := ⟨_, rfl⟩; rw [HW3.out]; have HB3 : Hid (Below wb.heap.size wb w3) := (by rw [← HW3.out]; exact qa0 HB2.out (qa1 _ _)); refine (HTm.out _ _ (by rw [← HW3.out]; exact qgj _ _ _ _)).mono ?_; rintro e w' ⟨rfl, rfl⟩; clear a_20 a_21 a_22 a_23 b_20 b_21 b_22 b_23 z_20 z_21 z_22 z_23 f_20 f_21 f_22 f_23; have a_30 := (HA.out.later HB3.out).cell 0 _ rfl; have a_31 := (HA.out.later HB3.out).cell 1 _ rfl; have a_32 := (HA.out.later HB3.out).cell 2 _ rfl; have a_33 := (HA.out.later HB3.out).cell 3 _ rfl; have b_30 := (HBv.out.later HB3.out).cell 0 _ rfl; have b_31 := (HBv.out.later HB3.out).cell 1 _ rfl; have b_32 := (HBv.out.later HB3.out).cell 2 _ rfl; have b_33 := (HBv.out.later HB3.out).cell 3 _ rfl; have z_30 := (HZ.out.later HB3.out).cell 0 _ rfl; have z_31 := (HZ.out.later HB3.out).cell 1 _ rfl; have z_32 := (HZ.out.later HB3.out).cell 2 _ rfl; have z_33 := (HZ.out.later HB3.out).cell 3 _ rfl; have f_30 := (HZ.out.later HB3.out).free 0; have f_31 := (HZ.out.later HB3.out).free 1; have f_32 := (HZ.out.later HB3.out).free 2; have f_33 := (HZ.out.later HB3.out).free 3;  clear HW3)
   | (go_at_call 28; refine (HTg.out _).mono ?_; rintro e w4 ⟨rfl, hb4⟩; have HB4 : Hid (Below wb.heap.size wb w4) := qa0 HB3.out hb4; clear a_30 a_31 a_32 a_33 b_30 b_31 b_32 b_33 z_30 z_31 z_32 z_33 f_30 f_31 f_32 f_33; have a_40 := (HA.out.later HB4.out).cell 0 _ rfl; have a_41 := (HA.out.later HB4.out).cell 1 _ rfl; have a_42 := (HA.out.later HB4.out).cell 2 _ rfl; have a_43 := (HA.out.later HB4.out).cell 3 _ rfl; have b_40 := (HBv.out.later HB4.out).cell 0 _ rfl; have b_41 := (HBv.out.later HB4.out).cell 1 _ rfl; have b_42 := (HBv.out.later HB4.out).cell 2 _ rfl; have b_43 := (HBv.out.later HB4.out).cell 3 _ rfl; have z_40 := (HZ.out.later HB4.out).cell 0 _ rfl; have z_41 := (HZ.out.later HB4.out).cell 1 _ rfl; have z_42 := (HZ.out.later HB4.out).cell 2 _ rfl; have z_43 := (HZ.out.later HB4.out).cell 3 _ rfl; have f_40 := (HZ.out.later HB4.out).free 0; have f_41 := (HZ.out.later HB4.out).free 1; have f_42 := (HZ.out.later HB4.out).free 2; have f_43 := (HZ.out.later HB4.out).free 3;  clear hb4))
  obtain ⟨hp1, hp2⟩ := qcz (HZ.out.later HB4.out) (.int .i64 0) (.int .i64 0) (.slice none 0 0) (.slice none 0 0)
  have HP1 := jhidv hp1
  have HP2 := jhidv hp2
  clear hp1 hp2
  go_wp2
  refine bodyPost_ret (qaw Tryz.results11 _ _ (w.heap.size + 1 + 1) _ _ _ _ _ rfl rfl HP1.out) rfl ?_
  exact ⟨rfl, (qa0 HB0.out HB4.out).grown HP2.out (qa0 HB0.out HB4.out).size (fun g e => (by cases e; omega))⟩
end Go.Proofs.YtmgfeepnkahkmaaGreat
