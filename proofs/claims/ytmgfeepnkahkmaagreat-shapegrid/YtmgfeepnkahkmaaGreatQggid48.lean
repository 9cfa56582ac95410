/-
  What Join is made of: counts of groups, groups moved, a list of groups of its own.
  shape.Join of any two codes.
  shape.Join, shape.Product: the errors.
-/
import Derived.Test.YtmgfeepnkahkmaaGreatQggid00
import Derived.Test.YtmgfeepnkahkmaaGreatQggid47
import Derived.Test.YtmgfeepnkahkmaaGreatQggid33
import Derived.Test.YtmgfeepnkahkmaaGreatQggid45
import Derived.Laws.AppendOwnNone
import Derived.Lib.AppendZeros
import Derived.Lib.MinMax
import Derived.Deep.LoopGhost
import Derived.Test.YtmgfeepnkahkmaaGreatQggid35
import Derived.Test.YtmgfeepnkahkmaaGreatQggid34
import Derived.Laws.ResultCell
import Derived.Laws.Rows
set_option maxRecDepth 100000
set_option maxHeartbeats 16000000
namespace Go.Proofs.YtmgfeepnkahkmaaGreat
open Go.RowKit
theorem tmg16 (w : World) (r c r' c' : Int) (a b a' b' : Option Addr) (n k m d n' k' m' d' x y : Nat) (hm : m ≤ 17592186044416) (hm' : m' ≤ 17592186044416) (hx : 1 ≤ x) (hx2 : x ≤ 64) (hy : 1 ≤ y) (hy2 : y ≤ 64) (t : Bool) (ht : t = true ↔ 16384 < m * x + m' * y) :
  Calls Tryz.prog 28 #[cv r c a n k b m d, .int .i64 (x : Int), cv r' c' a' n' k' b' m' d', .int .i64 (y : Int)] w fun e w' => e = .returned (.bool t) ∧ Below w.heap.size w w' := by
 obtain ⟨wb, HW⟩ : ∃ wb, Hid ((w.alloc (.cells #[.int .i64 r, .int .i64 c, .slice a n k, .slice b m d] 27)).alloc (.cells #[.int .i64 r', .int .i64 c', .slice a' n' k', .slice b' m' d'] 27) = wb) := ⟨_, rfl⟩
 have HB0 : Hid (Below w.heap.size w wb) := by rw [← HW.out]; exact qa0 (qa1 _ _) (qa1 _ _)
 have HA : Hid (Vq wb w.heap.size 27 #[.int .i64 r, .int .i64 c, .slice a n k, .slice b m d]) := by rw [← HW.out]; exact (Vq.new w _ _).later (qa1 _ _)
 have HC : Hid (Vq wb (w.heap.size + 1) 27 #[.int .i64 r', .int .i64 c', .slice a' n' k', .slice b' m' d']) := by rw [← HW.out]; exact Vq.new1 _ _ _ _
 have a3 := HA.out.cell 3 _ rfl
 have c3 := HC.out.cell 3 _ rfl
 obtain ⟨mx, HX⟩ : ∃ mx : Nat, Hid (max (m : Int) (m' : Int) = (mx : Int)) := ⟨max m m', by show _ = _; omega⟩
 have hx3 := HX.out
 by_cases hbig : 16384 < mx
 ·have HT : Hid (t = true) := ht.2 (by
   have h1 : m * 1 ≤ m * x := Nat.mul_le_mul_left m hx
   have h2 : m' * 1 ≤ m' * y := Nat.mul_le_mul_left m' hy
   have := HX.out
   omega)
  have hb2 : (16384 : Int) < (mx : Int) := by omega
  clear ht
  go_enter Tryz.func28, Tryz.ntmps28
  go_wp2
  rw [HW.out]
  go_wp2
  go_ret
  exact ⟨by rw [HT.out]; rfl, HB0.out⟩
 ·have hb2 : ¬ (16384 : Int) < (mx : Int) := by omega
  have hmm : m ≤ 16384 := by omega
  have hmm' : m' ≤ 16384 := by omega
  obtain ⟨p1, HP1⟩ : ∃ p : Nat, Hid (m * x = p) := ⟨_, rfl⟩
  obtain ⟨p2, HP2⟩ : ∃ p : Nat, Hid (m' * y = p) := ⟨_, rfl⟩
  have e1 : (m : Int) * (x : Int) = (p1 : Int) := by rw [← HP1.out]; simp
  have e2 : (m' : Int) * (y : Int) = (p2 : Int) := by rw [← HP2.out]; simp
  have l1 : p1 ≤ 16384 * 64 := by rw [← HP1.out]; exact Nat.mul_le_mul hmm hx2
  have l2 : p2 ≤ 16384 * 64 := by rw [← HP2.out]; exact Nat.mul_le_mul hmm' hy2
  have w1 : IntKind.i64.wrap (p1 : Int) = (p1 : Int) := by rw [IntKind.wrap_i64]; omega
  have w2 : IntKind.i64.wrap (p2 : Int) = (p2 : Int) := by rw [IntKind.wrap_i64]; omega
  have w3 : IntKind.i64.wrap ((p1 : Int) + (p2 : Int)) = (p1 : Int) + (p2 : Int) := by rw [IntKind.wrap_i64]; omega
  have HT : Hid (t = decide ((16384 : Int) < (p1 : Int) + (p2 : Int))) := by
   show t = _
   rw [HP1.out, HP2.out] at ht
   cases t with
   | true => have := ht.1 rfl; symm; simp; omega
   | false =>
    have : ¬ 16384 < p1 + p2 := fun h => by have := ht.2 h; cases this
    symm; simp; omega
  clear ht
  go_enter Tryz.func28, Tryz.ntmps28
  go_wp2
  rw [HW.out]
  go_wp2
  go_ret
  exact ⟨by rw [HT.out]; rfl, HB0.out⟩
/-- A list, and another one behind it. -/
def catG (f g : Nat → Nat) (n : Nat) : Nat → Nat := fun i => if i < n then f i else g (i - n)
open Go.RowKit
theorem qae {fn : Func} {p u : Tmp} (h : fn.results = #[.cell p 27, .tmp u]) (tmps : Array Value) (w : World) (b : Nat) (x0 x1 x2 x3 v : Value) (hp : tmps.getD p undef = .pointer (some ⟨b, 0, none⟩)) (hu : tmps.getD u undef = v) (hv : Vq w b 27 #[x0, x1, x2, x3]) : (results fn tmps).run Tryz.prog w = .ok (.tuple #[.agg #[x0, x1, x2, x3], v]) w := by
 rw [results_cell_tmp h, hp, hu]
 simp [asAddr, Result.andThen, run_loadVar_row w b 27 27 #[x0, x1, x2, x3] (0, 0) _ hv Tryz.underlying27 rfl (by show _ = some 4; kernel_rfl)]
theorem qbb {F : Nat → Nat} {r c s : Nat} (h : HangP F r c s) (hr : r ≤ 64) : s < 18446744073709551616 := Nat.lt_of_lt_of_le h.1 (Nat.pow_le_pow_right (n := 2) (by decide) hr)
theorem qfc {F : Nat → Nat} {r c s t : Nat} (h : HangP F r c s) (ht : t < cn s 64) : lf s 64 t < r := by
 have h2 := (qan ht).2
 rcases Nat.lt_or_ge (lf s 64 t) r with hl | hl
 ·exact hl
 ·exfalso
  have hp : s < 2 ^ lf s 64 t := Nat.lt_of_lt_of_le h.1 (Nat.pow_le_pow_right (n := 2) (by decide) hl)
  have h0 : bt s (lf s 64 t) = 0 := by rw [bt, Nat.div_eq_of_lt hp]
  omega
open Go.RowKit
theorem join_bad3 (w : World) (r c r' c' : Int) (a b a' b' : Option Addr) (n k m d n' k' m' d' : Nat) (F F' q q' : Nat → Nat) (ha : Mt w a n k F) (ha' : Mt w a' n' k' F') (hb : Jl w b .u64 m (fun i => (q i : Int))) (hb' : Jl w b' .u64 m' (fun i => (q' i : Int))) (hm : m ≤ 17592186044416) (hm' : m' ≤ 17592186044416) (hq : ∀ i, i < m → q i < 18446744073709551616) (hq' : ∀ i, i < m' → q' i < 18446744073709551616) (h : ¬ (MayP F r c n m q ∧ MayP F' r' c' n' m' q')) :
  Calls Tryz.prog 11 #[cv r c a n k b m d, cv r' c' a' n' k' b' m' d'] w fun e w' => e = .returned (.tuple #[cv 0 0 none 0 0 none 0 0, .int .i64 3]) ∧ Below w.heap.size w w' := by
 obtain ⟨wb, HW⟩ : ∃ wb, Hid (((w.alloc (.cells #[.int .i64 r, .int .i64 c, .slice a n k, .slice b m d] 27)).alloc (.cells #[.int .i64 r', .int .i64 c', .slice a' n' k', .slice b' m' d'] 27)).alloc (.cells #[.int .i64 0, .int .i64 0, .slice none 0 0, .slice none 0 0] 27) = wb) := ⟨_, rfl⟩
 have HB0 : Hid (Below w.heap.size w wb) := by rw [← HW.out]; exact qa0 (qa0 (qa1 _ _) (qa1 _ _)) (qa1 _ _)
 have HA : Hid (Vq wb w.heap.size 27 #[.int .i64 r, .int .i64 c, .slice a n k, .slice b m d]) := by rw [← HW.out]; exact ((Vq.new w _ _).later (qa1 _ _)).later (qa1 _ _)
 have HBv : Hid (Vq wb (w.heap.size + 1) 27 #[.int .i64 r', .int .i64 c', .slice a' n' k', .slice b' m' d']) := by rw [← HW.out]; exact (Vq.new1 _ _ _ _).later (qa1 _ _)
 have HZ : Hid (Vq wb (w.heap.size + 1 + 1) 27 #[.int .i64 0, .int .i64 0, .slice none 0 0, .slice none 0 0]) := by rw [← HW.out]; exact Vq.new2 _ _ _ _ _
 have hsz : wb.heap.size = w.heap.size + 1 + 1 + 1 := by rw [← HW.out]; simp
 have HR0 : Hid (Below wb.heap.size wb wb) := Below.refl _ _
 by_cases h1 : MayP F r c n m q
 ·have h2 : ¬ MayP F' r' c' n' m' q' := fun h2 => h ⟨h1, h2⟩
  have HMa : Hid (∀ w', Below wb.heap.size wb w' → Calls Tryz.prog 16 #[cv r c a n k b m d] w' fun e w'' => e = .returned (.bool true) ∧ Below w'.heap.size w' w'') := fun w' h => qdd w' r c n k d m a b F q ((ha.later HB0.out).later h) ((hb.later HB0.out).later h) hm hq true ⟨fun _ => h1, fun _ => rfl⟩
  have HMb : Hid (∀ w', Below wb.heap.size wb w' → Calls Tryz.prog 16 #[cv r' c' a' n' k' b' m' d'] w' fun e w'' => e = .returned (.bool false) ∧ Below w'.heap.size w' w'') := fun w' h => qdd w' r' c' n' k' d' m' a' b' F' q' ((ha'.later HB0.out).later h) ((hb'.later HB0.out).later h) hm' hq' false ⟨fun h => (by cases h), fun h => (h2 h).elim⟩
  have M1 : Hid True := trivial
  clear ha ha' hb hb' hq hq' h h1 h2
  go_enter Tryz.func11, Tryz.ntmps11
  go_upto_region 2 with (first
   | (go_at_call 16; clear M1; rw [HW.out]; refine (HMa.out _ HR0.out).mono ?_; rintro e w1 ⟨rfl, hb1⟩; have HB1 : Hid (Below wb.heap.size wb w1) := hb1; have a_10 := (HA.out.later HB1.out).cell 0 _ rfl; have a_11 := (HA.out.later HB1.out).cell 1 _ rfl; have a_12 := (HA.out.later HB1.out).cell 2 _ rfl; have a_13 := (HA.out.later HB1.out).cell 3 _ rfl; have b_10 := (HBv.out.later HB1.out).cell 0 _ rfl; have b_11 := (HBv.out.later HB1.out).cell 1 _ rfl; have b_12 := (HBv.out.later HB1.out).cell 2 _ rfl; have b_13 := (HBv.out.later HB1.out).cell 3 _ rfl; have z_10 := (HZ.out.later HB1.out).cell 0 _ rfl; have z_11 := (HZ.out.later HB1.out).cell 1 _ rfl; have z_12 := (HZ.out.later HB1.out).cell 2 _ rfl; have z_13 := (HZ.out.later HB1.out).cell 3 _ rfl; have f_10 := (HZ.out.later HB1.out).free 0; have f_11 := (HZ.out.later HB1.out).free 1; have f_12 := (HZ.out.later HB1.out).free 2; have f_13 := (HZ.out.later HB1.out).free 3;  clear hb1)
   | (go_at_call 16; refine (HMb.out _ HB1.out).mono ?_; rintro e w2 ⟨rfl, hb2⟩; have HB2 : Hid (Below wb.heap.size wb w2) := qa0 HB1.out hb2; clear a_10 a_11 a_12 a_13 b_10 b_11 b_12 b_13 z_10 z_11 z_12 z_13 f_10 f_11 f_12 f_13; have a_20 := (HA.out.later HB2.out).cell 0 _ rfl; have a_21 := (HA.out.later HB2.out).cell 1 _ rfl; have a_22 := (HA.out.later HB2.out).cell 2 _ rfl; have a_23 := (HA.out.later HB2.out).cell 3 _ rfl; have b_20 := (HBv.out.later HB2.out).cell 0 _ rfl; have b_21 := (HBv.out.later HB2.out).cell 1 _ rfl; have b_22 := (HBv.out.later HB2.out).cell 2 _ rfl; have b_23 := (HBv.out.later HB2.out).cell 3 _ rfl; have z_20 := (HZ.out.later HB2.out).cell 0 _ rfl; have z_21 := (HZ.out.later HB2.out).cell 1 _ rfl; have z_22 := (HZ.out.later HB2.out).cell 2 _ rfl; have z_23 := (HZ.out.later HB2.out).cell 3 _ rfl; have f_20 := (HZ.out.later HB2.out).free 0; have f_21 := (HZ.out.later HB2.out).free 1; have f_22 := (HZ.out.later HB2.out).free 2; have f_23 := (HZ.out.later HB2.out).free 3;  clear hb2))
  obtain ⟨hp1, hp2⟩ := qba (HZ.out.later HB2.out) (.int .i64 0) (.int .i64 0) (.slice none 0 0) (.slice none 0 0)
  have HP1 := jhidv hp1
  have HP2 := jhidv hp2
  clear hp1 hp2
  go_wp2
  refine bodyPost_ret (qae Tryz.results11 _ _ (w.heap.size + 1 + 1) _ _ _ _ _ rfl rfl HP1.out) rfl ?_
  exact ⟨rfl, (qa0 HB0.out HB2.out).grown HP2.out (qa0 HB0.out HB2.out).size (fun g e => (by cases e; omega))⟩
 ·have HMa : Hid (∀ w', Below wb.heap.size wb w' → Calls Tryz.prog 16 #[cv r c a n k b m d] w' fun e w'' => e = .returned (.bool false) ∧ Below w'.heap.size w' w'') := fun w' h => qdd w' r c n k d m a b F q ((ha.later HB0.out).later h) ((hb.later HB0.out).later h) hm hq false ⟨fun h => (by cases h), fun h => (h1 h).elim⟩
  clear ha ha' hb hb' hq hq' h h1
  go_enter Tryz.func11, Tryz.ntmps11
  go_upto_region 2 with (go_at_call 16; rw [HW.out]; refine (HMa.out _ HR0.out).mono ?_; rintro e w1 ⟨rfl, hb1⟩; have HB1 : Hid (Below wb.heap.size wb w1) := hb1; have a_10 := (HA.out.later HB1.out).cell 0 _ rfl; have a_11 := (HA.out.later HB1.out).cell 1 _ rfl; have a_12 := (HA.out.later HB1.out).cell 2 _ rfl; have a_13 := (HA.out.later HB1.out).cell 3 _ rfl; have b_10 := (HBv.out.later HB1.out).cell 0 _ rfl; have b_11 := (HBv.out.later HB1.out).cell 1 _ rfl; have b_12 := (HBv.out.later HB1.out).cell 2 _ rfl; have b_13 := (HBv.out.later HB1.out).cell 3 _ rfl; have z_10 := (HZ.out.later HB1.out).cell 0 _ rfl; have z_11 := (HZ.out.later HB1.out).cell 1 _ rfl; have z_12 := (HZ.out.later HB1.out).cell 2 _ rfl; have z_13 := (HZ.out.later HB1.out).cell 3 _ rfl; have f_10 := (HZ.out.later HB1.out).free 0; have f_11 := (HZ.out.later HB1.out).free 1; have f_12 := (HZ.out.later HB1.out).free 2; have f_13 := (HZ.out.later HB1.out).free 3;  clear hb1)
  obtain ⟨hp1, hp2⟩ := qba (HZ.out.later HB1.out) (.int .i64 0) (.int .i64 0) (.slice none 0 0) (.slice none 0 0)
  have HP1 := jhidv hp1
  have HP2 := jhidv hp2
  clear hp1 hp2
  go_wp2
  refine bodyPost_ret (qae Tryz.results11 _ _ (w.heap.size + 1 + 1) _ _ _ _ _ rfl rfl HP1.out) rfl ?_
  exact ⟨rfl, (qa0 HB0.out HB1.out).grown HP2.out (qa0 HB0.out HB1.out).size (fun g e => (by cases e; omega))⟩
theorem qkz (w : World) (r c r' c' : Int) (a b a' b' : Option Addr) (n k m d n' k' m' d' : Nat) (F F' q q' : Nat → Nat) (ha : Mt w a n k F) (ha' : Mt w a' n' k' F') (hb : Jl w b .u64 m (fun i => (q i : Int))) (hb' : Jl w b' .u64 m' (fun i => (q' i : Int))) (hm : m ≤ 17592186044416) (hm' : m' ≤ 17592186044416) (hq : ∀ i, i < m → q i < 18446744073709551616) (hq' : ∀ i, i < m' → q' i < 18446744073709551616) (h : ¬ (MayP F r c n m q ∧ MayP F' r' c' n' m' q')) :
  Calls Tryz.prog 9 #[cv r c a n k b m d, cv r' c' a' n' k' b' m' d'] w fun e w' => e = .returned (.tuple #[cv 0 0 none 0 0 none 0 0, .int .i64 3]) ∧ Below w.heap.size w w' := by
 obtain ⟨wb, HW⟩ : ∃ wb, Hid (((w.alloc (.cells #[.int .i64 r, .int .i64 c, .slice a n k, .slice b m d] 27)).alloc (.cells #[.int .i64 r', .int .i64 c', .slice a' n' k', .slice b' m' d'] 27)).alloc (.cells #[.int .i64 0, .int .i64 0, .slice none 0 0, .slice none 0 0] 27) = wb) := ⟨_, rfl⟩
 have HB0 : Hid (Below w.heap.size w wb) := by rw [← HW.out]; exact qa0 (qa0 (qa1 _ _) (qa1 _ _)) (qa1 _ _)
 have HA : Hid (Vq wb w.heap.size 27 #[.int .i64 r, .int .i64 c, .slice a n k, .slice b m d]) := by rw [← HW.out]; exact ((Vq.new w _ _).later (qa1 _ _)).later (qa1 _ _)
 have HBv : Hid (Vq wb (w.heap.size + 1) 27 #[.int .i64 r', .int .i64 c', .slice a' n' k', .slice b' m' d']) := by rw [← HW.out]; exact (Vq.new1 _ _ _ _).later (qa1 _ _)
 have HZ : Hid (Vq wb (w.heap.size + 1 + 1) 27 #[.int .i64 0, .int .i64 0, .slice none 0 0, .slice none 0 0]) := by rw [← HW.out]; exact Vq.new2 _ _ _ _ _
 have hsz : wb.heap.size = w.heap.size + 1 + 1 + 1 := by rw [← HW.out]; simp
 have HR0 : Hid (Below wb.heap.size wb wb) := Below.refl _ _
 by_cases h1 : MayP F r c n m q
 ·have h2 : ¬ MayP F' r' c' n' m' q' := fun h2 => h ⟨h1, h2⟩
  have HMa : Hid (∀ w', Below wb.heap.size wb w' → Calls Tryz.prog 16 #[cv r c a n k b m d] w' fun e w'' => e = .returned (.bool true) ∧ Below w'.heap.size w' w'') := fun w' h => qdd w' r c n k d m a b F q ((ha.later HB0.out).later h) ((hb.later HB0.out).later h) hm hq true ⟨fun _ => h1, fun _ => rfl⟩
  have HMb : Hid (∀ w', Below wb.heap.size wb w' → Calls Tryz.prog 16 #[cv r' c' a' n' k' b' m' d'] w' fun e w'' => e = .returned (.bool false) ∧ Below w'.heap.size w' w'') := fun w' h => qdd w' r' c' n' k' d' m' a' b' F' q' ((ha'.later HB0.out).later h) ((hb'.later HB0.out).later h) hm' hq' false ⟨fun h => (by cases h), fun h => (h2 h).elim⟩
  have M1 : Hid True := trivial
  clear ha ha' hb hb' hq hq' h h1 h2
  go_enter Tryz.func9, Tryz.ntmps9
  go_upto_region 2 with (first
   | (go_at_call 16; clear M1; rw [HW.out]; refine (HMa.out _ HR0.out).mono ?_; rintro e w1 ⟨rfl, hb1⟩; have HB1 : Hid (Below wb.heap.size wb w1) := hb1; have a_10 := (HA.out.later HB1.out).cell 0 _ rfl; have a_11 := (HA.out.later HB1.out).cell 1 _ rfl; have a_12 := (HA.out.later HB1.out).cell 2 _ rfl; have a_13 := (HA.out.later HB1.out).cell 3 _ rfl; have b_10 := (HBv.out.later HB1.out).cell 0 _ rfl; have b_11 := (HBv.out.later HB1.out).cell 1 _ rfl; have b_12 := (HBv.out.later HB1.out).cell 2 _ rfl; have b_13 := (HBv.out.later HB1.out).cell 3 _ rfl; have z_10 := (HZ.out.later HB1.out).cell 0 _ rfl; have z_11 := (HZ.out.later HB1.out).cell 1 _ rfl; have z_12 := (HZ.out.later HB1.out).cell 2 _ rfl; have z_13 := (HZ.out.later HB1.out).cell 3 _ rfl; have f_10 := (HZ.out.later HB1.out).free 0; have f_11 := (HZ.out.later HB1.out).free 1; have f_12 := (HZ.out.later HB1.out).free 2; have f_13 := (HZ.out.later HB1.out).free 3;  clear hb1)
   | (go_at_call 16; refine (HMb.out _ HB1.out).mono ?_; rintro e w2 ⟨rfl, hb2⟩; have HB2 : Hid (Below wb.heap.size wb w2) := qa0 HB1.out hb2; clear a_10 a_11 a_12 a_13 b_10 b_11 b_12 b_13 z_10 z_11 z_12 z_13 f_10 f_11 f_12 f_13; have a_20 := (HA.out.later HB2.out).cell 0 _ rfl; have a_21 := (HA.out.later HB2.out).cell 1 _ rfl; have a_22 := (HA.out.later HB2.out).cell 2 _ rfl; have a_23 := (HA.out.later HB2.out).cell 3 _ rfl; have b_20 := (HBv.out.later HB2.out).cell 0 _ rfl; have b_21 := (HBv.out.later HB2.out).cell 1 _ rfl; have b_22 := (HBv.out.later HB2.out).cell 2 _ rfl; have b_23 := (HBv.out.later HB2.out).cell 3 _ rfl; have z_20 := (HZ.out.later HB2.out).cell 0 _ rfl; have z_21 := (HZ.out.later HB2.out).cell 1 _ rfl; have z_22 := (HZ.out.later HB2.out).cell 2 _ rfl; have z_23 := (HZ.out.later HB2.out).cell 3 _ rfl; have f_20 := (HZ.out.later HB2.out).free 0; have f_21 := (HZ.out.later HB2.out).free 1; have f_22 := (HZ.out.later HB2.out).free 2; have f_23 := (HZ.out.later HB2.out).free 3;  clear hb2))
  obtain ⟨hp1, hp2⟩ := qba (HZ.out.later HB2.out) (.int .i64 0) (.int .i64 0) (.slice none 0 0) (.slice none 0 0)
  have HP1 := jhidv hp1
  have HP2 := jhidv hp2
  clear hp1 hp2
  go_wp2
  refine bodyPost_ret (qae Tryz.results9 _ _ (w.heap.size + 1 + 1) _ _ _ _ _ rfl rfl HP1.out) rfl ?_
  exact ⟨rfl, (qa0 HB0.out HB2.out).grown HP2.out (qa0 HB0.out HB2.out).size (fun g e => (by cases e; omega))⟩
 ·have HMa : Hid (∀ w', Below wb.heap.size wb w' → Calls Tryz.prog 16 #[cv r c a n k b m d] w' fun e w'' => e = .returned (.bool false) ∧ Below w'.heap.size w' w'') := fun w' h => qdd w' r c n k d m a b F q ((ha.later HB0.out).later h) ((hb.later HB0.out).later h) hm hq false ⟨fun h => (by cases h), fun h => (h1 h).elim⟩
  clear ha ha' hb hb' hq hq' h h1
  go_enter Tryz.func9, Tryz.ntmps9
  go_upto_region 2 with (go_at_call 16; rw [HW.out]; refine (HMa.out _ HR0.out).mono ?_; rintro e w1 ⟨rfl, hb1⟩; have HB1 : Hid (Below wb.heap.size wb w1) := hb1; have a_10 := (HA.out.later HB1.out).cell 0 _ rfl; have a_11 := (HA.out.later HB1.out).cell 1 _ rfl; have a_12 := (HA.out.later HB1.out).cell 2 _ rfl; have a_13 := (HA.out.later HB1.out).cell 3 _ rfl; have b_10 := (HBv.out.later HB1.out).cell 0 _ rfl; have b_11 := (HBv.out.later HB1.out).cell 1 _ rfl; have b_12 := (HBv.out.later HB1.out).cell 2 _ rfl; have b_13 := (HBv.out.later HB1.out).cell 3 _ rfl; have z_10 := (HZ.out.later HB1.out).cell 0 _ rfl; have z_11 := (HZ.out.later HB1.out).cell 1 _ rfl; have z_12 := (HZ.out.later HB1.out).cell 2 _ rfl; have z_13 := (HZ.out.later HB1.out).cell 3 _ rfl; have f_10 := (HZ.out.later HB1.out).free 0; have f_11 := (HZ.out.later HB1.out).free 1; have f_12 := (HZ.out.later HB1.out).free 2; have f_13 := (HZ.out.later HB1.out).free 3;  clear hb1)
  obtain ⟨hp1, hp2⟩ := qba (HZ.out.later HB1.out) (.int .i64 0) (.int .i64 0) (.slice none 0 0) (.slice none 0 0)
  have HP1 := jhidv hp1
  have HP2 := jhidv hp2
  clear hp1 hp2
  go_wp2
  refine bodyPost_ret (qae Tryz.results9 _ _ (w.heap.size + 1 + 1) _ _ _ _ _ rfl rfl HP1.out) rfl ?_
  exact ⟨rfl, (qa0 HB0.out HB1.out).grown HP2.out (qa0 HB0.out HB1.out).size (fun g e => (by cases e; omega))⟩
theorem join_bad4 (w : World) (ra ca na ka ma da rb cb nb kb mb db : Nat) (a b a' b' : Option Addr) (F F' q q' : Nat → Nat) (ha : Mt w a na ka F) (ha' : Mt w a' nb kb F') (hb : Jl w b .u64 ma (fun i => (q i : Int))) (hb' : Jl w b' .u64 mb (fun i => (q' i : Int))) (RA : Rt ra ca na) (RB : Rt rb cb nb) (hc : 1 ≤ ca) (hr : ca ≤ ra) (hc' : 1 ≤ cb) (hr' : cb ≤ rb) (hm : ma ≤ 17592186044416) (hm' : mb ≤ 17592186044416) (hg : ∀ i, i < ma → HangP F ra ca (q i)) (hg' : ∀ i, i < mb → HangP F' rb cb (q' i)) (hlim : 64 < ra + rb ∨ 16384 < ma + mb) :
  Calls Tryz.prog 11 #[cv ra ca a na ka b ma da, cv rb cb a' nb kb b' mb db] w fun e w' => e = .returned (.tuple #[cv 0 0 none 0 0 none 0 0, .int .i64 4]) ∧ Below w.heap.size w w' := by
 obtain ⟨wb, HW⟩ : ∃ wb, Hid (((w.alloc (.cells #[.int .i64 (ra : Int), .int .i64 (ca : Int), .slice a na ka, .slice b ma da] 27)).alloc (.cells #[.int .i64 (rb : Int), .int .i64 (cb : Int), .slice a' nb kb, .slice b' mb db] 27)).alloc (.cells #[.int .i64 0, .int .i64 0, .slice none 0 0, .slice none 0 0] 27) = wb) := ⟨_, rfl⟩
 have HB0 : Hid (Below w.heap.size w wb) := by rw [← HW.out]; exact qa0 (qa0 (qa1 _ _) (qa1 _ _)) (qa1 _ _)
 have HA : Hid (Vq wb w.heap.size 27 #[.int .i64 (ra : Int), .int .i64 (ca : Int), .slice a na ka, .slice b ma da]) := by rw [← HW.out]; exact ((Vq.new w _ _).later (qa1 _ _)).later (qa1 _ _)
 have HBv : Hid (Vq wb (w.heap.size + 1) 27 #[.int .i64 (rb : Int), .int .i64 (cb : Int), .slice a' nb kb, .slice b' mb db]) := by rw [← HW.out]; exact (Vq.new1 _ _ _ _).later (qa1 _ _)
 have HZ : Hid (Vq wb (w.heap.size + 1 + 1) 27 #[.int .i64 0, .int .i64 0, .slice none 0 0, .slice none 0 0]) := by rw [← HW.out]; exact Vq.new2 _ _ _ _ _
 have hsz : wb.heap.size = w.heap.size + 1 + 1 + 1 := by rw [← HW.out]; simp
 have HR0 : Hid (Below wb.heap.size wb wb) := Below.refl _ _
 have hra := RA.r64
 have hrb := RB.r64
 have GA : GenP ra ca na := ⟨RA.p, by omega, by omega⟩
 have GB : GenP rb cb nb := ⟨RB.p, by omega, by omega⟩
 have HMa : Hid (∀ w', Below wb.heap.size wb w' → Calls Tryz.prog 16 #[cv ra ca a na ka b ma da] w' fun e w'' => e = .returned (.bool true) ∧ Below w'.heap.size w' w'') := fun w' h => qdd w' ra ca na ka da ma a b F q ((ha.later HB0.out).later h) ((hb.later HB0.out).later h) (by omega) (fun i hi => qbb (hg i hi) hra) true ⟨fun _ => ⟨GA, by simpa using hg⟩, fun _ => rfl⟩
 have HMb : Hid (∀ w', Below wb.heap.size wb w' → Calls Tryz.prog 16 #[cv rb cb a' nb kb b' mb db] w' fun e w'' => e = .returned (.bool true) ∧ Below w'.heap.size w' w'') := fun w' h => qdd w' rb cb nb kb db mb a' b' F' q' ((ha'.later HB0.out).later h) ((hb'.later HB0.out).later h) (by omega) (fun i hi => qbb (hg' i hi) hrb) true ⟨fun _ => ⟨GB, by simpa using hg'⟩, fun _ => rfl⟩
 have M1 : Hid True := trivial
 by_cases hrr : 64 < ra + rb
 ·have HTm : Hid (∀ w' bq, Jl w' bq .i64 2 (tw16 ra rb) → Calls Tryz.prog 36 #[.slice bq 2 2] w' fun e w'' => e = .returned (.bool true) ∧ w' = w'') := fun w' bq h => by
   have := qd0 w' 2 2 bq (tw16 ra rb) (by omega) h (fun i hi => by rcases (by omega : i = 0 ∨ i = 1) with rfl | rfl <;> simp [tw16] <;> omega)
   rwa [show decide (64 < sm16 (tw16 ra rb) 2) = true by simp [sm16, tw16]; omega] at this
  clear ha ha' hb hb' RA RB hg hg' GA GB hlim
  go_enter Tryz.func11, Tryz.ntmps11
  go_upto_region 4 with (first
   | (go_at_call 16; clear M1; rw [HW.out]; refine (HMa.out _ HR0.out).mono ?_; rintro e w1 ⟨rfl, hb1⟩; have HB1 : Hid (Below wb.heap.size wb w1) := hb1; have a_10 := (HA.out.later HB1.out).cell 0 _ rfl; have a_11 := (HA.out.later HB1.out).cell 1 _ rfl; have a_12 := (HA.out.later HB1.out).cell 2 _ rfl; have a_13 := (HA.out.later HB1.out).cell 3 _ rfl; have b_10 := (HBv.out.later HB1.out).cell 0 _ rfl; have b_11 := (HBv.out.later HB1.out).cell 1 _ rfl; have b_12 := (HBv.out.later HB1.out).cell 2 _ rfl; have b_13 := (HBv.out.later HB1.out).cell 3 _ rfl; have z_10 := (HZ.out.later HB1.out).cell 0 _ rfl; have z_11 := (HZ.out.later HB1.out).cell 1 _ rfl; have z_12 := (HZ.out.later HB1.out).cell 2 _ rfl; have z_13 := (HZ.out.later HB1.out).cell 3 _ rfl; have f_10 := (HZ.out.later HB1.out).free 0; have f_11 := (HZ.out.later HB1.out).free 1; have f_12 := (HZ.out.later HB1.out).free 2; have f_13 := (HZ.out.later HB1.out).free 3;  clear hb1)
   | (go_at_call 16; refine (HMb.out _ HB1.out).mono ?_; rintro e w2 ⟨rfl, hb2⟩; have HB2 : Hid (Below wb.heap.size wb w2) := qa0 HB1.out hb2; clear a_10 a_11 a_12 a_13 b_10 b_11 b_12 b_13 z_10 z_11 z_12 z_13 f_10 f_11 f_12 f_13; have a_20 := (HA.out.later HB2.out).cell 0 _ rfl; have a_21 := (HA.out.later HB2.out).cell 1 _ rfl; have a_22 := (HA.out.later HB2.out).cell 2 _ rfl; have a_23 := (HA.out.later HB2.out).cell 3 _ rfl; have b_20 := (HBv.out.later HB2.out).cell 0 _ rfl; have b_21 := (HBv.out.later HB2.out).cell 1 _ rfl; have b_22 := (HBv.out.later HB2.out).cell 2 _ rfl; have b_23 := (HBv.out.later HB2.out).cell 3 _ rfl; have z_20 := (HZ.out.later HB2.out).cell 0 _ rfl; have z_21 := (HZ.out.later HB2.out).cell 1 _ rfl; have z_22 := (HZ.out.later HB2.out).cell 2 _ rfl; have z_23 := (HZ.out.later HB2.out).cell 3 _ rfl; have f_20 := (HZ.out.later HB2.out).free 0; have f_21 := (HZ.out.later HB2.out).free 1; have f_22 := (HZ.out.later HB2.out).free 2; have f_23 := (HZ.out.later HB2.out).free 3;  clear hb2)
   | (go_at_call 36; obtain ⟨w3, HW3⟩ : ∃ w3, Hid (w2.alloc (.cells #[.int .i64 (ra : Int), .int .i64 (rb : Int)] 3) = w3) := ⟨_, rfl⟩; rw [HW3.out]; have HB3 : Hid (Below wb.heap.size wb w3) := (by rw [← HW3.out]; exact qa0 HB2.out (qa1 _ _)); refine (HTm.out _ _ (by rw [← HW3.out]; exact qkl _ _ _ _)).mono ?_; rintro e w' ⟨rfl, rfl⟩; clear a_20 a_21 a_22 a_23 b_20 b_21 b_22 b_23 z_20 z_21 z_22 z_23 f_20 f_21 f_22 f_23; have a_30 := (HA.out.later HB3.out).cell 0 _ rfl; have a_31 := (HA.out.later HB3.out).cell 1 _ rfl; have a_32 := (HA.out.later HB3.out).cell 2 _ rfl; have a_33 := (HA.out.later HB3.out).cell 3 _ rfl; have b_30 := (HBv.out.later HB3.out).cell 0 _ rfl; have b_31 := (HBv.out.later HB3.out).cell 1 _ rfl; have b_32 := (HBv.out.later HB3.out).cell 2 _ rfl; have b_33 := (HBv.out.later HB3.out).cell 3 _ rfl; have z_30 := (HZ.out.later HB3.out).cell 0 _ rfl; have z_31 := (HZ.out.later HB3.out).cell 1 _ rfl; have z_32 := (HZ.out.later HB3.out).cell 2 _ rfl; have z_33 := (HZ.out.later HB3.out).cell 3 _ rfl; have f_30 := (HZ.out.later HB3.out).free 0; have f_31 := (HZ.out.later HB3.out).free 1; have f_32 := (HZ.out.later HB3.out).free 2; have f_33 := (HZ.out.later HB3.out).free 3;  clear HW3))
  obtain ⟨hp1, hp2⟩ := qba (HZ.out.later HB3.out) (.int .i64 0) (.int .i64 0) (.slice none 0 0) (.slice none 0 0)
  have HP1 := jhidv hp1
  have HP2 := jhidv hp2
  clear hp1 hp2
  go_wp2
  refine bodyPost_ret (qae Tryz.results11 _ _ (w.heap.size + 1 + 1) _ _ _ _ _ rfl rfl HP1.out) rfl ?_
  exact ⟨rfl, (qa0 HB0.out HB3.out).grown HP2.out (qa0 HB0.out HB3.out).size (fun g e => (by cases e; omega))⟩
 ·have HTm : Hid (∀ w' bq, Jl w' bq .i64 2 (tw16 ra rb) → Calls Tryz.prog 36 #[.slice bq 2 2] w' fun e w'' => e = .returned (.bool false) ∧ w' = w'') := fun w' bq h => by
   have := qd0 w' 2 2 bq (tw16 ra rb) (by omega) h (fun i hi => by rcases (by omega : i = 0 ∨ i = 1) with rfl | rfl <;> simp [tw16] <;> omega)
   rwa [show decide (64 < sm16 (tw16 ra rb) 2) = false by simp [sm16, tw16]; omega] at this
  have HTg : Hid (∀ w', Calls Tryz.prog 28 #[cv ra ca a na ka b ma da, .int .i64 1, cv rb cb a' nb kb b' mb db, .int .i64 1] w' fun e w'' => e = .returned (.bool true) ∧ Below w'.heap.size w' w'') := fun w' => tmg16 w' ra ca rb cb a b a' b' na ka ma da nb kb mb db 1 1 (by omega) (by omega) (by omega) (by omega) (by omega) (by omega) true ⟨fun _ => (by omega), fun _ => rfl⟩
  clear ha ha' hb hb' RA RB hg hg' GA GB hlim
  go_enter Tryz.func11, Tryz.ntmps11
  go_upto_region 4 with (first
   | (go_at_call 16; clear M1; rw [HW.out]; refine (HMa.out _ HR0.out).mono ?_; rintro e w1 ⟨rfl, hb1⟩; have HB1 : Hid (Below wb.heap.size wb w1) := hb1; have a_10 := (HA.out.later HB1.out).cell 0 _ rfl; have a_11 := (HA.out.later HB1.out).cell 1 _ rfl; have a_12 := (HA.out.later HB1.out).cell 2 _ rfl; have a_13 := (HA.out.later HB1.out).cell 3 _ rfl; have b_10 := (HBv.out.later HB1.out).cell 0 _ rfl; have b_11 := (HBv.out.later HB1.out).cell 1 _ rfl; have b_12 := (HBv.out.later HB1.out).cell 2 _ rfl; have b_13 := (HBv.out.later HB1.out).cell 3 _ rfl; have z_10 := (HZ.out.later HB1.out).cell 0 _ rfl; have z_11 := (HZ.out.later HB1.out).cell 1 _ rfl; have z_12 := (HZ.out.later HB1.out).cell 2 _ rfl; have z_13 := (HZ.out.later HB1.out).cell 3 _ rfl; have f_10 := (HZ.out.later HB1.out).free 0; have f_11 := (HZ.out.later HB1.out).free 1; have f_12 := (HZ.out.later HB1.out).free 2; have f_13 := (HZ.out.later HB1.out).free 3;  clear hb1)
   | (go_at_call 16; refine (HMb.out _ HB1.out).mono ?_; rintro e w2 ⟨rfl, hb2⟩; have HB2 : Hid (Below wb.heap.size wb w2) := qa0 HB1.out hb2; clear a_10 a_11 a_12 a_13 b_10 b_11 b_12 b_13 z_10 z_11 z_12 z_13 f_10 f_11 f_12 f_13; have a_20 := (HA.out.later HB2.out).cell 0 _ rfl; have a_21 := (HA.out.later HB2.out).cell 1 _ rfl; have a_22 := (HA.out.later HB2.out).cell 2 _ rfl; have a_23 := (HA.out.later HB2.out).cell 3 _ rfl; have b_20 := (HBv.out.later HB2.out).cell 0 _ rfl; have b_21 := (HBv.out.later HB2.out).cell 1 _ rfl; have b_22 := (HBv.out.later HB2.out).cell 2 _ rfl; have b_23 := (HBv.out.later HB2.out).cell 3 _ rfl; have z_20 := (HZ.out.later HB2.out).cell 0 _ rfl; have z_21 := (HZ.out.later HB2.out).cell 1 _ rfl; have z_22 := (HZ.out.later HB2.out).cell 2 _ rfl; have z_23 := (HZ.out.later HB2.out).cell 3 _ rfl; have f_20 := (HZ.out.later HB2.out).free 0; have f_21 := (HZ.out.later HB2.out).free 1; have f_22 := (HZ.out.later HB2.out).free 2; have f_23 := (HZ.out.later HB2.out).free 3;  clear hb2)
   | (go_at_call 36; obtain ⟨w3, HW3⟩ : ∃ w3, Hid (w2.alloc (.cells #[.int .i64 (ra : Int), .int .i64 (rb : Int)] 3) = w3) := ⟨_, rfl⟩; rw [HW3.out]; have HB3 : Hid (Below wb.heap.size wb w3) := (by rw [← HW3.out]; exact qa0 HB2.out (qa1 _ _)); refine (HTm.out _ _ (by rw [← HW3.out]; exact qkl _ _ _ _)).mono ?_; rintro e w' ⟨rfl, rfl⟩; clear a_20 a_21 a_22 a_23 b_20 b_21 b_22 b_23 z_20 z_21 z_22 z_23 f_20 f_21 f_22 f_23; have a_30 := (HA.out.later HB3.out).cell 0 _ rfl; have a_31 := (HA.out.later HB3.out).cell 1 _ rfl; have a_32 := (HA.out.later HB3.out).cell 2 _ rfl; have a_33 := (HA.out.later HB3.out).cell 3 _ rfl; have b_30 := (HBv.out.later HB3.out).cell 0 _ rfl; have b_31 := (HBv.out.later HB3.out).cell 1 _ rfl; have b_32 := (HBv.out.later HB3.out).cell 2 _ rfl; have b_33 := (HBv.out.later HB3.out).cell 3 _ rfl; have z_30 := (HZ.out.later HB3.out).cell 0 _ rfl; have z_31 := (HZ.out.later HB3.out).cell 1 _ rfl; have z_32 := (HZ.out.later HB3.out).cell 2 _ rfl; have z_33 := (HZ.out.later HB3.out).cell 3 _ rfl; have f_30 := (HZ.out.later HB3.out).free 0; have f_31 := (HZ.out.later HB3.out).free 1; have f_32 := (HZ.out.later HB3.out).free 2; have f_33 := (HZ.out.later HB3.out).free 3;  clear HW3)
   | (go_at_call 28; refine (HTg.out _).mono ?_; rintro e w4 ⟨rfl, hb4⟩; have HB4 : Hid (Below wb.heap.size wb w4) := qa0 HB3.out hb4; clear a_30 a_31 a_32 a_33 b_30 b_31 b_32 b_33 z_30 z_31 z_32 z_33 f_30 f_31 f_32 f_33; have a_40 := (HA.out.later HB4.out).cell 0 _ rfl; have a_41 := (HA.out.later HB4.out).cell 1 _ rfl; have a_42 := (HA.out.later HB4.out).cell 2 _ rfl; have a_43 := (HA.out.later HB4.out).cell 3 _ rfl; have b_40 := (HBv.out.later HB4.out).cell 0 _ rfl; have b_41 := (HBv.out.later HB4.out).cell 1 _ rfl; have b_42 := (HBv.out.later HB4.out).cell 2 _ rfl; have b_43 := (HBv.out.later HB4.out).cell 3 _ rfl; have z_40 := (HZ.out.later HB4.out).cell 0 _ rfl; have z_41 := (HZ.out.later HB4.out).cell 1 _ rfl; have z_42 := (HZ.out.later HB4.out).cell 2 _ rfl; have z_43 := (HZ.out.later HB4.out).cell 3 _ rfl; have f_40 := (HZ.out.later HB4.out).free 0; have f_41 := (HZ.out.later HB4.out).free 1; have f_42 := (HZ.out.later HB4.out).free 2; have f_43 := (HZ.out.later HB4.out).free 3;  clear hb4))
  obtain ⟨hp1, hp2⟩ := qba (HZ.out.later HB4.out) (.int .i64 0) (.int .i64 0) (.slice none 0 0) (.slice none 0 0)
  have HP1 := jhidv hp1
  have HP2 := jhidv hp2
  clear hp1 hp2
  go_wp2
  refine bodyPost_ret (qae Tryz.results11 _ _ (w.heap.size + 1 + 1) _ _ _ _ _ rfl rfl HP1.out) rfl ?_
  exact ⟨rfl, (qa0 HB0.out HB4.out).grown HP2.out (qa0 HB0.out HB4.out).size (fun g e => (by cases e; omega))⟩
theorem ql0 (w : World) (ra ca na ka ma da rb cb nb kb mb db : Nat) (a b a' b' : Option Addr) (F F' q q' : Nat → Nat) (ha : Mt w a na ka F) (ha' : Mt w a' nb kb F') (hb : Jl w b .u64 ma (fun i => (q i : Int))) (hb' : Jl w b' .u64 mb (fun i => (q' i : Int))) (RA : Rt ra ca na) (RB : Rt rb cb nb) (hc : 1 ≤ ca) (hr : ca ≤ ra) (hc' : 1 ≤ cb) (hr' : cb ≤ rb) (hm : ma ≤ 17592186044416) (hm' : mb ≤ 17592186044416) (hg : ∀ i, i < ma → HangP F ra ca (q i)) (hg' : ∀ i, i < mb → HangP F' rb cb (q' i)) (hlim : 64 < ra * rb ∨ 16384 < ma * rb + mb * ra) :
  Calls Tryz.prog 9 #[cv ra ca a na ka b ma da, cv rb cb a' nb kb b' mb db] w fun e w' => e = .returned (.tuple #[cv 0 0 none 0 0 none 0 0, .int .i64 4]) ∧ Below w.heap.size w w' := by
 obtain ⟨wb, HW⟩ : ∃ wb, Hid (((w.alloc (.cells #[.int .i64 (ra : Int), .int .i64 (ca : Int), .slice a na ka, .slice b ma da] 27)).alloc (.cells #[.int .i64 (rb : Int), .int .i64 (cb : Int), .slice a' nb kb, .slice b' mb db] 27)).alloc (.cells #[.int .i64 0, .int .i64 0, .slice none 0 0, .slice none 0 0] 27) = wb) := ⟨_, rfl⟩
 have HB0 : Hid (Below w.heap.size w wb) := by rw [← HW.out]; exact qa0 (qa0 (qa1 _ _) (qa1 _ _)) (qa1 _ _)
 have HA : Hid (Vq wb w.heap.size 27 #[.int .i64 (ra : Int), .int .i64 (ca : Int), .slice a na ka, .slice b ma da]) := by rw [← HW.out]; exact ((Vq.new w _ _).later (qa1 _ _)).later (qa1 _ _)
 have HBv : Hid (Vq wb (w.heap.size + 1) 27 #[.int .i64 (rb : Int), .int .i64 (cb : Int), .slice a' nb kb, .slice b' mb db]) := by rw [← HW.out]; exact (Vq.new1 _ _ _ _).later (qa1 _ _)
 have HZ : Hid (Vq wb (w.heap.size + 1 + 1) 27 #[.int .i64 0, .int .i64 0, .slice none 0 0, .slice none 0 0]) := by rw [← HW.out]; exact Vq.new2 _ _ _ _ _
 have hsz : wb.heap.size = w.heap.size + 1 + 1 + 1 := by rw [← HW.out]; simp
 have HR0 : Hid (Below wb.heap.size wb wb) := Below.refl _ _
 have hra := RA.r64
 have hrb := RB.r64
 have GA : GenP ra ca na := ⟨RA.p, by omega, by omega⟩
 have GB : GenP rb cb nb := ⟨RB.p, by omega, by omega⟩
 have HMa : Hid (∀ w', Below wb.heap.size wb w' → Calls Tryz.prog 16 #[cv ra ca a na ka b ma da] w' fun e w'' => e = .returned (.bool true) ∧ Below w'.heap.size w' w'') := fun w' h => qdd w' ra ca na ka da ma a b F q ((ha.later HB0.out).later h) ((hb.later HB0.out).later h) (by omega) (fun i hi => qbb (hg i hi) hra) true ⟨fun _ => ⟨GA, by simpa using hg⟩, fun _ => rfl⟩
 have HMb : Hid (∀ w', Below wb.heap.size wb w' → Calls Tryz.prog 16 #[cv rb cb a' nb kb b' mb db] w' fun e w'' => e = .returned (.bool true) ∧ Below w'.heap.size w' w'') := fun w' h => qdd w' rb cb nb kb db mb a' b' F' q' ((ha'.later HB0.out).later h) ((hb'.later HB0.out).later h) (by omega) (fun i hi => qbb (hg' i hi) hrb) true ⟨fun _ => ⟨GB, by simpa using hg'⟩, fun _ => rfl⟩
 have M1 : Hid True := trivial
 obtain ⟨P, HP⟩ : ∃ P : Nat, Hid (ra * rb = P) := ⟨_, rfl⟩
 have eP : (ra : Int) * (rb : Int) = (P : Int) := by rw [← HP.out]; simp
 have hP : P ≤ 4096 := by rw [← HP.out]; exact Nat.mul_le_mul hra hrb
 rw [HP.out] at hlim
 by_cases hrr : 64 < P
 ·have hrr2 : (64 : Int) < (P : Int) := by omega
  clear ha ha' hb hb' RA RB hg hg' GA GB hlim
  go_enter Tryz.func9, Tryz.ntmps9
  go_upto_region 4 with (first
   | (go_at_call 16; clear M1; rw [HW.out]; refine (HMa.out _ HR0.out).mono ?_; rintro e w1 ⟨rfl, hb1⟩; have HB1 : Hid (Below wb.heap.size wb w1) := hb1; have a_10 := (HA.out.later HB1.out).cell 0 _ rfl; have a_11 := (HA.out.later HB1.out).cell 1 _ rfl; have a_12 := (HA.out.later HB1.out).cell 2 _ rfl; have a_13 := (HA.out.later HB1.out).cell 3 _ rfl; have b_10 := (HBv.out.later HB1.out).cell 0 _ rfl; have b_11 := (HBv.out.later HB1.out).cell 1 _ rfl; have b_12 := (HBv.out.later HB1.out).cell 2 _ rfl; have b_13 := (HBv.out.later HB1.out).cell 3 _ rfl; have z_10 := (HZ.out.later HB1.out).cell 0 _ rfl; have z_11 := (HZ.out.later HB1.out).cell 1 _ rfl; have z_12 := (HZ.out.later HB1.out).cell 2 _ rfl; have z_13 := (HZ.out.later HB1.out).cell 3 _ rfl; have f_10 := (HZ.out.later HB1.out).free 0; have f_11 := (HZ.out.later HB1.out).free 1; have f_12 := (HZ.out.later HB1.out).free 2; have f_13 := (HZ.out.later HB1.out).free 3;  clear hb1)
   | (go_at_call 16; refine (HMb.out _ HB1.out).mono ?_; rintro e w2 ⟨rfl, hb2⟩; have HB2 : Hid (Below wb.heap.size wb w2) := qa0 HB1.out hb2; clear a_10 a_11 a_12 a_13 b_10 b_11 b_12 b_13 z_10 z_11 z_12 z_13 f_10 f_11 f_12 f_13; have a_20 := (HA.out.later HB2.out).cell 0 _ rfl; have a_21 := (HA.out.later HB2.out).cell 1 _ rfl; have a_22 := (HA.out.later HB2.out).cell 2 _ rfl; have a_23 := (HA.out.later HB2.out).cell 3 _ rfl; have b_20 := (HBv.out.later HB2.out).cell 0 _ rfl; have b_21 := (HBv.out.later HB2.out).cell 1 _ rfl; have b_22 := (HBv.out.later HB2.out).cell 2 _ rfl; have b_23 := (HBv.out.later HB2.out).cell 3 _ rfl; have z_20 := (HZ.out.later HB2.out).cell 0 _ rfl; have z_21 := (HZ.out.later HB2.out).cell 1 _ rfl; have z_22 := (HZ.out.later HB2.out).cell 2 _ rfl; have z_23 := (HZ.out.later HB2.out).cell 3 _ rfl; have f_20 := (HZ.out.later HB2.out).free 0; have f_21 := (HZ.out.later HB2.out).free 1; have f_22 := (HZ.out.later HB2.out).free 2; have f_23 := (HZ.out.later HB2.out).free 3;  clear hb2))
  obtain ⟨hp1, hp2⟩ := qba (HZ.out.later HB2.out) (.int .i64 0) (.int .i64 0) (.slice none 0 0) (.slice none 0 0)
  have HP1 := jhidv hp1
  have HP2 := jhidv hp2
  clear hp1 hp2
  go_wp2
  refine bodyPost_ret (qae Tryz.results9 _ _ (w.heap.size + 1 + 1) _ _ _ _ _ rfl rfl HP1.out) rfl ?_
  exact ⟨rfl, (qa0 HB0.out HB2.out).grown HP2.out (qa0 HB0.out HB2.out).size (fun g e => (by cases e; omega))⟩
 ·have hrr2 : ¬ (64 : Int) < (P : Int) := by omega
  have HTg : Hid (∀ w', Calls Tryz.prog 28 #[cv ra ca a na ka b ma da, .int .i64 (rb : Int), cv rb cb a' nb kb b' mb db, .int .i64 (ra : Int)] w' fun e w'' => e = .returned (.bool true) ∧ Below w'.heap.size w' w'') := fun w' => tmg16 w' ra ca rb cb a b a' b' na ka ma da nb kb mb db rb ra (by omega) (by omega) (by omega) (by omega) (by omega) (by omega) true ⟨fun _ => (by omega), fun _ => rfl⟩
  clear ha ha' hb hb' RA RB hg hg' GA GB hlim
  go_enter Tryz.func9, Tryz.ntmps9
  go_upto_region 4 with (first
   | (go_at_call 16; clear M1; rw [HW.out]; refine (HMa.out _ HR0.out).mono ?_; rintro e w1 ⟨rfl, hb1⟩; have HB1 : Hid (Below wb.heap.size wb w1) := hb1; have a_10 := (HA.out.later HB1.out).cell 0 _ rfl; have a_11 := (HA.out.later HB1.out).cell 1 _ rfl; have a_12 := (HA.out.later HB1.out).cell 2 _ rfl; have a_13 := (HA.out.later HB1.out).cell 3 _ rfl; have b_10 := (HBv.out.later HB1.out).cell 0 _ rfl; have b_11 := (HBv.out.later HB1.out).cell 1 _ rfl; have b_12 := (HBv.out.later HB1.out).cell 2 _ rfl; have b_13 := (HBv.out.later HB1.out).cell 3 _ rfl; have z_10 := (HZ.out.later HB1.out).cell 0 _ rfl; have z_11 := (HZ.out.later HB1.out).cell 1 _ rfl; have z_12 := (HZ.out.later HB1.out).cell 2 _ rfl; have z_13 := (HZ.out.later HB1.out).cell 3 _ rfl; have f_10 := (HZ.out.later HB1.out).free 0; have f_11 := (HZ.out.later HB1.out).free 1; have f_12 := (HZ.out.later HB1.out).free 2; have f_13 := (HZ.out.later HB1.out).free 3;  clear hb1)
   | (go_at_call 16; refine (HMb.out _ HB1.out).mono ?_; rintro e w2 ⟨rfl, hb2⟩; have HB2 : Hid (Below wb.heap.size wb w2) := qa0 HB1.out hb2; clear a_10 a_11 a_12 a_13 b_10 b_11 b_12 b_13 z_10 z_11 z_12 z_13 f_10 f_11 f_12 f_13; have a_20 := (HA.out.later HB2.out).cell 0 _ rfl; have a_21 := (HA.out.later HB2.out).cell 1 _ rfl; have a_22 := (HA.out.later HB2.out).cell 2 _ rfl; have a_23 := (HA.out.later HB2.out).cell 3 _ rfl; have b_20 := (HBv.out.later HB2.out).cell 0 _ rfl; have b_21 := (HBv.out.later HB2.out).cell 1 _ rfl; have b_22 := (HBv.out.later HB2.out).cell 2 _ rfl; have b_23 := (HBv.out.later HB2.out).cell 3 _ rfl; have z_20 := (HZ.out.later HB2.out).cell 0 _ rfl; have z_21 := (HZ.out.later HB2.out).cell 1 _ rfl; have z_22 := (HZ.out.later HB2.out).cell 2 _ rfl; have z_23 := (HZ.out.later HB2.out).cell 3 _ rfl; have f_20 := (HZ.out.later HB2.out).free 0; have f_21 := (HZ.out.later HB2.out).free 1; have f_22 := (HZ.out.later HB2.out).free 2; have f_23 := (HZ.out.later HB2.out).free 3;  clear hb2)
   | (go_at_call 28; refine (HTg.out _).mono ?_; rintro e w4 ⟨rfl, hb4⟩; have HB4 : Hid (Below wb.heap.size wb w4) := qa0 HB2.out hb4; clear a_20 a_21 a_22 a_23 b_20 b_21 b_22 b_23 z_20 z_21 z_22 z_23 f_20 f_21 f_22 f_23; have a_40 := (HA.out.later HB4.out).cell 0 _ rfl; have a_41 := (HA.out.later HB4.out).cell 1 _ rfl; have a_42 := (HA.out.later HB4.out).cell 2 _ rfl; have a_43 := (HA.out.later HB4.out).cell 3 _ rfl; have b_40 := (HBv.out.later HB4.out).cell 0 _ rfl; have b_41 := (HBv.out.later HB4.out).cell 1 _ rfl; have b_42 := (HBv.out.later HB4.out).cell 2 _ rfl; have b_43 := (HBv.out.later HB4.out).cell 3 _ rfl; have z_40 := (HZ.out.later HB4.out).cell 0 _ rfl; have z_41 := (HZ.out.later HB4.out).cell 1 _ rfl; have z_42 := (HZ.out.later HB4.out).cell 2 _ rfl; have z_43 := (HZ.out.later HB4.out).cell 3 _ rfl; have f_40 := (HZ.out.later HB4.out).free 0; have f_41 := (HZ.out.later HB4.out).free 1; have f_42 := (HZ.out.later HB4.out).free 2; have f_43 := (HZ.out.later HB4.out).free 3;  clear hb4))
  obtain ⟨hp1, hp2⟩ := qba (HZ.out.later HB4.out) (.int .i64 0) (.int .i64 0) (.slice none 0 0) (.slice none 0 0)
  have HP1 := jhidv hp1
  have HP2 := jhidv hp2
  clear hp1 hp2
  go_wp2
  refine bodyPost_ret (qae Tryz.results9 _ _ (w.heap.size + 1 + 1) _ _ _ _ _ rfl rfl HP1.out) rfl ?_
  exact ⟨rfl, (qa0 HB0.out HB4.out).grown HP2.out (qa0 HB0.out HB4.out).size (fun g e => (by cases e; omega))⟩
end Go.Proofs.YtmgfeepnkahkmaaGreat
