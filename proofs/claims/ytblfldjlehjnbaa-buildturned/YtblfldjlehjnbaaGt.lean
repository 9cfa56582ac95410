/-
  Contract of the generators' reference: Vandermonde.
  Contracts of the generators' reference: Vandermonde's error, top.
  Contracts of the generators' reference: Systematic, Check.
  Contract of the generators' reference: Check.
  Contract of the generators' reference: Cauchy.
  Contracts of the generators' reference: Cauchy's errors.
  Contracts of the generators' reference: fits, Reed.
  Contract of the generators' reference: Cross.
-/
import Derived.Test.YtblfldjlehjnbaaGe
import Derived.Test.YtblfldjlehjnbaaGa
import Derived.Test.YtblfldjlehjnbaaGf
import Derived.Test.YtblfldjlehjnbaaGi
import Derived.Test.YtblfldjlehjnbaaGs
namespace Go.Proofs.Ytblfldjlehjnbaa
open Go.RowKit
/-- A matrix under way in its variable. -/
structure ZInv (w w1 wr : World) (g r c m : Nat) (f : Nat → Nat) : Prop where
  row : RowAt wr g 5 m f
  vm : Vr wr w1.heap.size (.int .i64 (r : Int)) (.int .i64 (c : Int)) (.slice (some ⟨g, 0, none⟩) m m)
  vr : Vr wr w.heap.size (.int .i64 0) (.int .i64 0) (.slice none 0 0)
  below : Below w.heap.size w wr
  lo : w.heap.size < g
  hi : g < w1.heap.size
theorem ZInv.later {w w1 wr w' : World} {g r c m : Nat} {f : Nat → Nat} (I : ZInv w w1 wr g r c m f) (hb : Below wr.heap.size wr w') : ZInv w w1 w' g r c m f := ⟨I.row.later hb, I.vm.later hb, I.vr.later hb, two_below I.below hb, I.lo, I.hi⟩
theorem ZInv.congr {w w1 wr : World} {g r c m : Nat} {f f' : Nat → Nat} (I : ZInv w w1 wr g r c m f) (e : ∀ i, i < m → f i = f' i) : ZInv w w1 wr g r c m f' := ⟨I.row.congr e, I.vm, I.vr, I.below, I.lo, I.hi⟩
theorem ZInv.set {w w1 wr : World} {g r c m p x : Nat} {f : Nat → Nat} (I : ZInv w w1 wr g r c m f) : ZInv w w1 (wr.setCell ⟨g, p, none⟩ (.int .u8 (x : Int))) g r c m (fun i => if i = p then x else f i) :=
  ⟨I.row.set p x, I.vm.kept (grown_setCell _ _ _ _) (by have := I.hi; omega), I.vr.kept (grown_setCell _ _ _ _) (by have := I.lo; omega), below_row I.below (grown_setCell _ _ _ _) (by have := I.lo; omega), I.lo, I.hi⟩
end Go.Proofs.Ytblfldjlehjnbaa

namespace Go.Proofs.Ytblfldjlehjnbaa
open Go.RowKit
theorem undrew6 {w w' : World} (h : Below w.drew.heap.size w.drew w') : Below w.heap.size w w' := two_below (Below.refl _ _).drew h
theorem own_mt6 {w : World} {base n d : Nat} {s : Option Addr} {f : Nat → Nat} (h : w.ownsRow base 5 1 (.slice s n d) n (row n f).toList) (hf : ∀ i, i < n → f i < 256) : Mt w s n d f := by
  refine ⟨own_sl2 h hf, ?_, own_none h⟩
  rcases h.2 with ⟨e, h0⟩ | ⟨g, cap, cur, e, _, _, hc, _⟩
  · cases e; omega
  · cases e; omega
def Iv6 (lo hi : Nat) (s : Option Addr) : Prop := ∀ x, s = some x → lo ≤ x.block ∧ x.block < hi
theorem own_iv6 {w : World} {B n d : Nat} {s : Option Addr} {ls : List Value} (h : w.ownsRow B 5 1 (.slice s n d) n ls) : Iv6 B w.heap.size s := by
  intro x hx
  rcases h.2 with ⟨e, _⟩ | ⟨g, cap, cur, e, hb, hg, _⟩
  · cases e; cases hx
  · cases e; cases hx; exact ⟨hb, lt_of_block hg⟩
set_option maxRecDepth 20000 in
set_option maxHeartbeats 1000000 in
theorem rtop_ok (w : World) (r c n k t N : Nat) (a : Option Addr) (F : Nat → Nat) (ha : Mt w a n k F) (R : Rt r c n) (ht : t ≤ r) (HN : Hid (t * c = N)) :
    Calls Try.prog 59 #[mv r c a n k, .int .i64 (t : Int)] w fun e w' => ∃ s d, e = .returned (mv t c s N d) ∧ Mt w' s N d F ∧ Below w.heap.size w w' := by
  obtain ⟨wb, HW, HX⟩ : ∃ wb, Hid (wb = (w.alloc (.cells #[.int .i64 (r : Int), .int .i64 (c : Int), .slice a n k] 24)).alloc (.cells #[.int .i64 0, .int .i64 0, .slice none 0 0] 24)) ∧ Hid (Box2 w wb r c n k a) := ⟨_, rfl, box2 w r c n k a⟩
  have hNn : N ≤ n := by rw [← HN.out, ← R.len]; exact Nat.mul_le_mul_right c ht
  have hn := R.le
  have hk := ha.room
  have HA : Hid (Mt w a n k F) := ha
  have e1 : ((t : Int) * (c : Int)) = (N : Int) := by rw [← HN.out]; simp
  have w1' : IntKind.i64.wrap ((t : Int) * (c : Int)) = (N : Int) := by rw [e1, IntKind.wrap_i64]; omega
  have v0 := HX.out.va.c0
  have v1 := HX.out.va.c1
  have v2 := HX.out.va.c2
  have HCp : Hid (∀ w', Below w.heap.size w w' → Calls Try.prog 50 #[.slice a N k] w' fun e w'' => ∃ v, e = .returned v ∧ w''.ownsRow w'.heap.size 5 1 v N (row N F).toList ∧ Below w'.heap.size w' w'') := fun w' h' => rcopy_any w' a N k F ⟨fun i hi => (HA.out.later h').sl.1 i (by omega), fun i hi => (HA.out.later h').sl.2 i (by omega)⟩ (by omega) (fun e => ⟨by have := (HA.out.nil e).1; omega, (HA.out.nil e).2⟩)
  have hwb : w.heap.size + 1 < wb.heap.size := HX.out.vr.lt
  have hNk : N ≤ k := by omega
  clear ha R e1
  cases a with
  | none =>
    obtain ⟨hn0, hk0⟩ := HA.out.nil rfl
    subst hn0
    subst hk0
    obtain rfl : N = 0 := by omega
    have HD : Hid (wb.drew.cell? ⟨w.heap.size, 1, none⟩ = some (.int .i64 (c : Int)) ∧ wb.drew.cell? ⟨w.heap.size, 2, none⟩ = some (.slice none 0 0)) := by rw [HW.out]; rw [HW.out] at v1 v2; exact ⟨v1, v2⟩
    go_enter Try.func59, Try.ntmps59
    go_wp2
    refine wp_region_held (S := fun w' => w'.cell? ⟨w.heap.size, 1, none⟩ = some (.int .i64 (c : Int)) ∧ w'.cell? ⟨w.heap.size, 2, none⟩ = some (.slice none 0 0)) (by kernel_rfl) ?_
    change wpAnyH _ _ _ _ _ _ _ _ (World.drew _)
    rw [← HW.out]
    refine wpAnyH_take (i := 0) (v := ?va0) rfl (by kernel_rfl) (by kernel_rfl) (by kernel_rfl) (fun _ _ _ h => h) (Or.inl ⟨by rfl, ?ya0⟩) HD.out ?za0
    case ya0 => (intro w hSw; (try dsimp only at hSw); go_simp; try with_reducible rfl)
    try simp only [List.getElem_toArray, List.getElem_cons_zero, Act.put, List.setIfInBounds_toArray, List.set_cons_zero, List.set_cons_succ]
    refine wpAnyH_take (i := 1) (v := ?va1) rfl (by kernel_rfl) (by kernel_rfl) (by kernel_rfl) (fun _ _ _ h => h) (Or.inl ⟨by rfl, ?ya1⟩) HD.out ?za1
    case ya1 => (intro w hSw; (try dsimp only at hSw); go_simp; try with_reducible rfl)
    try simp only [List.getElem_toArray, List.getElem_cons_succ, List.getElem_cons_zero, Act.put, List.setIfInBounds_toArray, List.set_cons_zero, List.set_cons_succ]
    refine wpAnyH_take (i := 2) (v := ?va2) rfl (by kernel_rfl) (by kernel_rfl) (by kernel_rfl) (fun _ _ _ h => h) (Or.inl ⟨by rfl, ?ya2⟩) HD.out ?za2
    case ya2 => (intro w hSw; (try dsimp only at hSw); go_simp; try with_reducible rfl)
    try simp only [List.getElem_toArray, List.getElem_cons_succ, List.getElem_cons_zero, Act.put, List.setIfInBounds_toArray, List.set_cons_zero, List.set_cons_succ]
    refine wpAnyH_take (i := 3) (v := ?va3) rfl (by kernel_rfl) (by kernel_rfl) (by kernel_rfl) (fun _ _ _ h => h) (Or.inl ⟨by rfl, ?ya3⟩) HD.out ?za3
    case ya3 => (intro w hSw; (try dsimp only at hSw); go_simp; try with_reducible rfl)
    try simp only [List.getElem_toArray, List.getElem_cons_succ, List.getElem_cons_zero, Act.put, List.setIfInBounds_toArray, List.set_cons_zero, List.set_cons_succ]
    refine wpAnyH_take (i := 4) (v := ?va4) rfl (by kernel_rfl) (by kernel_rfl) (by kernel_rfl) (fun _ _ _ h => h) (Or.inl ⟨by rfl, ?ya4⟩) HD.out ?za4
    case ya4 => (intro w hSw; (try dsimp only at hSw); go_simp; try with_reducible rfl)
    try simp only [List.getElem_toArray, List.getElem_cons_succ, List.getElem_cons_zero, Act.put, List.setIfInBounds_toArray, List.set_cons_zero, List.set_cons_succ]
    refine wpAnyH_take (i := 5) (v := ?va5) rfl (by kernel_rfl) (by kernel_rfl) (by kernel_rfl) (fun _ _ _ h => h) (Or.inl ⟨by rfl, ?ya5⟩) HD.out ?za5
    case ya5 => (intro w hSw; (try dsimp only at hSw); go_simp; try with_reducible rfl)
    try simp only [List.getElem_toArray, List.getElem_cons_succ, List.getElem_cons_zero, Act.put, List.setIfInBounds_toArray, List.set_cons_zero, List.set_cons_succ]
    refine wpAnyH_take (i := 6) (v := ?va6) rfl (by kernel_rfl) (by kernel_rfl) (by kernel_rfl) (fun _ _ _ h => h) (Or.inl ⟨by rfl, ?ya6⟩) HD.out ?za6
    case ya6 => (intro w hSw; (try dsimp only at hSw); go_simp; try with_reducible rfl)
    try simp only [List.getElem_toArray, List.getElem_cons_succ, List.getElem_cons_zero, Act.put, List.setIfInBounds_toArray, List.set_cons_zero, List.set_cons_succ]
    refine wpAnyH_take (i := 7) (v := ?va7) rfl (by kernel_rfl) (by kernel_rfl) (by kernel_rfl) (fun _ _ _ h => h) (Or.inl ⟨by rfl, ?ya7⟩) HD.out ?za7
    case ya7 => (intro w hSw; (try dsimp only at hSw); go_simp; try with_reducible rfl)
    try simp only [List.getElem_toArray, List.getElem_cons_succ, List.getElem_cons_zero, Act.put, List.setIfInBounds_toArray, List.set_cons_zero, List.set_cons_succ]
    refine wpAnyH_take (i := 8) (v := ?va8) rfl (by kernel_rfl) (by kernel_rfl) (by kernel_rfl) (fun _ _ _ h => h) (Or.inl ⟨by rfl, ?ya8⟩) HD.out ?za8
    case ya8 => (intro w hSw; (try dsimp only at hSw); go_simp; try with_reducible rfl)
    try simp only [List.getElem_toArray, List.getElem_cons_succ, List.getElem_cons_zero, Act.put, List.setIfInBounds_toArray, List.set_cons_zero, List.set_cons_succ]
    refine wpAnyH_take (i := 9) (v := ?va9) rfl (by kernel_rfl) (by kernel_rfl) (by kernel_rfl) (fun _ _ _ h => h) (Or.inl ⟨by rfl, ?ya9⟩) HD.out ?za9
    case ya9 => (intro w hSw; (try dsimp only at hSw); go_simp; try with_reducible rfl)
    try simp only [List.getElem_toArray, List.getElem_cons_succ, List.getElem_cons_zero, Act.put, List.setIfInBounds_toArray, List.set_cons_zero, List.set_cons_succ]
    refine wpAnyH_ready (rs := [10]) (by kernel_rfl) (by simp) ?_
    refine AllReadyH.cons rfl (fun K hK => ?_) AllReadyH.nil
    go_simp
    refine (HCp.out _ (HX.out.below.drew)).mono ?_
    rintro e w1 ⟨v, rfl, ho, hb0⟩
    obtain ⟨s, d, ed, _, _⟩ := own_sl' ho
    subst ed
    have hb1 := undrew6 hb0
    have HO : Hid (Mt w1 s 0 d F) := own_mt6 ho (fun i hi => HA.out.sl.1 i (by omega))
    have HB1 : Hid (Below w.heap.size w w1) := two_below HX.out.below hb1
    have HV1 : Hid (Vr w1 (w.heap.size + 1) (.int .i64 0) (.int .i64 0) (.slice none 0 0)) := HX.out.vr.later hb1
    have HVa1 := HX.out.va.later hb1
    have HD1 : Hid (w1.cell? ⟨w.heap.size, 1, none⟩ = some (.int .i64 (c : Int)) ∧ w1.cell? ⟨w.heap.size, 2, none⟩ = some (.slice none 0 0)) := ⟨HVa1.c1, HVa1.c2⟩
    have HOff : Hid (Iv6 wb.heap.size w1.heap.size s) := own_iv6 ho
    clear ho hb0 hb1
    refine hK.out _ _ HD1.out (fun _ => ?_)
    clear hK K
    try simp only [List.getElem_toArray, List.getElem_cons_succ, List.getElem_cons_zero, Act.put, List.setIfInBounds_toArray, List.set_cons_zero, List.set_cons_succ]
    refine wpAnyH_take (i := 11) (v := ?va11) rfl (by kernel_rfl) (by kernel_rfl) (by kernel_rfl) (fun _ _ _ h => h) (Or.inl ⟨by rfl, ?ya11⟩) HD1.out ?za11
    case ya11 => (intro w hSw; (try dsimp only at hSw); go_simp; try with_reducible rfl)
    try simp only [List.getElem_toArray, List.getElem_cons_succ, List.getElem_cons_zero, Act.put, List.setIfInBounds_toArray, List.set_cons_zero, List.set_cons_succ]
    refine wpAnyH_ready (rs := [12]) (by kernel_rfl) (by simp) ?_
    refine AllReadyH.cons rfl (fun K hK => ?_) AllReadyH.nil
    refine step_store_var rfl _ _ rfl (w.heap.size + 1) _ _ _ (.int .i64 (t : Int)) (.int .i64 (c : Int)) (.slice s 0 d) rfl rfl HV1.out rfl rfl rfl ?_
    intro w2 HV2 HG2
    have HD2 : Hid (w2.cell? ⟨w.heap.size, 1, none⟩ = some (.int .i64 (c : Int)) ∧ w2.cell? ⟨w.heap.size, 2, none⟩ = some (.slice none 0 0)) := ⟨(HVa1.kept HG2.out (by omega)).c1, (HVa1.kept HG2.out (by omega)).c2⟩
    refine hK.out _ _ HD2.out (fun _ => ?_)
    clear hK K
    try simp only [List.getElem_toArray, List.getElem_cons_succ, List.getElem_cons_zero, Act.put]
    refine wpAnyH_done (by kernel_rfl) ?_ _
    go_wp2
    have d0 := HV2.out.c0
    have d1 := HV2.out.c1
    have d2 := HV2.out.c2
    refine bodyPost_ret (v := mv t c s 0 d) (by simp [results, Try.results59, go_sem, d0, d1, d2, mv]) rfl ?_
    exact ⟨s, d, rfl, HO.out.kept HG2.out (fun _ x hx e => by have := HOff.out x hx; omega), below_row HB1.out HG2.out (by omega)⟩
  | some x =>
    have HD : Hid (wb.drew.cell? ⟨w.heap.size, 1, none⟩ = some (.int .i64 (c : Int)) ∧ wb.drew.cell? ⟨w.heap.size, 2, none⟩ = some (.slice (some x) n k)) := by rw [HW.out]; rw [HW.out] at v1 v2; exact ⟨v1, v2⟩
    go_enter Try.func59, Try.ntmps59
    go_wp2
    refine wp_region_held (S := fun w' => w'.cell? ⟨w.heap.size, 1, none⟩ = some (.int .i64 (c : Int)) ∧ w'.cell? ⟨w.heap.size, 2, none⟩ = some (.slice (some x) n k)) (by kernel_rfl) ?_
    change wpAnyH _ _ _ _ _ _ _ _ (World.drew _)
    rw [← HW.out]
    refine wpAnyH_take (i := 0) (v := ?vb0) rfl (by kernel_rfl) (by kernel_rfl) (by kernel_rfl) (fun _ _ _ h => h) (Or.inl ⟨by rfl, ?yb0⟩) HD.out ?zb0
    case yb0 => (intro w hSw; (try dsimp only at hSw); go_simp; try with_reducible rfl)
    try simp only [List.getElem_toArray, List.getElem_cons_zero, Act.put, List.setIfInBounds_toArray, List.set_cons_zero, List.set_cons_succ]
    refine wpAnyH_take (i := 1) (v := ?vb1) rfl (by kernel_rfl) (by kernel_rfl) (by kernel_rfl) (fun _ _ _ h => h) (Or.inl ⟨by rfl, ?yb1⟩) HD.out ?zb1
    case yb1 => (intro w hSw; (try dsimp only at hSw); go_simp; try with_reducible rfl)
    try simp only [List.getElem_toArray, List.getElem_cons_succ, List.getElem_cons_zero, Act.put, List.setIfInBounds_toArray, List.set_cons_zero, List.set_cons_succ]
    refine wpAnyH_take (i := 2) (v := ?vb2) rfl (by kernel_rfl) (by kernel_rfl) (by kernel_rfl) (fun _ _ _ h => h) (Or.inl ⟨by rfl, ?yb2⟩) HD.out ?zb2
    case yb2 => (intro w hSw; (try dsimp only at hSw); go_simp; try with_reducible rfl)
    try simp only [List.getElem_toArray, List.getElem_cons_succ, List.getElem_cons_zero, Act.put, List.setIfInBounds_toArray, List.set_cons_zero, List.set_cons_succ]
    refine wpAnyH_take (i := 3) (v := ?vb3) rfl (by kernel_rfl) (by kernel_rfl) (by kernel_rfl) (fun _ _ _ h => h) (Or.inl ⟨by rfl, ?yb3⟩) HD.out ?zb3
    case yb3 => (intro w hSw; (try dsimp only at hSw); go_simp; try with_reducible rfl)
    try simp only [List.getElem_toArray, List.getElem_cons_succ, List.getElem_cons_zero, Act.put, List.setIfInBounds_toArray, List.set_cons_zero, List.set_cons_succ]
    refine wpAnyH_take (i := 4) (v := ?vb4) rfl (by kernel_rfl) (by kernel_rfl) (by kernel_rfl) (fun _ _ _ h => h) (Or.inl ⟨by rfl, ?yb4⟩) HD.out ?zb4
    case yb4 => (intro w hSw; (try dsimp only at hSw); go_simp; try with_reducible rfl)
    try simp only [List.getElem_toArray, List.getElem_cons_succ, List.getElem_cons_zero, Act.put, List.setIfInBounds_toArray, List.set_cons_zero, List.set_cons_succ]
    refine wpAnyH_take (i := 5) (v := ?vb5) rfl (by kernel_rfl) (by kernel_rfl) (by kernel_rfl) (fun _ _ _ h => h) (Or.inl ⟨by rfl, ?yb5⟩) HD.out ?zb5
    case yb5 => (intro w hSw; (try dsimp only at hSw); go_simp; try with_reducible rfl)
    try simp only [List.getElem_toArray, List.getElem_cons_succ, List.getElem_cons_zero, Act.put, List.setIfInBounds_toArray, List.set_cons_zero, List.set_cons_succ]
    refine wpAnyH_take (i := 6) (v := ?vb6) rfl (by kernel_rfl) (by kernel_rfl) (by kernel_rfl) (fun _ _ _ h => h) (Or.inl ⟨by rfl, ?yb6⟩) HD.out ?zb6
    case yb6 => (intro w hSw; (try dsimp only at hSw); go_simp; try with_reducible rfl)
    try simp only [List.getElem_toArray, List.getElem_cons_succ, List.getElem_cons_zero, Act.put, List.setIfInBounds_toArray, List.set_cons_zero, List.set_cons_succ]
    refine wpAnyH_take (i := 7) (v := ?vb7) rfl (by kernel_rfl) (by kernel_rfl) (by kernel_rfl) (fun _ _ _ h => h) (Or.inl ⟨by rfl, ?yb7⟩) HD.out ?zb7
    case yb7 => (intro w hSw; (try dsimp only at hSw); go_simp; try with_reducible rfl)
    try simp only [List.getElem_toArray, List.getElem_cons_succ, List.getElem_cons_zero, Act.put, List.setIfInBounds_toArray, List.set_cons_zero, List.set_cons_succ]
    refine wpAnyH_take (i := 8) (v := ?vb8) rfl (by kernel_rfl) (by kernel_rfl) (by kernel_rfl) (fun _ _ _ h => h) (Or.inl ⟨by rfl, ?yb8⟩) HD.out ?zb8
    case yb8 => (intro w hSw; (try dsimp only at hSw); go_simp; try with_reducible rfl)
    try simp only [List.getElem_toArray, List.getElem_cons_succ, List.getElem_cons_zero, Act.put, List.setIfInBounds_toArray, List.set_cons_zero, List.set_cons_succ]
    refine wpAnyH_take (i := 9) (v := ?vb9) rfl (by kernel_rfl) (by kernel_rfl) (by kernel_rfl) (fun _ _ _ h => h) (Or.inl ⟨by rfl, ?yb9⟩) HD.out ?zb9
    case yb9 => (intro w hSw; (try dsimp only at hSw); go_simp; try with_reducible rfl)
    try simp only [List.getElem_toArray, List.getElem_cons_succ, List.getElem_cons_zero, Act.put, List.setIfInBounds_toArray, List.set_cons_zero, List.set_cons_succ]
    refine wpAnyH_ready (rs := [10]) (by kernel_rfl) (by simp) ?_
    refine AllReadyH.cons rfl (fun K hK => ?_) AllReadyH.nil
    go_simp
    refine (HCp.out _ (HX.out.below.drew)).mono ?_
    rintro e w1 ⟨v, rfl, ho, hb0⟩
    obtain ⟨s, d, ed, _, _⟩ := own_sl' ho
    subst ed
    have hb1 := undrew6 hb0
    have HO : Hid (Mt w1 s N d F) := own_mt6 ho (fun i hi => HA.out.sl.1 i (by omega))
    have HB1 : Hid (Below w.heap.size w w1) := two_below HX.out.below hb1
    have HV1 : Hid (Vr w1 (w.heap.size + 1) (.int .i64 0) (.int .i64 0) (.slice none 0 0)) := HX.out.vr.later hb1
    have HVa1 := HX.out.va.later hb1
    have HD1 : Hid (w1.cell? ⟨w.heap.size, 1, none⟩ = some (.int .i64 (c : Int)) ∧ w1.cell? ⟨w.heap.size, 2, none⟩ = some (.slice (some x) n k)) := ⟨HVa1.c1, HVa1.c2⟩
    have HOff : Hid (Iv6 wb.heap.size w1.heap.size s) := own_iv6 ho
    clear ho hb0 hb1
    refine hK.out _ _ HD1.out (fun _ => ?_)
    clear hK K
    try simp only [List.getElem_toArray, List.getElem_cons_succ, List.getElem_cons_zero, Act.put, List.setIfInBounds_toArray, List.set_cons_zero, List.set_cons_succ]
    refine wpAnyH_take (i := 11) (v := ?vb11) rfl (by kernel_rfl) (by kernel_rfl) (by kernel_rfl) (fun _ _ _ h => h) (Or.inl ⟨by rfl, ?yb11⟩) HD1.out ?zb11
    case yb11 => (intro w hSw; (try dsimp only at hSw); go_simp; try with_reducible rfl)
    try simp only [List.getElem_toArray, List.getElem_cons_succ, List.getElem_cons_zero, Act.put, List.setIfInBounds_toArray, List.set_cons_zero, List.set_cons_succ]
    refine wpAnyH_ready (rs := [12]) (by kernel_rfl) (by simp) ?_
    refine AllReadyH.cons rfl (fun K hK => ?_) AllReadyH.nil
    refine step_store_var rfl _ _ rfl (w.heap.size + 1) _ _ _ (.int .i64 (t : Int)) (.int .i64 (c : Int)) (.slice s N d) rfl rfl HV1.out rfl rfl rfl ?_
    intro w2 HV2 HG2
    have HD2 : Hid (w2.cell? ⟨w.heap.size, 1, none⟩ = some (.int .i64 (c : Int)) ∧ w2.cell? ⟨w.heap.size, 2, none⟩ = some (.slice (some x) n k)) := ⟨(HVa1.kept HG2.out (by omega)).c1, (HVa1.kept HG2.out (by omega)).c2⟩
    refine hK.out _ _ HD2.out (fun _ => ?_)
    clear hK K
    try simp only [List.getElem_toArray, List.getElem_cons_succ, List.getElem_cons_zero, Act.put]
    refine wpAnyH_done (by kernel_rfl) ?_ _
    go_wp2
    have d0 := HV2.out.c0
    have d1 := HV2.out.c1
    have d2 := HV2.out.c2
    refine bodyPost_ret (v := mv t c s N d) (by simp [results, Try.results59, go_sem, d0, d1, d2, mv]) rfl ?_
    exact ⟨s, d, rfl, HO.out.kept HG2.out (fun _ x hx e => by have := HOff.out x hx; omega), below_row HB1.out HG2.out (by omega)⟩
end Go.Proofs.Ytblfldjlehjnbaa

namespace Go.Proofs.Ytblfldjlehjnbaa
open Go.RowKit
set_option maxRecDepth 20000 in
set_option maxHeartbeats 2000000 in
theorem rsys_ok (w : World) (r c n k : Nat) (a : Option Addr) (F : Nat → Nat) (ha : Mt w a n k F) (R : Rt r c n) (hcr : c ≤ r) (hk : Rk (m2 F c c) c c) :
    Calls Try.prog 19 #[mv r c a n k] w fun e w' => ∃ g X, e = .returned (.tuple #[mv r c (some ⟨g, 0, none⟩) n n, .int .i64 0]) ∧ RowAt w' g 5 n (prk F X c c c) ∧ (∀ q, q < c * c → X q < 256) ∧ (∀ i j, i < c → j < c → pr (m2 F c c) (m2 X c c) c i j = dl i j) ∧ w.heap.size ≤ g ∧ Below w.heap.size w w' := by
  obtain ⟨wb, HW, HX⟩ : ∃ wb, Hid (wb = (w.alloc (.cells #[.int .i64 (r : Int), .int .i64 (c : Int), .slice a n k] 24)).alloc (.cells #[.int .i64 0, .int .i64 0, .slice none 0 0] 24)) ∧ Hid (Box2 w wb r c n k a) := ⟨_, rfl, box2 w r c n k a⟩
  obtain ⟨N, HN⟩ : ∃ N, Hid (c * c = N) := ⟨_, rfl⟩
  have HA : Hid (Mt w a n k F) := ha
  have HR : Hid (Rt r c n) := R
  have HC : Hid (Rt c c N) := ⟨R.c64, R.c64, HN.out⟩
  have HK : Hid (Rk (m2 F c c) c c) := hk
  have hcl : decide (r < c) = false := by simpa using hcr
  have v0 := HX.out.va.c0
  have v1 := HX.out.va.c1
  have v2 := HX.out.va.c2
  have hwb : w.heap.size + 1 < wb.heap.size := HX.out.vr.lt
  clear ha R hk
  go_enter Try.func19, Try.ntmps19
  go_wp2_with (first
    | (go_at_call 30; rw [← HW.out]; refine (right_yes _ _ _ _ _ _ HR.out.p).mono ?_; rintro e w1 ⟨rfl, hb1⟩; have HB1 : Hid (Below wb.heap.size wb w1) := hb1; have a0 := (HX.out.va.later hb1).c0; have a1 := (HX.out.va.later hb1).c1; have a2 := (HX.out.va.later hb1).c2; clear hb1)
    | (go_at_call 59; refine (rtop_ok _ r c n k c N a F (HA.out.later (two_below HX.out.below HB1.out)) HR.out hcr HN).mono ?_; rintro e w2 ⟨s2, d2, rfl, hm2, hb2⟩; have HM2 : Hid (Mt w2 s2 N d2 F) := hm2; have HB2 : Hid (Below wb.heap.size wb w2) := two_below HB1.out hb2; clear hm2 hb2)
    | (go_at_call 58; refine (rinvm_ok _ c N d2 s2 F HM2.out HC.out HK.out).mono ?_; rintro e w3 ⟨g3, X, rfl, hr3, hg3, hl3, hp3, hb3⟩; have HR3 : Hid (RowAt w3 g3 5 N X) := hr3; have HL3 : Hid (∀ q, q < N → X q < 256) := hl3; have HP3 : Hid (∀ i j, i < c → j < c → pr (m2 F c c) (m2 X c c) c i j = dl i j) := hp3; have HB3 : Hid (Below wb.heap.size wb (w3.alloc (.cells #[.int .i64 (c : Int), .int .i64 (c : Int), .slice (some ⟨g3, 0, none⟩) N N] 24))) := two_below (two_below HB2.out hb3) (alloc_low _ _); have b0 := (HX.out.va.later HB3.out).c0; have b1 := (HX.out.va.later HB3.out).c1; have b2 := (HX.out.va.later HB3.out).c2; clear hr3 hg3 hl3 hp3 hb3)
    | (go_at_call 60; refine (rmmul_ok _ r c c n N n k N a _ F X (HA.out.later (two_below HX.out.below HB3.out)).sl (((HR3.out.later (alloc_low _ _))).sl HL3.out) HR.out HC.out HR.out).mono ?_; rintro e w4 ⟨g4, rfl, hr4, hg4, hb4⟩; have HR4 : Hid (RowAt w4 g4 5 n (prk F X c c c)) := hr4; have hg5 : wb.heap.size ≤ g4 := Nat.le_trans HB3.out.size hg4; have HB4 : Hid (Below wb.heap.size wb w4) := two_below HB3.out hb4; have HV4 : Hid (Vr w4 (w.heap.size + 1) (.int .i64 0) (.int .i64 0) (.slice none 0 0)) := HX.out.vr.later HB4.out; clear hr4 hg4 hb4)
    | (refine wpList_store_var rfl _ _ rfl (w.heap.size + 1) _ _ _ (.int .i64 (r : Int)) (.int .i64 (c : Int)) (.slice (some ⟨g4, 0, none⟩) n n) rfl rfl HV4.out rfl rfl rfl ?_; intro w5 HV5 HG5))
  have d0 := HV5.out.c0
  have d1 := HV5.out.c1
  have d2 := HV5.out.c2
  refine bodyPost_ret (v := .tuple #[mv r c (some ⟨g4, 0, none⟩) n n, .int .i64 0]) (by simp [results, Try.results19, go_sem, d0, d1, d2, mv]) rfl ?_
  refine ⟨g4, X, rfl, HR4.out.kept HG5.out (by omega), by rw [HN.out]; exact HL3.out, HP3.out, by omega, below_row (two_below HX.out.below HB4.out) HG5.out (by omega)⟩
set_option maxRecDepth 20000 in
set_option maxHeartbeats 2000000 in
theorem rsys_sing (w : World) (r c n k q : Nat) (a : Option Addr) (F : Nat → Nat) (ha : Mt w a n k F) (R : Rt r c n) (hcr : c ≤ r) (hk : Rk (m2 F c c) c q) (hq : q < c) :
    Calls Try.prog 19 #[mv r c a n k] w fun e w' => e = .returned (.tuple #[mv 0 0 none 0 0, .int .i64 6]) ∧ Below w.heap.size w w' := by
  obtain ⟨wb, HW, HX⟩ : ∃ wb, Hid (wb = (w.alloc (.cells #[.int .i64 (r : Int), .int .i64 (c : Int), .slice a n k] 24)).alloc (.cells #[.int .i64 0, .int .i64 0, .slice none 0 0] 24)) ∧ Hid (Box2 w wb r c n k a) := ⟨_, rfl, box2 w r c n k a⟩
  obtain ⟨N, HN⟩ : ∃ N, Hid (c * c = N) := ⟨_, rfl⟩
  have HA : Hid (Mt w a n k F) := ha
  have HR : Hid (Rt r c n) := R
  have HC : Hid (Rt c c N) := ⟨R.c64, R.c64, HN.out⟩
  have HK : Hid (Rk (m2 F c c) c q) := hk
  have hcl : decide (r < c) = false := by simpa using hcr
  have v0 := HX.out.va.c0
  have v1 := HX.out.va.c1
  have v2 := HX.out.va.c2
  have hwb : w.heap.size + 1 < wb.heap.size := HX.out.vr.lt
  clear ha R hk
  go_enter Try.func19, Try.ntmps19
  go_wp2_with (first
    | (go_at_call 30; rw [← HW.out]; refine (right_yes _ _ _ _ _ _ HR.out.p).mono ?_; rintro e w1 ⟨rfl, hb1⟩; have HB1 : Hid (Below wb.heap.size wb w1) := hb1; have a0 := (HX.out.va.later hb1).c0; have a1 := (HX.out.va.later hb1).c1; have a2 := (HX.out.va.later hb1).c2; clear hb1)
    | (go_at_call 59; refine (rtop_ok _ r c n k c N a F (HA.out.later (two_below HX.out.below HB1.out)) HR.out hcr HN).mono ?_; rintro e w2 ⟨s2, d2, rfl, hm2, hb2⟩; have HM2 : Hid (Mt w2 s2 N d2 F) := hm2; have HB2 : Hid (Below wb.heap.size wb w2) := two_below HB1.out hb2; clear hm2 hb2)
    | (go_at_call 58; refine (rinvm_sing _ c N d2 q s2 F HM2.out HC.out HK.out hq).mono ?_; rintro e w3 ⟨rfl, hb3⟩; have HB3 : Hid (Below wb.heap.size wb (w3.alloc (.cells #[.int .i64 0, .int .i64 0, .slice none 0 0] 24))) := two_below (two_below HB2.out hb3) (alloc_low _ _); have HVz : Hid (Vr (w3.alloc (.cells #[.int .i64 0, .int .i64 0, .slice none 0 0] 24)) (w.heap.size + 1) (.int .i64 0) (.int .i64 0) (.slice none 0 0)) := HX.out.vr.later HB3.out; clear hb3)
    | (refine wpList_store_var rfl _ _ rfl (w.heap.size + 1) _ _ _ (.int .i64 0) (.int .i64 0) (.slice none 0 0) rfl rfl HVz.out rfl rfl rfl ?_; intro w5 HV5 HG5))
  have d0 := HV5.out.c0
  have d1 := HV5.out.c1
  have d2 := HV5.out.c2
  refine bodyPost_ret (v := .tuple #[mv 0 0 none 0 0, .int .i64 6]) (by simp [results, Try.results19, go_sem, d0, d1, d2, mv]) rfl ?_
  exact ⟨rfl, below_row (two_below HX.out.below HB3.out) HG5.out (by omega)⟩
set_option maxRecDepth 20000 in
set_option maxHeartbeats 2000000 in
theorem rsys_bad (w : World) (r c : Int) (n k : Nat) (a : Option Addr) (h : ¬ (RightP r c n ∧ c ≤ r)) :
    Calls Try.prog 19 #[mv r c a n k] w fun e w' => e = .returned (.tuple #[mv 0 0 none 0 0, .int .i64 3]) ∧ Below w.heap.size w w' := by
  obtain ⟨wb, HW, HX⟩ : ∃ wb, Hid (wb = (w.alloc (.cells #[.int .i64 r, .int .i64 c, .slice a n k] 24)).alloc (.cells #[.int .i64 0, .int .i64 0, .slice none 0 0] 24)) ∧ Hid (Box2 w wb r c n k a) := ⟨_, rfl, box2 w r c n k a⟩
  have v0 := HX.out.va.c0
  have v1 := HX.out.va.c1
  have v2 := HX.out.va.c2
  have hwb : w.heap.size + 1 < wb.heap.size := HX.out.vr.lt
  by_cases h1 : RightP r c n
  · have HR1 : Hid (RightP r c n) := h1
    have g1 : decide (r < c) = true := by simp; exact Int.not_le.mp (fun x => h ⟨h1, x⟩)
    clear h h1
    go_enter Try.func19, Try.ntmps19
    go_wp2_with (first
      | (go_at_call 30; rw [← HW.out]; refine (right_yes _ _ _ _ _ _ HR1.out).mono ?_; rintro e w1 ⟨rfl, hb1⟩; have HB1 : Hid (Below wb.heap.size wb w1) := hb1; have a0 := (HX.out.va.later hb1).c0; have a1 := (HX.out.va.later hb1).c1; have a2 := (HX.out.va.later hb1).c2; have HVz : Hid (Vr w1 (w.heap.size + 1) (.int .i64 0) (.int .i64 0) (.slice none 0 0)) := HX.out.vr.later HB1.out; clear hb1)
      | (refine wpList_store_var rfl _ _ rfl (w.heap.size + 1) _ _ _ (.int .i64 0) (.int .i64 0) (.slice none 0 0) rfl rfl HVz.out rfl rfl rfl ?_; intro w5 HV5 HG5))
    have d0 := HV5.out.c0
    have d1 := HV5.out.c1
    have d2 := HV5.out.c2
    refine bodyPost_ret (v := .tuple #[mv 0 0 none 0 0, .int .i64 3]) (by simp [results, Try.results19, go_sem, d0, d1, d2, mv]) rfl ?_
    exact ⟨rfl, below_row (two_below HX.out.below HB1.out) HG5.out (by omega)⟩
  · have HR1 : Hid (¬ RightP r c n) := h1
    clear h h1
    go_enter Try.func19, Try.ntmps19
    go_wp2_with (first
      | (go_at_call 30; rw [← HW.out]; refine (right_no _ _ _ _ _ _ HR1.out).mono ?_; rintro e w1 ⟨rfl, hb1⟩; have HB1 : Hid (Below wb.heap.size wb w1) := hb1; have a0 := (HX.out.va.later hb1).c0; have a1 := (HX.out.va.later hb1).c1; have a2 := (HX.out.va.later hb1).c2; have HVz : Hid (Vr w1 (w.heap.size + 1) (.int .i64 0) (.int .i64 0) (.slice none 0 0)) := HX.out.vr.later HB1.out; clear hb1)
      | (refine wpList_store_var rfl _ _ rfl (w.heap.size + 1) _ _ _ (.int .i64 0) (.int .i64 0) (.slice none 0 0) rfl rfl HVz.out rfl rfl rfl ?_; intro w5 HV5 HG5))
    have d0 := HV5.out.c0
    have d1 := HV5.out.c1
    have d2 := HV5.out.c2
    refine bodyPost_ret (v := .tuple #[mv 0 0 none 0 0, .int .i64 3]) (by simp [results, Try.results19, go_sem, d0, d1, d2, mv]) rfl ?_
    exact ⟨rfl, below_row (two_below HX.out.below HB1.out) HG5.out (by omega)⟩
set_option maxRecDepth 20000 in
set_option maxHeartbeats 2000000 in
theorem rchk_bad (w : World) (r c : Int) (n k : Nat) (a : Option Addr) (h : ¬ (RightP r c n ∧ c ≤ r)) :
    Calls Try.prog 21 #[mv r c a n k] w fun e w' => e = .returned (.tuple #[mv 0 0 none 0 0, .int .i64 3]) ∧ Below w.heap.size w w' := by
  obtain ⟨wb, HW, HX⟩ : ∃ wb, Hid (wb = (w.alloc (.cells #[.int .i64 r, .int .i64 c, .slice a n k] 24)).alloc (.cells #[.int .i64 0, .int .i64 0, .slice none 0 0] 24)) ∧ Hid (Box2 w wb r c n k a) := ⟨_, rfl, box2 w r c n k a⟩
  have v0 := HX.out.va.c0
  have v1 := HX.out.va.c1
  have v2 := HX.out.va.c2
  have hwb : w.heap.size + 1 < wb.heap.size := HX.out.vr.lt
  by_cases h1 : RightP r c n
  · have HR1 : Hid (RightP r c n) := h1
    have g1 : decide (r < c) = true := by simp; exact Int.not_le.mp (fun x => h ⟨h1, x⟩)
    clear h h1
    go_enter Try.func21, Try.ntmps21
    go_wp2_with (first
      | (go_at_call 30; rw [← HW.out]; refine (right_yes _ _ _ _ _ _ HR1.out).mono ?_; rintro e w1 ⟨rfl, hb1⟩; have HB1 : Hid (Below wb.heap.size wb w1) := hb1; have a0 := (HX.out.va.later hb1).c0; have a1 := (HX.out.va.later hb1).c1; have a2 := (HX.out.va.later hb1).c2; have HVz : Hid (Vr w1 (w.heap.size + 1) (.int .i64 0) (.int .i64 0) (.slice none 0 0)) := HX.out.vr.later HB1.out; clear hb1)
      | (refine wpList_store_var rfl _ _ rfl (w.heap.size + 1) _ _ _ (.int .i64 0) (.int .i64 0) (.slice none 0 0) rfl rfl HVz.out rfl rfl rfl ?_; intro w5 HV5 HG5))
    have d0 := HV5.out.c0
    have d1 := HV5.out.c1
    have d2 := HV5.out.c2
    refine bodyPost_ret (v := .tuple #[mv 0 0 none 0 0, .int .i64 3]) (by simp [results, Try.results21, go_sem, d0, d1, d2, mv]) rfl ?_
    exact ⟨rfl, below_row (two_below HX.out.below HB1.out) HG5.out (by omega)⟩
  · have HR1 : Hid (¬ RightP r c n) := h1
    clear h h1
    go_enter Try.func21, Try.ntmps21
    go_wp2_with (first
      | (go_at_call 30; rw [← HW.out]; refine (right_no _ _ _ _ _ _ HR1.out).mono ?_; rintro e w1 ⟨rfl, hb1⟩; have HB1 : Hid (Below wb.heap.size wb w1) := hb1; have a0 := (HX.out.va.later hb1).c0; have a1 := (HX.out.va.later hb1).c1; have a2 := (HX.out.va.later hb1).c2; have HVz : Hid (Vr w1 (w.heap.size + 1) (.int .i64 0) (.int .i64 0) (.slice none 0 0)) := HX.out.vr.later HB1.out; clear hb1)
      | (refine wpList_store_var rfl _ _ rfl (w.heap.size + 1) _ _ _ (.int .i64 0) (.int .i64 0) (.slice none 0 0) rfl rfl HVz.out rfl rfl rfl ?_; intro w5 HV5 HG5))
    have d0 := HV5.out.c0
    have d1 := HV5.out.c1
    have d2 := HV5.out.c2
    refine bodyPost_ret (v := .tuple #[mv 0 0 none 0 0, .int .i64 3]) (by simp [results, Try.results21, go_sem, d0, d1, d2, mv]) rfl ?_
    exact ⟨rfl, below_row (two_below HX.out.below HB1.out) HG5.out (by omega)⟩
set_option maxRecDepth 20000 in
set_option maxHeartbeats 2000000 in
theorem rchk_sing (w : World) (r c n k q : Nat) (a : Option Addr) (F : Nat → Nat) (ha : Mt w a n k F) (R : Rt r c n) (hcr : c ≤ r) (hk : Rk (m2 F r c) r q) (hq : q < c) :
    Calls Try.prog 21 #[mv r c a n k] w fun e w' => e = .returned (.tuple #[mv 0 0 none 0 0, .int .i64 6]) ∧ Below w.heap.size w w' := by
  obtain ⟨wb, HW, HX⟩ : ∃ wb, Hid (wb = (w.alloc (.cells #[.int .i64 (r : Int), .int .i64 (c : Int), .slice a n k] 24)).alloc (.cells #[.int .i64 0, .int .i64 0, .slice none 0 0] 24)) ∧ Hid (Box2 w wb r c n k a) := ⟨_, rfl, box2 w r c n k a⟩
  have HK : Hid (Rk (m2 F r c) r q) := hk
  have hqc : decide (q < c) = true := by simpa using hq
  have HA : Hid (Mt w a n k F) := ha
  have HR : Hid (Rt r c n) := R
  have hcl : decide (r < c) = false := by simpa using hcr
  have v0 := HX.out.va.c0
  have v1 := HX.out.va.c1
  have v2 := HX.out.va.c2
  have hwb : w.heap.size + 1 < wb.heap.size := HX.out.vr.lt
  clear ha R hk
  go_enter Try.func21, Try.ntmps21
  go_wp2_with (first
    | (go_at_call 30; rw [← HW.out]; refine (right_yes _ _ _ _ _ _ HR.out.p).mono ?_; rintro e w1 ⟨rfl, hb1⟩; have HB1 : Hid (Below wb.heap.size wb w1) := hb1; have a0 := (HX.out.va.later hb1).c0; have a1 := (HX.out.va.later hb1).c1; have a2 := (HX.out.va.later hb1).c2; clear hb1)
    | (go_at_call 27; refine (rrank_ok _ r c n k a F (HA.out.later (two_below HX.out.below HB1.out)).sl HA.out.nil HR.out).mono ?_; rintro e w2 ⟨t2, rfl, hk2, hb2⟩; have et : t2 = q := (hk2.unique HK.out (SpEq.refl (m2_el HA.out.sl.1 HR.out) r)); subst et; have HB2 : Hid (Below wb.heap.size wb w2) := two_below HB1.out hb2; have b0 := (HX.out.va.later HB2.out).c0; have b1 := (HX.out.va.later HB2.out).c1; have b2 := (HX.out.va.later HB2.out).c2; have HVz : Hid (Vr w2 (w.heap.size + 1) (.int .i64 0) (.int .i64 0) (.slice none 0 0)) := HX.out.vr.later HB2.out; clear hb2 hk2)
    | (refine wpList_store_var rfl _ _ rfl (w.heap.size + 1) _ _ _ (.int .i64 0) (.int .i64 0) (.slice none 0 0) rfl rfl HVz.out rfl rfl rfl ?_; intro w5 HV5 HG5))
  have d0 := HV5.out.c0
  have d1 := HV5.out.c1
  have d2 := HV5.out.c2
  refine bodyPost_ret (v := .tuple #[mv 0 0 none 0 0, .int .i64 6]) (by simp [results, Try.results21, go_sem, d0, d1, d2, mv]) rfl ?_
  exact ⟨rfl, below_row (two_below HX.out.below HB2.out) HG5.out (by omega)⟩
end Go.Proofs.Ytblfldjlehjnbaa

namespace Go.Proofs.Ytblfldjlehjnbaa
open Go.RowKit
theorem rt_turn6 {r c n : Nat} (h : Rt r c n) : Rt c r n := ⟨h.c64, h.r64, by rw [Nat.mul_comm]; exact h.len⟩
set_option maxRecDepth 20000 in
set_option maxHeartbeats 2000000 in
theorem rchk_ok (w : World) (r c n k : Nat) (a : Option Addr) (F : Nat → Nat) (ha : Mt w a n k F) (R : Rt r c n) (hcr : c ≤ r) (hk : Rk (m2 F r c) r c) :
    Calls Try.prog 21 #[mv r c a n k] w fun e w' => ∃ s d kr top p G H, e = .returned (.tuple #[mv (kr : Nat) r s (kr * r) d, .int .i64 0]) ∧ Mt w' s (kr * r) d H ∧ (∀ q, q < n → G q < 256) ∧ Rdf (m2 G c r) c top p ∧ SpEq (m2 G c r) c (m2 (trf F r c) c r) c ∧ (∀ i, i < top → p i < r) ∧ kr = cnt (fre p top) r ∧ (∀ u l, u < kr → l < r → H (u * r + l) = kv (m2 G c r) p top (nth (fre p top) r u) l) ∧ Below w.heap.size w w' := by
  obtain ⟨wb, HW, HX⟩ : ∃ wb, Hid (wb = (w.alloc (.cells #[.int .i64 (r : Int), .int .i64 (c : Int), .slice a n k] 24)).alloc (.cells #[.int .i64 0, .int .i64 0, .slice none 0 0] 24)) ∧ Hid (Box2 w wb r c n k a) := ⟨_, rfl, box2 w r c n k a⟩
  have HK : Hid (Rk (m2 F r c) r c) := hk
  have HA : Hid (Mt w a n k F) := ha
  have HR : Hid (Rt r c n) := R
  have hcl : decide (r < c) = false := by simpa using hcr
  have v0 := HX.out.va.c0
  have v1 := HX.out.va.c1
  have v2 := HX.out.va.c2
  have hwb : w.heap.size + 1 < wb.heap.size := HX.out.vr.lt
  clear ha R hk
  go_enter Try.func21, Try.ntmps21
  go_wp2_with (first
    | (go_at_call 30; rw [← HW.out]; refine (right_yes _ _ _ _ _ _ HR.out.p).mono ?_; rintro e w1 ⟨rfl, hb1⟩; have HB1 : Hid (Below wb.heap.size wb w1) := hb1; have a0 := (HX.out.va.later hb1).c0; have a1 := (HX.out.va.later hb1).c1; have a2 := (HX.out.va.later hb1).c2; clear hb1)
    | (go_at_call 27; refine (rrank_ok _ r c n k a F (HA.out.later (two_below HX.out.below HB1.out)).sl HA.out.nil HR.out).mono ?_; rintro e w2 ⟨t2, rfl, hk2, hb2⟩; have et : t2 = c := (hk2.unique HK.out (SpEq.refl (m2_el HA.out.sl.1 HR.out) r)); subst et; have HB2 : Hid (Below wb.heap.size wb w2) := two_below HB1.out hb2; have b0 := (HX.out.va.later HB2.out).c0; have b1 := (HX.out.va.later HB2.out).c1; have b2 := (HX.out.va.later HB2.out).c2; clear hb2 hk2)
    | (go_at_call 35; have _x := HB2; refine (rtrans_ok _ r t2 n k a F (HA.out.later (two_below HX.out.below HB2.out)).sl HR.out).mono ?_; rintro e w3 ⟨s3, d3, rfl, ho3, hb3⟩; have HM3 : Hid (Mt (w3.alloc (.cells #[.int .i64 (t2 : Int), .int .i64 (r : Int), .slice s3 n d3] 24)) s3 n d3 (trf F r t2)) := (own_mt4 ho3 (trf_all4 HA.out.sl.1 HR.out)).later (alloc_low _ _); have HB3 : Hid (Below wb.heap.size wb (w3.alloc (.cells #[.int .i64 (t2 : Int), .int .i64 (r : Int), .slice s3 n d3] 24))) := two_below (two_below HB2.out hb3) (alloc_low _ _); clear ho3 hb3)
    | (go_at_call 63; have _x := HB3; refine (rker_ok _ t2 r n d3 s3 _ HM3.out (rt_turn6 HR.out)).mono ?_; rintro e w4 ⟨s4, d4, kr, top, p, G, H, rfl, ho4, hG4, hR4, hS4, hp4, hk4, hH4, hl4, hb4⟩; obtain ⟨M, HMM⟩ : ∃ x, Hid (kr * r = x) := ⟨_, rfl⟩; rw [HMM.out] at ho4 hl4 ⊢; have HO4 : Hid (Ob w4 (wb.heap.size) (.slice s4 M d4) M H) := Ob.mono ho4 HB3.out.size; have HF4 : Hid ((∀ q, q < n → G q < 256) ∧ Rdf (m2 G t2 r) t2 top p ∧ SpEq (m2 G t2 r) t2 (m2 (trf F r t2) t2 r) t2 ∧ (∀ i, i < top → p i < r) ∧ kr = cnt (fre p top) r ∧ (∀ u l, u < kr → l < r → H (u * r + l) = kv (m2 G t2 r) p top (nth (fre p top) r u) l)) := ⟨hG4, hR4, hS4, hp4, hk4, hH4⟩; have HL4 : Hid (∀ q, q < M → H q < 256) := hl4; have HB4 : Hid (Below wb.heap.size wb w4) := two_below HB3.out hb4; have HV4 : Hid (Vr w4 (w.heap.size + 1) (.int .i64 0) (.int .i64 0) (.slice none 0 0)) := HX.out.vr.later HB4.out; clear ho4 hG4 hR4 hS4 hp4 hk4 hH4 hl4 hb4)
    | (refine wpList_store_var rfl _ _ rfl (w.heap.size + 1) _ _ _ (.int .i64 (kr : Int)) (.int .i64 (r : Int)) (.slice s4 M d4) rfl rfl HV4.out rfl rfl rfl ?_; intro w5 HV5 HG5))
  have d0 := HV5.out.c0
  have d1 := HV5.out.c1
  have d2 := HV5.out.c2
  refine bodyPost_ret (v := .tuple #[mv (kr : Nat) r s4 M d4, .int .i64 0]) (by simp [results, Try.results21, go_sem, d0, d1, d2, mv]) rfl ?_
  have HO5 : Ob w5 wb.heap.size (.slice s4 M d4) M H := HO4.out.kept HG5.out (.inr (ob_ne_vr HO4.out HV4.out))
  obtain ⟨f1, f2, f3, f4, f5, f6⟩ := HF4.out
  exact ⟨s4, d4, kr, top, p, G, H, by rw [HMM.out], by rw [HMM.out]; exact own_mt4 HO5 HL4.out, f1, f2, f3, f4, f5, f6, below_row (two_below HX.out.below HB4.out) HG5.out (by omega)⟩
end Go.Proofs.Ytblfldjlehjnbaa

namespace Go.Proofs.Ytblfldjlehjnbaa
open Go.RowKit
end Go.Proofs.Ytblfldjlehjnbaa

namespace Go.Proofs.Ytblfldjlehjnbaa
open Go.RowKit
end Go.Proofs.Ytblfldjlehjnbaa

namespace Go.Proofs.Ytblfldjlehjnbaa
open Go.RowKit
end Go.Proofs.Ytblfldjlehjnbaa

namespace Go.Proofs.Ytblfldjlehjnbaa
open Go.RowKit
end Go.Proofs.Ytblfldjlehjnbaa
