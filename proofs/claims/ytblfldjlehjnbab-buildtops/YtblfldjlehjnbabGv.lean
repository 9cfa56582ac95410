/-
  Contracts of the program's build: Systematic.
  Contracts of the program's build: Reed, Cross, Check.
  Contracts of the program's build: Check.
  What the laws about generators ask: two answers are alike; the program's answers and the document's, in pairs.
  The checks' own anchor: one generator that the document fixes.
  What BuildSquares needs: Cauchy's rank; the entries are inverses.
  The checks' own choice of rows.
  What BuildAny needs: any k rows of Reed and of Cross are independent, the first ones the identity.
  What BuildChecks needs: the checks send just those lists to nothing that the generator makes.
-/
import Derived.Test.YtblfldjlehjnbabGu
import Derived.Test.YtblfldjlehjnbabGn
import Derived.Test.YtblfldjlehjnbabGo
import Derived.Test.YtblfldjlehjnbabGb
import Derived.Lib.MinMax
import Derived.Test.YtblfldjlehjnbabGp
namespace Go.Proofs.Ytblfldjlehjnbab
open Go.RowKit
theorem Mt.congr {w : World} {a : Option Addr} {n k : Nat} {F G : Nat → Nat} (h : Mt w a n k F) (e : ∀ i, i < n → F i = G i) : Mt w a n k G := ⟨h.sl.congr e, h.room, h.nil⟩
theorem pk_top {F : Nat → Nat} {c q : Nat} : pkf F (fun i => 0 + i) c q = F q := by
  unfold pkf
  dsimp only
  rw [Nat.zero_add]
  congr 1
  rw [Nat.mul_comm]
  exact Nat.div_add_mod q c
theorem Rk.uniq {A : Nat → Nat → Nat} {r s t : Nat} (h : Rk A r s) (hA : El2 A) (h2 : Rk A r t) : s = t := h.unique h2 (SpEq.refl hA r)
theorem top_el {w : World} {r c n k : Nat} {a : Option Addr} {F : Nat → Nat} (ha : Mt w a n k F) (R : Rt r c n) (hcr : c ≤ r) : El2 (m2 F c c) :=
  m2_el (fun i hi => ha.sl.1 i (by have := Nat.mul_le_mul_right c hcr; have := R.len; omega)) ⟨R.c64, R.c64, rfl⟩
/-- What Systematic answers. -/
def SysP (w w' : World) (e : Ending) (r c n : Nat) (F : Nat → Nat) : Prop := ∃ g X, e = .returned (.tuple #[mv r c (some ⟨g, 0, none⟩) n n, .int .i64 0]) ∧ RowAt w' g 5 n (prk F X c c c) ∧ (∀ q, q < c * c → X q < 256) ∧ (∀ i j, i < c → j < c → pr (m2 F c c) (m2 X c c) c i j = dl i j) ∧ w.heap.size ≤ g ∧ Below w.heap.size w w'
set_option maxRecDepth 20000 in
set_option maxHeartbeats 4000000 in
theorem bsys_x (w : World) (r c n k : Nat) (a : Option Addr) (F : Nat → Nat) (ha : Mt w a n k F) (R : Rt r c n) (hcr : c ≤ r) :
    Calls Try.prog 5 #[mv r c a n k] w fun e w' => (SysP w w' e r c n F ∧ Rk (m2 F c c) c c) ∨ (e = .returned (.tuple #[mv 0 0 none 0 0, .int .i64 6]) ∧ Below w.heap.size w w' ∧ ∃ t, t < c ∧ Rk (m2 F c c) c t) := by
  obtain ⟨wb, HW, HX⟩ : ∃ wb, Hid (wb = (w.alloc (.cells #[.int .i64 (r : Int), .int .i64 (c : Int), .slice a n k] 24)).alloc (.cells #[.int .i64 0, .int .i64 0, .slice none 0 0] 24)) ∧ Hid (Box2 w wb r c n k a) := ⟨_, rfl, box2 w r c n k a⟩
  obtain ⟨N, HN⟩ : ∃ N, Hid (c * c = N) := ⟨_, rfl⟩
  have HA : Hid (Mt w a n k F) := ha
  have HR : Hid (Rt r c n) := R
  have HC : Hid (Rt c c N) := ⟨R.c64, R.c64, HN.out⟩
  have HCr : Hid (c ≤ r) := hcr
  have hcl : (c : Int) ≤ (r : Int) := by omega
  have HCl : Hid ((c : Int) ≤ (r : Int)) := hcl
  have hc2 : c ≤ 64 := R.c64
  have hc1 : c ≤ 1000 := by omega
  have HC0 : Hid (Hid (0 + c = c)) := hid_of (hid_of (Nat.zero_add c))
  have hNn : N ≤ n := by rw [← HN.out, ← R.len]; exact Nat.mul_le_mul_right c hcr
  have HPk : Hid (∀ i, i < N → pkf F (fun i => 0 + i) c i < 256) := fun i hi => by rw [pk_top]; exact ha.sl.1 i (by omega)
  have HPq : Hid (∀ i, i < N → pkf F (fun i => 0 + i) c i = F i) := fun i _ => pk_top
  have v0 := HX.out.va.c0
  have v1 := HX.out.va.c1
  have v2 := HX.out.va.c2
  have hwb : w.heap.size + 1 < wb.heap.size := HX.out.vr.lt
  clear ha R hcl
  go_enter Try.func5, Try.ntmps5
  go_wp2_with (go_at_call 23; rw [← HW.out]; refine (tall_yes _ _ _ _ _ _ HR.out.p HCl.out).mono ?_; rintro e w1 ⟨rfl, hb1⟩; have HB1 : Hid (Below wb.heap.size wb w1) := hb1; clear hb1)
  refine Code.wp_mono (Q := fun ex a' x4 => ex = .normal ∧ ∃ (b4 g4 : Nat) (s3 : Option Addr) (d3 : Nat), a' = { tmps := #[mv (r : Int) (c : Int) a n k, .pointer (some ⟨w.heap.size, 0, none⟩), .pointer (some ⟨w.heap.size + 1, 0, none⟩), .int .i64 0, .pointer (some ⟨b4, 0, none⟩), .int .i64 0, undef, undef, .agg #[.int .i64 (r : Int), .int .i64 (c : Int), .slice a n k], .bool true, .bool false, undef, .tuple #[mv (c : Int) (c : Int) (some ⟨g4, 0, none⟩) N N, .int .i64 0], .agg #[.int .i64 (r : Int), .int .i64 (c : Int), .slice a n k], .pointer (some ⟨w.heap.size, 1, none⟩), .int .i64 (c : Int), .slice s3 c d3, .tuple #[mv (c : Int) (c : Int) (some ⟨g4, 0, none⟩) N N, .int .i64 0], mv (c : Int) (c : Int) (some ⟨g4, 0, none⟩) N N, .int .i64 0, undef, undef, undef, undef, undef, undef, undef, undef, undef, undef, undef, undef, undef, undef], defers := [] } ∧ Vr x4 b4 (.int .i64 (c : Int)) (.int .i64 (c : Int)) (.slice (some ⟨g4, 0, none⟩) N N) ∧ Mt x4 (some ⟨g4, 0, none⟩) N N F ∧ Below wb.heap.size wb x4) ?tail ?reg
  case reg =>
    refine wp_region_held (S := fun w' => w'.cell? ⟨w.heap.size, 0, none⟩ = some (.int .i64 (r : Int)) ∧ w'.cell? ⟨w.heap.size, 1, none⟩ = some (.int .i64 (c : Int)) ∧ w'.cell? ⟨w.heap.size, 2, none⟩ = some (.slice a n k)) (by kernel_rfl) ?_
    change wpAnyH _ _ _ _ _ _ _ _ (World.drew _)
    obtain ⟨x0, HX0⟩ : ∃ x, Hid (x = w1.drew) := ⟨_, rfl⟩
    rw [← HX0.out]
    have HB_x0 : Hid (Below wb.heap.size wb x0) := by rw [HX0.out]; exact HB1.out.drew
    have HD_x0 : Hid (x0.cell? ⟨w.heap.size, 0, none⟩ = some (.int .i64 (r : Int)) ∧ x0.cell? ⟨w.heap.size, 1, none⟩ = some (.int .i64 (c : Int)) ∧ x0.cell? ⟨w.heap.size, 2, none⟩ = some (.slice a n k)) := ⟨(HX.out.va.later HB_x0.out).c0, (HX.out.va.later HB_x0.out).c1, (HX.out.va.later HB_x0.out).c2⟩
    refine wpAnyH_take (i := 0) (v := ?va0) rfl (by kernel_rfl) (by kernel_rfl) (by kernel_rfl) (fun _ _ _ h => by cases h.1) (Or.inl ⟨by rfl, ?ya0⟩) HD_x0.out ?za0
    case ya0 => (intro w hSw; (try dsimp only at hSw); go_simp; try with_reducible rfl)
    try simp only [List.getElem_toArray, List.getElem_cons_zero, Act.put, List.setIfInBounds_toArray, List.set_cons_zero, List.set_cons_succ]
    refine wpAnyH_take (i := 1) (v := ?va1) rfl (by kernel_rfl) (by kernel_rfl) (by kernel_rfl) (fun _ _ _ h => by cases h.1) (Or.inl ⟨by rfl, ?ya1⟩) HD_x0.out ?za1
    case ya1 => (intro w hSw; (try dsimp only at hSw); go_simp; try with_reducible rfl)
    try simp only [List.getElem_toArray, List.getElem_cons_succ, List.getElem_cons_zero, Act.put, List.setIfInBounds_toArray, List.set_cons_zero, List.set_cons_succ]
    refine wpAnyH_take (i := 2) (v := ?va2) rfl (by kernel_rfl) (by kernel_rfl) (by kernel_rfl) (fun _ _ _ h => by cases h.1) (Or.inl ⟨by rfl, ?ya2⟩) HD_x0.out ?za2
    case ya2 => (intro w hSw; (try dsimp only at hSw); go_simp; try with_reducible rfl)
    try simp only [List.getElem_toArray, List.getElem_cons_succ, List.getElem_cons_zero, Act.put, List.setIfInBounds_toArray, List.set_cons_zero, List.set_cons_succ]
    refine wpAnyH_ready (rs := [3, 8]) (by kernel_rfl) (by simp) ?_
    refine AllReadyH.cons rfl (fun K hK => ?_) (AllReadyH.cons rfl (fun K hK => ?_) AllReadyH.nil)
    · go_simp
      refine (nums_any _ 0 c c HC0.out hc1).mono ?_
      rintro e x1 ⟨s3, d3, rfl, ho3, hb3⟩
      have HO_x1 : Hid (Oi x1 x0.heap.size (.slice s3 c d3) c (fun i => 0 + i)) := ho3
      have HB_x1 : Hid (Below wb.heap.size wb x1) := two_below HB_x0.out hb3
      have HD_x1 : Hid (x1.cell? ⟨w.heap.size, 0, none⟩ = some (.int .i64 (r : Int)) ∧ x1.cell? ⟨w.heap.size, 1, none⟩ = some (.int .i64 (c : Int)) ∧ x1.cell? ⟨w.heap.size, 2, none⟩ = some (.slice a n k)) := ⟨(HX.out.va.later HB_x1.out).c0, (HX.out.va.later HB_x1.out).c1, (HX.out.va.later HB_x1.out).c2⟩
      clear ho3 hb3
      refine hK.out _ _ HD_x1.out (fun _ => ?_)
      clear hK K
      try simp only [List.getElem_toArray, List.getElem_cons_succ, List.getElem_cons_zero, Act.put, List.setIfInBounds_toArray, List.set_cons_zero, List.set_cons_succ]
      refine wpAnyH_ready (rs := [4, 8]) (by kernel_rfl) (by simp) ?_
      refine AllReadyH.cons rfl (fun K hK => ?_) (AllReadyH.cons rfl (fun K hK => ?_) AllReadyH.nil)
      · go_simp
        refine (mpick_ok _ r c n k c d3 N a s3 F (fun i => 0 + i) (HA.out.later (two_below HX.out.below HB_x1.out)) HR.out HO_x1.out.il (fun i hi => by omega) hc2 HN).mono ?_
        rintro e x2 ⟨g4, rfl, hr4, hg4, hb4⟩
        have HM_x2 : Hid (Mt x2 (some ⟨g4, 0, none⟩) N N F) := (hr4.mt (HPk.out)).congr (HPq.out)
        have HB_x2 : Hid (Below wb.heap.size wb x2) := two_below HB_x1.out hb4
        have HD_x2 : Hid (x2.cell? ⟨w.heap.size, 0, none⟩ = some (.int .i64 (r : Int)) ∧ x2.cell? ⟨w.heap.size, 1, none⟩ = some (.int .i64 (c : Int)) ∧ x2.cell? ⟨w.heap.size, 2, none⟩ = some (.slice a n k)) := ⟨(HX.out.va.later HB_x2.out).c0, (HX.out.va.later HB_x2.out).c1, (HX.out.va.later HB_x2.out).c2⟩
        have hlt4 : g4 < x2.heap.size := hr4.lt
        clear hr4 hg4 hb4
        refine hK.out _ _ HD_x2.out (fun _ => ?_)
        clear hK K
        try simp only [List.getElem_toArray, List.getElem_cons_succ, List.getElem_cons_zero, Act.put, List.setIfInBounds_toArray, List.set_cons_zero, List.set_cons_succ]
        refine wpAnyH_take (i := 5) (v := ?ve5) rfl (by kernel_rfl) (by kernel_rfl) (by kernel_rfl) (fun _ _ _ h => by cases h.1) (Or.inl ⟨by rfl, ?ye5⟩) HD_x2.out ?ze5
        case ye5 => (intro w hSw; (try dsimp only at hSw); go_simp; try with_reducible rfl)
        try simp only [List.getElem_toArray, List.getElem_cons_succ, List.getElem_cons_zero, Act.put, List.setIfInBounds_toArray, List.set_cons_zero, List.set_cons_succ]
        refine wpAnyH_take (i := 6) (v := ?ve6) rfl (by kernel_rfl) (by kernel_rfl) (by kernel_rfl) (fun _ _ _ h => by cases h.1) (Or.inl ⟨by rfl, ?ye6⟩) HD_x2.out ?ze6
        case ye6 => (intro w hSw; (try dsimp only at hSw); go_simp; try with_reducible rfl)
        try simp only [List.getElem_toArray, List.getElem_cons_succ, List.getElem_cons_zero, Act.put, List.setIfInBounds_toArray, List.set_cons_zero, List.set_cons_succ]
        refine wpAnyH_take (i := 7) (v := ?ve7) rfl (by kernel_rfl) (by kernel_rfl) (by kernel_rfl) (fun _ _ _ h => by cases h.1) (Or.inl ⟨by rfl, ?ye7⟩) HD_x2.out ?ze7
        case ye7 => (intro w hSw; (try dsimp only at hSw); go_simp; try with_reducible rfl)
        try simp only [List.getElem_toArray, List.getElem_cons_succ, List.getElem_cons_zero, Act.put, List.setIfInBounds_toArray, List.set_cons_zero, List.set_cons_succ]
        refine wpAnyH_ready (rs := [8]) (by kernel_rfl) (by simp) ?_
        refine AllReadyH.cons rfl (fun K hK => ?_) AllReadyH.nil
        go_simp
        obtain ⟨x3, HWx3⟩ : ∃ x, Hid (x = x2.alloc (.cells #[.int .i64 0, .int .i64 0, .slice none 0 0] 24)) := ⟨_, rfl⟩
        rw [← HWx3.out]
        have hbx3 : Below x2.heap.size x2 x3 := by rw [HWx3.out]; exact alloc_low _ _
        have HT_x3 : Hid (Vr x3 x2.heap.size (.int .i64 0) (.int .i64 0) (.slice none 0 0)) := by rw [HWx3.out]; exact Vr.new x2 _ _ _
        have HB_x3 : Hid (Below wb.heap.size wb x3) := two_below HB_x2.out hbx3
        have HD_x3 : Hid (x3.cell? ⟨w.heap.size, 0, none⟩ = some (.int .i64 (r : Int)) ∧ x3.cell? ⟨w.heap.size, 1, none⟩ = some (.int .i64 (c : Int)) ∧ x3.cell? ⟨w.heap.size, 2, none⟩ = some (.slice a n k)) := ⟨(HX.out.va.later HB_x3.out).c0, (HX.out.va.later HB_x3.out).c1, (HX.out.va.later HB_x3.out).c2⟩
        have HM_x3 : Hid (Mt x3 (some ⟨g4, 0, none⟩) N N F) := HM_x2.out.later hbx3
        have hne4 : g4 ≠ x2.heap.size := Nat.ne_of_lt hlt4
        clear hbx3
        refine hK.out _ _ HD_x3.out (fun _ => ?_)
        clear hK K
        try simp only [List.getElem_toArray, List.getElem_cons_succ, List.getElem_cons_zero, Act.put, List.setIfInBounds_toArray, List.set_cons_zero, List.set_cons_succ]
        refine wpAnyH_ready (rs := [9]) (by kernel_rfl) (by simp) ?_
        refine AllReadyH.cons rfl (fun K hK => ?_) AllReadyH.nil
        refine step_store_var rfl _ _ rfl x2.heap.size _ _ _ (.int .i64 (c : Int)) (.int .i64 (c : Int)) (.slice (some ⟨g4, 0, none⟩) N N) rfl rfl HT_x3.out rfl rfl rfl ?_
        intro x4 HVt HGt
        have hbB : wb.heap.size ≤ x2.heap.size := HB_x2.out.size
        have HB_x4 : Hid (Below wb.heap.size wb x4) := below_row HB_x3.out HGt.out hbB
        have HD_x4 : Hid (x4.cell? ⟨w.heap.size, 0, none⟩ = some (.int .i64 (r : Int)) ∧ x4.cell? ⟨w.heap.size, 1, none⟩ = some (.int .i64 (c : Int)) ∧ x4.cell? ⟨w.heap.size, 2, none⟩ = some (.slice a n k)) := ⟨(HX.out.va.later HB_x4.out).c0, (HX.out.va.later HB_x4.out).c1, (HX.out.va.later HB_x4.out).c2⟩
        have HM_x4 : Hid (Mt x4 (some ⟨g4, 0, none⟩) N N F) := HM_x3.out.kept HGt.out (fun _ x hx e => by cases hx; exact hne4 e)
        refine hK.out _ _ HD_x4.out (fun _ => ?_)
        clear hK K
        try simp only [List.getElem_toArray, List.getElem_cons_succ, List.getElem_cons_zero, Act.put]
        refine wpAnyH_take (i := 10) (v := ?vb10) rfl (by kernel_rfl) (by kernel_rfl) (by kernel_rfl) (fun _ _ _ h => by cases h.1) (Or.inl ⟨by rfl, ?yb10⟩) HD_x4.out ?zb10
        case yb10 => (intro w hSw; (try dsimp only at hSw); go_simp; try with_reducible rfl)
        try simp only [List.getElem_toArray, List.getElem_cons_succ, List.getElem_cons_zero, Act.put, List.setIfInBounds_toArray, List.set_cons_zero, List.set_cons_succ]
        refine wpAnyH_done (by kernel_rfl) ?_ _
        exact ⟨rfl, x2.heap.size, g4, s3, d3, rfl, HVt.out, HM_x4.out, HB_x4.out⟩
      · go_simp
        obtain ⟨x2, HWx2⟩ : ∃ x, Hid (x = x1.alloc (.cells #[.int .i64 0, .int .i64 0, .slice none 0 0] 24)) := ⟨_, rfl⟩
        rw [← HWx2.out]
        have hbx2 : Below x1.heap.size x1 x2 := by rw [HWx2.out]; exact alloc_low _ _
        have HT_x2 : Hid (Vr x2 x1.heap.size (.int .i64 0) (.int .i64 0) (.slice none 0 0)) := by rw [HWx2.out]; exact Vr.new x1 _ _ _
        have HB_x2 : Hid (Below wb.heap.size wb x2) := two_below HB_x1.out hbx2
        have HD_x2 : Hid (x2.cell? ⟨w.heap.size, 0, none⟩ = some (.int .i64 (r : Int)) ∧ x2.cell? ⟨w.heap.size, 1, none⟩ = some (.int .i64 (c : Int)) ∧ x2.cell? ⟨w.heap.size, 2, none⟩ = some (.slice a n k)) := ⟨(HX.out.va.later HB_x2.out).c0, (HX.out.va.later HB_x2.out).c1, (HX.out.va.later HB_x2.out).c2⟩
        have HO_x2 : Hid (Oi x2 x0.heap.size (.slice s3 c d3) c (fun i => 0 + i)) := HO_x1.out.later hbx2
        refine hK.out _ _ HD_x2.out (fun _ => ?_)
        clear hK K
        try simp only [List.getElem_toArray, List.getElem_cons_succ, List.getElem_cons_zero, Act.put, List.setIfInBounds_toArray, List.set_cons_zero, List.set_cons_succ]
        refine wpAnyH_ready (rs := [4]) (by kernel_rfl) (by simp) ?_
        refine AllReadyH.cons rfl (fun K hK => ?_) AllReadyH.nil
        go_simp
        refine (mpick_ok _ r c n k c d3 N a s3 F (fun i => 0 + i) (HA.out.later (two_below HX.out.below HB_x2.out)) HR.out HO_x2.out.il (fun i hi => by omega) hc2 HN).mono ?_
        rintro e x3 ⟨g4, rfl, hr4, hg4, hb4⟩
        have HM_x3 : Hid (Mt x3 (some ⟨g4, 0, none⟩) N N F) := (hr4.mt (HPk.out)).congr (HPq.out)
        have HB_x3 : Hid (Below wb.heap.size wb x3) := two_below HB_x2.out hb4
        have HD_x3 : Hid (x3.cell? ⟨w.heap.size, 0, none⟩ = some (.int .i64 (r : Int)) ∧ x3.cell? ⟨w.heap.size, 1, none⟩ = some (.int .i64 (c : Int)) ∧ x3.cell? ⟨w.heap.size, 2, none⟩ = some (.slice a n k)) := ⟨(HX.out.va.later HB_x3.out).c0, (HX.out.va.later HB_x3.out).c1, (HX.out.va.later HB_x3.out).c2⟩
        have HT_x3 : Hid (Vr x3 x1.heap.size (.int .i64 0) (.int .i64 0) (.slice none 0 0)) := HT_x2.out.later hb4
        have hne4 : g4 ≠ x1.heap.size := fun e => by have := HT_x2.out.lt; omega
        clear hr4 hg4 hb4
        refine hK.out _ _ HD_x3.out (fun _ => ?_)
        clear hK K
        try simp only [List.getElem_toArray, List.getElem_cons_succ, List.getElem_cons_zero, Act.put, List.setIfInBounds_toArray, List.set_cons_zero, List.set_cons_succ]
        refine wpAnyH_take (i := 5) (v := ?vc5) rfl (by kernel_rfl) (by kernel_rfl) (by kernel_rfl) (fun _ _ _ h => by cases h.1) (Or.inl ⟨by rfl, ?yc5⟩) HD_x3.out ?zc5
        case yc5 => (intro w hSw; (try dsimp only at hSw); go_simp; try with_reducible rfl)
        try simp only [List.getElem_toArray, List.getElem_cons_succ, List.getElem_cons_zero, Act.put, List.setIfInBounds_toArray, List.set_cons_zero, List.set_cons_succ]
        refine wpAnyH_take (i := 6) (v := ?vc6) rfl (by kernel_rfl) (by kernel_rfl) (by kernel_rfl) (fun _ _ _ h => by cases h.1) (Or.inl ⟨by rfl, ?yc6⟩) HD_x3.out ?zc6
        case yc6 => (intro w hSw; (try dsimp only at hSw); go_simp; try with_reducible rfl)
        try simp only [List.getElem_toArray, List.getElem_cons_succ, List.getElem_cons_zero, Act.put, List.setIfInBounds_toArray, List.set_cons_zero, List.set_cons_succ]
        refine wpAnyH_take (i := 7) (v := ?vc7) rfl (by kernel_rfl) (by kernel_rfl) (by kernel_rfl) (fun _ _ _ h => by cases h.1) (Or.inl ⟨by rfl, ?yc7⟩) HD_x3.out ?zc7
        case yc7 => (intro w hSw; (try dsimp only at hSw); go_simp; try with_reducible rfl)
        try simp only [List.getElem_toArray, List.getElem_cons_succ, List.getElem_cons_zero, Act.put, List.setIfInBounds_toArray, List.set_cons_zero, List.set_cons_succ]
        refine wpAnyH_ready (rs := [9]) (by kernel_rfl) (by simp) ?_
        refine AllReadyH.cons rfl (fun K hK => ?_) AllReadyH.nil
        refine step_store_var rfl _ _ rfl x1.heap.size _ _ _ (.int .i64 (c : Int)) (.int .i64 (c : Int)) (.slice (some ⟨g4, 0, none⟩) N N) rfl rfl HT_x3.out rfl rfl rfl ?_
        intro x4 HVt HGt
        have hbB : wb.heap.size ≤ x1.heap.size := HB_x1.out.size
        have HB_x4 : Hid (Below wb.heap.size wb x4) := below_row HB_x3.out HGt.out hbB
        have HD_x4 : Hid (x4.cell? ⟨w.heap.size, 0, none⟩ = some (.int .i64 (r : Int)) ∧ x4.cell? ⟨w.heap.size, 1, none⟩ = some (.int .i64 (c : Int)) ∧ x4.cell? ⟨w.heap.size, 2, none⟩ = some (.slice a n k)) := ⟨(HX.out.va.later HB_x4.out).c0, (HX.out.va.later HB_x4.out).c1, (HX.out.va.later HB_x4.out).c2⟩
        have HM_x4 : Hid (Mt x4 (some ⟨g4, 0, none⟩) N N F) := HM_x3.out.kept HGt.out (fun _ x hx e => by cases hx; exact hne4 e)
        refine hK.out _ _ HD_x4.out (fun _ => ?_)
        clear hK K
        try simp only [List.getElem_toArray, List.getElem_cons_succ, List.getElem_cons_zero, Act.put]
        refine wpAnyH_take (i := 10) (v := ?vc10) rfl (by kernel_rfl) (by kernel_rfl) (by kernel_rfl) (fun _ _ _ h => by cases h.1) (Or.inl ⟨by rfl, ?yc10⟩) HD_x4.out ?zc10
        case yc10 => (intro w hSw; (try dsimp only at hSw); go_simp; try with_reducible rfl)
        try simp only [List.getElem_toArray, List.getElem_cons_succ, List.getElem_cons_zero, Act.put, List.setIfInBounds_toArray, List.set_cons_zero, List.set_cons_succ]
        refine wpAnyH_done (by kernel_rfl) ?_ _
        exact ⟨rfl, x1.heap.size, g4, s3, d3, rfl, HVt.out, HM_x4.out, HB_x4.out⟩
    · go_simp
      obtain ⟨x1, HWx1⟩ : ∃ x, Hid (x = x0.alloc (.cells #[.int .i64 0, .int .i64 0, .slice none 0 0] 24)) := ⟨_, rfl⟩
      rw [← HWx1.out]
      have hbx1 : Below x0.heap.size x0 x1 := by rw [HWx1.out]; exact alloc_low _ _
      have HT_x1 : Hid (Vr x1 x0.heap.size (.int .i64 0) (.int .i64 0) (.slice none 0 0)) := by rw [HWx1.out]; exact Vr.new x0 _ _ _
      have HB_x1 : Hid (Below wb.heap.size wb x1) := two_below HB_x0.out hbx1
      have HD_x1 : Hid (x1.cell? ⟨w.heap.size, 0, none⟩ = some (.int .i64 (r : Int)) ∧ x1.cell? ⟨w.heap.size, 1, none⟩ = some (.int .i64 (c : Int)) ∧ x1.cell? ⟨w.heap.size, 2, none⟩ = some (.slice a n k)) := ⟨(HX.out.va.later HB_x1.out).c0, (HX.out.va.later HB_x1.out).c1, (HX.out.va.later HB_x1.out).c2⟩
      refine hK.out _ _ HD_x1.out (fun _ => ?_)
      clear hK K
      try simp only [List.getElem_toArray, List.getElem_cons_succ, List.getElem_cons_zero, Act.put, List.setIfInBounds_toArray, List.set_cons_zero, List.set_cons_succ]
      refine wpAnyH_ready (rs := [3]) (by kernel_rfl) (by simp) ?_
      refine AllReadyH.cons rfl (fun K hK => ?_) AllReadyH.nil
      go_simp
      refine (nums_any _ 0 c c HC0.out hc1).mono ?_
      rintro e x2 ⟨s3, d3, rfl, ho3, hb3⟩
      have HO_x2 : Hid (Oi x2 x1.heap.size (.slice s3 c d3) c (fun i => 0 + i)) := ho3
      have HB_x2 : Hid (Below wb.heap.size wb x2) := two_below HB_x1.out hb3
      have HD_x2 : Hid (x2.cell? ⟨w.heap.size, 0, none⟩ = some (.int .i64 (r : Int)) ∧ x2.cell? ⟨w.heap.size, 1, none⟩ = some (.int .i64 (c : Int)) ∧ x2.cell? ⟨w.heap.size, 2, none⟩ = some (.slice a n k)) := ⟨(HX.out.va.later HB_x2.out).c0, (HX.out.va.later HB_x2.out).c1, (HX.out.va.later HB_x2.out).c2⟩
      have HT_x2 : Hid (Vr x2 x0.heap.size (.int .i64 0) (.int .i64 0) (.slice none 0 0)) := HT_x1.out.later hb3
      clear ho3 hb3
      refine hK.out _ _ HD_x2.out (fun _ => ?_)
      clear hK K
      try simp only [List.getElem_toArray, List.getElem_cons_succ, List.getElem_cons_zero, Act.put, List.setIfInBounds_toArray, List.set_cons_zero, List.set_cons_succ]
      refine wpAnyH_ready (rs := [4]) (by kernel_rfl) (by simp) ?_
      refine AllReadyH.cons rfl (fun K hK => ?_) AllReadyH.nil
      go_simp
      refine (mpick_ok _ r c n k c d3 N a s3 F (fun i => 0 + i) (HA.out.later (two_below HX.out.below HB_x2.out)) HR.out HO_x2.out.il (fun i hi => by omega) hc2 HN).mono ?_
      rintro e x3 ⟨g4, rfl, hr4, hg4, hb4⟩
      have HM_x3 : Hid (Mt x3 (some ⟨g4, 0, none⟩) N N F) := (hr4.mt (HPk.out)).congr (HPq.out)
      have HB_x3 : Hid (Below wb.heap.size wb x3) := two_below HB_x2.out hb4
      have HD_x3 : Hid (x3.cell? ⟨w.heap.size, 0, none⟩ = some (.int .i64 (r : Int)) ∧ x3.cell? ⟨w.heap.size, 1, none⟩ = some (.int .i64 (c : Int)) ∧ x3.cell? ⟨w.heap.size, 2, none⟩ = some (.slice a n k)) := ⟨(HX.out.va.later HB_x3.out).c0, (HX.out.va.later HB_x3.out).c1, (HX.out.va.later HB_x3.out).c2⟩
      have HT_x3 : Hid (Vr x3 x0.heap.size (.int .i64 0) (.int .i64 0) (.slice none 0 0)) := HT_x2.out.later hb4
      have hne4 : g4 ≠ x0.heap.size := fun e => by have := HT_x2.out.lt; omega
      clear hr4 hg4 hb4
      refine hK.out _ _ HD_x3.out (fun _ => ?_)
      clear hK K
      try simp only [List.getElem_toArray, List.getElem_cons_succ, List.getElem_cons_zero, Act.put, List.setIfInBounds_toArray, List.set_cons_zero, List.set_cons_succ]
      refine wpAnyH_take (i := 5) (v := ?vd5) rfl (by kernel_rfl) (by kernel_rfl) (by kernel_rfl) (fun _ _ _ h => by cases h.1) (Or.inl ⟨by rfl, ?yd5⟩) HD_x3.out ?zd5
      case yd5 => (intro w hSw; (try dsimp only at hSw); go_simp; try with_reducible rfl)
      try simp only [List.getElem_toArray, List.getElem_cons_succ, List.getElem_cons_zero, Act.put, List.setIfInBounds_toArray, List.set_cons_zero, List.set_cons_succ]
      refine wpAnyH_take (i := 6) (v := ?vd6) rfl (by kernel_rfl) (by kernel_rfl) (by kernel_rfl) (fun _ _ _ h => by cases h.1) (Or.inl ⟨by rfl, ?yd6⟩) HD_x3.out ?zd6
      case yd6 => (intro w hSw; (try dsimp only at hSw); go_simp; try with_reducible rfl)
      try simp only [List.getElem_toArray, List.getElem_cons_succ, List.getElem_cons_zero, Act.put, List.setIfInBounds_toArray, List.set_cons_zero, List.set_cons_succ]
      refine wpAnyH_take (i := 7) (v := ?vd7) rfl (by kernel_rfl) (by kernel_rfl) (by kernel_rfl) (fun _ _ _ h => by cases h.1) (Or.inl ⟨by rfl, ?yd7⟩) HD_x3.out ?zd7
      case yd7 => (intro w hSw; (try dsimp only at hSw); go_simp; try with_reducible rfl)
      try simp only [List.getElem_toArray, List.getElem_cons_succ, List.getElem_cons_zero, Act.put, List.setIfInBounds_toArray, List.set_cons_zero, List.set_cons_succ]
      refine wpAnyH_ready (rs := [9]) (by kernel_rfl) (by simp) ?_
      refine AllReadyH.cons rfl (fun K hK => ?_) AllReadyH.nil
      refine step_store_var rfl _ _ rfl x0.heap.size _ _ _ (.int .i64 (c : Int)) (.int .i64 (c : Int)) (.slice (some ⟨g4, 0, none⟩) N N) rfl rfl HT_x3.out rfl rfl rfl ?_
      intro x4 HVt HGt
      have hbB : wb.heap.size ≤ x0.heap.size := HB_x0.out.size
      have HB_x4 : Hid (Below wb.heap.size wb x4) := below_row HB_x3.out HGt.out hbB
      have HD_x4 : Hid (x4.cell? ⟨w.heap.size, 0, none⟩ = some (.int .i64 (r : Int)) ∧ x4.cell? ⟨w.heap.size, 1, none⟩ = some (.int .i64 (c : Int)) ∧ x4.cell? ⟨w.heap.size, 2, none⟩ = some (.slice a n k)) := ⟨(HX.out.va.later HB_x4.out).c0, (HX.out.va.later HB_x4.out).c1, (HX.out.va.later HB_x4.out).c2⟩
      have HM_x4 : Hid (Mt x4 (some ⟨g4, 0, none⟩) N N F) := HM_x3.out.kept HGt.out (fun _ x hx e => by cases hx; exact hne4 e)
      refine hK.out _ _ HD_x4.out (fun _ => ?_)
      clear hK K
      try simp only [List.getElem_toArray, List.getElem_cons_succ, List.getElem_cons_zero, Act.put]
      refine wpAnyH_take (i := 10) (v := ?vd10) rfl (by kernel_rfl) (by kernel_rfl) (by kernel_rfl) (fun _ _ _ h => by cases h.1) (Or.inl ⟨by rfl, ?yd10⟩) HD_x4.out ?zd10
      case yd10 => (intro w hSw; (try dsimp only at hSw); go_simp; try with_reducible rfl)
      try simp only [List.getElem_toArray, List.getElem_cons_succ, List.getElem_cons_zero, Act.put, List.setIfInBounds_toArray, List.set_cons_zero, List.set_cons_succ]
      refine wpAnyH_done (by kernel_rfl) ?_ _
      exact ⟨rfl, x0.heap.size, g4, s3, d3, rfl, HVt.out, HM_x4.out, HB_x4.out⟩
  case tail =>
    rintro e a' x4 ⟨rfl, b4, g4, s3, d3, rfl, hv, hm, hb⟩
    have HB4 : Hid (Below wb.heap.size wb x4) := hb
    have HM4 : Hid (Mt x4 (some ⟨g4, 0, none⟩) N N F) := hm
    have t0 := hv.c0
    have t1 := hv.c1
    have t2 := hv.c2
    obtain ⟨t, ht⟩ := rk_ex (m2_el HM4.out.sl.1 HC.out) c
    have htc : t ≤ c := ht.le (Le.refl (m2_el HM4.out.sl.1 HC.out) c)
    clear hv hm hb
    by_cases hq : t = c
    · subst hq
      have HK : Hid (Rk (m2 F t t) t t) := ht
      clear ht htc
      go_wp2_with (first
        | (go_at_call 26; refine (ginv_ok _ t N N _ F HM4.out HC.out HK.out).mono ?_; rintro e w5 ⟨s5, d5, X, rfl, hm5, hp5, hb5⟩; have HM5 : Hid (Mt (w5.alloc (.cells #[.int .i64 (t : Int), .int .i64 (t : Int), .slice s5 N d5] 24)) s5 N d5 X) := hm5.later (alloc_low _ _); have HP5 : Hid (∀ i j, i < t → j < t → pr (m2 F t t) (m2 X t t) t i j = dl i j) := hp5; have HB5 : Hid (Below wb.heap.size wb (w5.alloc (.cells #[.int .i64 (t : Int), .int .i64 (t : Int), .slice s5 N d5] 24))) := two_below (two_below HB4.out hb5) (alloc_low _ _); have y0 := (HX.out.va.later HB5.out).c0; have y1 := (HX.out.va.later HB5.out).c1; have y2 := (HX.out.va.later HB5.out).c2; clear hm5 hp5 hb5)
        | (go_at_call 27; refine (mmul_ok _ r t t n N n k d5 a s5 F X (HA.out.later (two_below HX.out.below HB5.out)) HM5.out HR.out HC.out HR.out).mono ?_; rintro e w6 ⟨g6, rfl, hr6, hg6, hb6⟩; have HR6 : Hid (RowAt w6 g6 5 n (prk F X t t t)) := hr6; have hg7 : wb.heap.size ≤ g6 := Nat.le_trans HB5.out.size hg6; have HB6 : Hid (Below wb.heap.size wb w6) := two_below HB5.out hb6; have HV6 : Hid (Vr w6 (w.heap.size + 1) (.int .i64 0) (.int .i64 0) (.slice none 0 0)) := HX.out.vr.later HB6.out; clear hr6 hg6 hb6)
        | (refine wpList_store_var rfl _ _ rfl (w.heap.size + 1) _ _ _ (.int .i64 (r : Int)) (.int .i64 (t : Int)) (.slice (some ⟨g6, 0, none⟩) n n) rfl rfl HV6.out rfl rfl rfl ?_; intro w7 HV7 HG7))
      have d0 := HV7.out.c0
      have d1 := HV7.out.c1
      have d2 := HV7.out.c2
      refine bodyPost_ret (v := .tuple #[mv r t (some ⟨g6, 0, none⟩) n n, .int .i64 0]) (by simp [results, Try.results5, go_sem, d0, d1, d2, mv]) rfl ?_
      exact .inl ⟨⟨g6, X, rfl, HR6.out.kept HG7.out (by omega), by rw [HN.out]; exact HM5.out.sl.1, HP5.out, by omega, below_row (two_below HX.out.below HB6.out) HG7.out (by omega)⟩, HK.out⟩
    · have HK : Hid (Rk (m2 F c c) c t) := ht
      have htl : t < c := by omega
      clear ht hq htc
      go_wp2_with (first
        | (go_at_call 26; refine (ginv_sing _ c N N t _ F HM4.out HC.out HK.out htl).mono ?_; rintro e w5 ⟨rfl, hb5⟩; have HB5 : Hid (Below wb.heap.size wb (w5.alloc (.cells #[.int .i64 0, .int .i64 0, .slice none 0 0] 24))) := two_below (two_below HB4.out hb5) (alloc_low _ _); have HV6 : Hid (Vr (w5.alloc (.cells #[.int .i64 0, .int .i64 0, .slice none 0 0] 24)) (w.heap.size + 1) (.int .i64 0) (.int .i64 0) (.slice none 0 0)) := HX.out.vr.later HB5.out; clear hb5)
        | (refine wpList_store_var rfl _ _ rfl (w.heap.size + 1) _ _ _ (.int .i64 0) (.int .i64 0) (.slice none 0 0) rfl rfl HV6.out rfl rfl rfl ?_; intro w7 HV7 HG7))
      have d0 := HV7.out.c0
      have d1 := HV7.out.c1
      have d2 := HV7.out.c2
      refine bodyPost_ret (v := .tuple #[mv 0 0 none 0 0, .int .i64 6]) (by simp [results, Try.results5, go_sem, d0, d1, d2, mv]) rfl ?_
      exact .inr ⟨rfl, below_row (two_below HX.out.below HB5.out) HG7.out (by omega), t, htl, HK.out⟩
theorem bsys_ok (w : World) (r c n k : Nat) (a : Option Addr) (F : Nat → Nat) (ha : Mt w a n k F) (R : Rt r c n) (hcr : c ≤ r) (hk : Rk (m2 F c c) c c) :
    Calls Try.prog 5 #[mv r c a n k] w fun e w' => SysP w w' e r c n F :=
  (bsys_x w r c n k a F ha R hcr).mono (fun _ _ h => by
    rcases h with ⟨h, _⟩ | ⟨_, _, t, ht, h⟩
    · exact h
    · have := h.uniq (top_el ha R hcr) hk
      omega)
theorem bsys_sing (w : World) (r c n k q : Nat) (a : Option Addr) (F : Nat → Nat) (ha : Mt w a n k F) (R : Rt r c n) (hcr : c ≤ r) (hk : Rk (m2 F c c) c q) (hq : q < c) :
    Calls Try.prog 5 #[mv r c a n k] w fun e w' => e = .returned (.tuple #[mv 0 0 none 0 0, .int .i64 6]) ∧ Below w.heap.size w w' :=
  (bsys_x w r c n k a F ha R hcr).mono (fun _ _ h => by
    rcases h with ⟨_, h⟩ | ⟨h1, h2, _⟩
    · have := h.uniq (top_el ha R hcr) hk
      omega
    · exact ⟨h1, h2⟩)
set_option maxRecDepth 20000 in
set_option maxHeartbeats 2000000 in
theorem bsys_bad (w : World) (r c : Int) (n k : Nat) (a : Option Addr) (h : ¬ (RightP r c n ∧ c ≤ r)) :
    Calls Try.prog 5 #[mv r c a n k] w fun e w' => e = .returned (.tuple #[mv 0 0 none 0 0, .int .i64 3]) ∧ Below w.heap.size w w' := by
  obtain ⟨wb, HW, HX⟩ : ∃ wb, Hid (wb = (w.alloc (.cells #[.int .i64 r, .int .i64 c, .slice a n k] 24)).alloc (.cells #[.int .i64 0, .int .i64 0, .slice none 0 0] 24)) ∧ Hid (Box2 w wb r c n k a) := ⟨_, rfl, box2 w r c n k a⟩
  have v0 := HX.out.va.c0
  have v1 := HX.out.va.c1
  have v2 := HX.out.va.c2
  have hwb : w.heap.size + 1 < wb.heap.size := HX.out.vr.lt
  have H1 : Hid (¬ (RightP r c n ∧ c ≤ r)) := h
  clear h
  go_enter Try.func5, Try.ntmps5
  go_wp2_with (first
    | (go_at_call 23; rw [← HW.out]; refine (tall_no _ _ _ _ _ _ H1.out).mono ?_; rintro e w1 ⟨rfl, hb1⟩; have HB1 : Hid (Below wb.heap.size wb w1) := hb1; have HVz : Hid (Vr w1 (w.heap.size + 1) (.int .i64 0) (.int .i64 0) (.slice none 0 0)) := HX.out.vr.later HB1.out; clear hb1)
    | (refine wpList_store_var rfl _ _ rfl (w.heap.size + 1) _ _ _ (.int .i64 0) (.int .i64 0) (.slice none 0 0) rfl rfl HVz.out rfl rfl rfl ?_; intro w5 HV5 HG5))
  have d0 := HV5.out.c0
  have d1 := HV5.out.c1
  have d2 := HV5.out.c2
  refine bodyPost_ret (v := .tuple #[mv 0 0 none 0 0, .int .i64 3]) (by simp [results, Try.results5, go_sem, d0, d1, d2, mv]) rfl ?_
  exact ⟨rfl, below_row (two_below HX.out.below HB1.out) HG5.out (by omega)⟩
end Go.Proofs.Ytblfldjlehjnbab

namespace Go.Proofs.Ytblfldjlehjnbab
open Go.RowKit
set_option maxRecDepth 20000 in
set_option maxHeartbeats 2000000 in
theorem breed_ok (w : World) (k m n : Nat) (hk : 1 ≤ k) (h : k + m ≤ 64) (HN : Hid ((k + m) * k = n)) :
    Calls Try.prog 31 #[.int .i64 (k : Int), .int .i64 (m : Int)] w fun e w' => SysP w w' e (k + m) k n (vdf k) := by
  obtain ⟨r, HRR⟩ : ∃ r, Hid (k + m = r) := ⟨_, rfl⟩
  have hrr := HRR.out
  rw [hrr] at h HN ⊢
  have HRt : Hid (Rt r k n) := ⟨h, by omega, HN.out⟩
  have e1 : IntKind.i64.wrap ((k : Int) + (m : Int)) = (r : Int) := by rw [IntKind.wrap_i64]; omega
  have HV0 : Hid (Vr (w.alloc (.cells #[.int .i64 0, .int .i64 0, .slice none 0 0] 24)) w.heap.size (.int .i64 0) (.int .i64 0) (.slice none 0 0)) := Vr.new w _ _ _
  have hkr : k ≤ r := by omega
  have hk64 : k ≤ 64 := by omega
  have hkm : k + m ≤ 64 := by omega
  have HKm : Hid (k + m ≤ 64) := hkm
  clear hrr hkm
  go_enter Try.func31, Try.ntmps31
  go_wp2_with (first
    | (go_at_call 60; refine (cnt_yes5 _ k m hk HKm.out).mono ?_; rintro e w' ⟨rfl, rfl⟩)
    | (go_at_call 61; refine (bvdm_ok _ r k n h hk64 HN).mono ?_; rintro e w1 ⟨g1, rfl, hr1, hg1, hb1⟩; have HM1 : Hid (Mt (w1.alloc (.cells #[.int .i64 (r : Int), .int .i64 (k : Int), .slice (some ⟨g1, 0, none⟩) n n] 24)) (some ⟨g1, 0, none⟩) n n (vdf k)) := (hr1.mt (fun p _ => vdf_lt k p)).later (alloc_low _ _); have HB1 : Hid (Below w.heap.size w (w1.alloc (.cells #[.int .i64 (r : Int), .int .i64 (k : Int), .slice (some ⟨g1, 0, none⟩) n n] 24))) := two_below (two_below (alloc_low _ _) hb1) (alloc_low _ _); have HV1 : Hid (Vr (w1.alloc (.cells #[.int .i64 (r : Int), .int .i64 (k : Int), .slice (some ⟨g1, 0, none⟩) n n] 24)) w.heap.size (.int .i64 0) (.int .i64 0) (.slice none 0 0)) := (HV0.out.later hb1).later (alloc_low _ _); clear hr1 hg1 hb1)
    | (go_at_call 5; refine (bsys_ok _ r k n n _ (vdf k) HM1.out HRt.out hkr (vdf_top hk64)).mono ?_; rintro e w2 ⟨g2, X, rfl, hr2, hX2, hp2, hg2, hb2⟩; have HR2 : Hid (RowAt w2 g2 5 n (prk (vdf k) X k k k)) := hr2; have HX2 : Hid ((∀ q, q < k * k → X q < 256) ∧ (∀ i j, i < k → j < k → pr (m2 (vdf k) k k) (m2 X k k) k i j = dl i j)) := ⟨hX2, hp2⟩; have hg3 : w.heap.size < g2 := Nat.lt_of_lt_of_le HV1.out.lt hg2; have HB2 : Hid (Below w.heap.size w w2) := two_below HB1.out hb2; have HV2 : Hid (Vr w2 w.heap.size (.int .i64 0) (.int .i64 0) (.slice none 0 0)) := HV1.out.later hb2; clear hr2 hX2 hp2 hg2 hb2)
    | (refine wpList_store_var rfl _ _ rfl w.heap.size _ _ _ (.int .i64 (r : Int)) (.int .i64 (k : Int)) (.slice (some ⟨g2, 0, none⟩) n n) rfl rfl HV2.out rfl rfl rfl ?_; intro w5 HV5 HG5))
  have d0 := HV5.out.c0
  have d1 := HV5.out.c1
  have d2 := HV5.out.c2
  refine bodyPost_ret (v := .tuple #[mv r k (some ⟨g2, 0, none⟩) n n, .int .i64 0]) (by simp [results, Try.results31, go_sem, d0, d1, d2, mv]) rfl ?_
  exact ⟨g2, X, rfl, HR2.out.kept HG5.out (by omega), HX2.out.1, HX2.out.2, by omega, below_row HB2.out HG5.out (Nat.le_refl _)⟩
set_option maxRecDepth 20000 in
set_option maxHeartbeats 2000000 in
theorem breed_bad (w : World) (k m : Int) (hw : k < 9223372036854775808) (h : ¬ FitsP k m) :
    Calls Try.prog 31 #[.int .i64 k, .int .i64 m] w fun e w' => e = .returned (.tuple #[mv 0 0 none 0 0, .int .i64 2]) ∧ Below w.heap.size w w' := by
  have H1 : Hid (¬ FitsP k m) := h
  have H2 : Hid (k < 9223372036854775808) := hw
  have HV0 : Hid (Vr (w.alloc (.cells #[.int .i64 0, .int .i64 0, .slice none 0 0] 24)) w.heap.size (.int .i64 0) (.int .i64 0) (.slice none 0 0)) := Vr.new w _ _ _
  clear h hw
  go_enter Try.func31, Try.ntmps31
  go_wp2_with (first
    | (go_at_call 60; refine (cnt_no5 _ k m H2.out H1.out).mono ?_; rintro e w' ⟨rfl, rfl⟩)
    | (refine wpList_store_var rfl _ _ rfl w.heap.size _ _ _ (.int .i64 0) (.int .i64 0) (.slice none 0 0) rfl rfl HV0.out rfl rfl rfl ?_; intro w5 HV5 HG5))
  have d0 := HV5.out.c0
  have d1 := HV5.out.c1
  have d2 := HV5.out.c2
  refine bodyPost_ret (v := .tuple #[mv 0 0 none 0 0, .int .i64 2]) (by simp [results, Try.results31, go_sem, d0, d1, d2, mv]) rfl ?_
  exact ⟨rfl, below_row (alloc_low _ _) HG5.out (Nat.le_refl _)⟩
end Go.Proofs.Ytblfldjlehjnbab

namespace Go.Proofs.Ytblfldjlehjnbab
open Go.RowKit
theorem el_of_le {G : Nat → Nat} {r c s : Nat} {M : Nat → Nat → Nat} (h : Le (m2 G r c) r M s) : El2 (m2 G r c) := fun i j => by
  by_cases hi : i < r
  · obtain ⟨a, ha, e⟩ := h i hi
    rw [e j]
    exact xs_lt fun t _ => fm_lt _ _ (ha t)
  · unfold m2
    rw [if_neg (by omega)]
    decide
theorem rk_turn {F : Nat → Nat} {r c n k l : Nat} (R : Rt r c n) (hk : Rk (m2 F r c) r k) (hl : Rk (m2 (trf F r c) c r) c l) : k = l := by
  have _ := R
  refine rk_tpo (fun i j _ hj => m2_cut F hj) hk (hl.at (fun i j hi => ?_))
  unfold tpo
  by_cases hj : j < r
  · rw [if_pos hj]; dsimp only; rw [m2_at _ hj hi, m2_at _ hi hj, trf_at F r c j i hj]
  · rw [if_neg hj, m2_cut _ (by omega)]
theorem rk_cols {F : Nat → Nat} {r c n k : Nat} (hF : ∀ i, i < n → F i < 256) (R : Rt r c n) (hk : Rk (m2 F r c) r k) : k ≤ c := by
  have R2 : Rt c r n := ⟨R.c64, R.r64, by rw [Nat.mul_comm]; exact R.len⟩
  have he := m2_el (trf_el4 hF R) R2
  obtain ⟨l, hl⟩ := rk_ex he c
  rw [rk_turn R hk hl]
  exact hl.le (Le.refl he c)
/-- What Check answers. -/
def ChkP (w w' : World) (e : Ending) (r c : Nat) (F : Nat → Nat) : Prop := ∃ s d kr top p G H, e = .returned (.tuple #[mv (kr : Nat) r s (kr * r) d, .int .i64 0]) ∧ Mt w' s (kr * r) d H ∧ Rdf (m2 G c r) c top p ∧ SpEq (m2 G c r) c (m2 (trf F r c) c r) c ∧ (∀ i, i < top → p i < r) ∧ kr = cnt (fre p top) r ∧ (∀ u l, u < kr → l < r → H (u * r + l) = kv (m2 G c r) p top (nth (fre p top) r u) l) ∧ Frs w' w.heap.size s (kr * r) d ∧ Below w.heap.size w w'
theorem kr_of {F G p : Nat → Nat} {r c n top kr t : Nat} (R : Rt r c n) (ht : Rk (m2 F r c) r t) (hR : Rdf (m2 G c r) c top p) (hS : SpEq (m2 G c r) c (m2 (trf F r c) c r) c) (hp : ∀ i, i < top → p i < r) (hk : kr = cnt (fre p top) r) : t + kr = r ∧ top = t := by
  have h1 : Rk (m2 (trf F r c) c r) c top := (hR.rk (el_of_le hS.1)).span hS
  have h2 := rk_turn R ht h1
  subst h2
  exact ⟨by rw [hk]; exact cnt_free hR.up hp, rfl⟩
set_option maxRecDepth 20000 in
set_option maxHeartbeats 4000000 in
theorem bchk_x (w : World) (r c n k : Nat) (a : Option Addr) (F : Nat → Nat) (ha : Mt w a n k F) (R : Rt r c n) (hcr : c ≤ r) :
    Calls Try.prog 17 #[mv r c a n k] w fun e w' => (ChkP w w' e r c F ∧ Rk (m2 F r c) r c) ∨ (e = .returned (.tuple #[mv 0 0 none 0 0, .int .i64 6]) ∧ Below w.heap.size w w' ∧ ∃ t, t < c ∧ Rk (m2 F r c) r t) := by
  obtain ⟨wb, HW, HX⟩ : ∃ wb, Hid (wb = (w.alloc (.cells #[.int .i64 (r : Int), .int .i64 (c : Int), .slice a n k] 24)).alloc (.cells #[.int .i64 0, .int .i64 0, .slice none 0 0] 24)) ∧ Hid (Box2 w wb r c n k a) := ⟨_, rfl, box2 w r c n k a⟩
  obtain ⟨t, ht⟩ := rk_ex (m2_el ha.sl.1 R) r
  have htc : t ≤ c := rk_cols ha.sl.1 R ht
  have HK : Hid (Rk (m2 F r c) r t) := ht
  have HA : Hid (Mt w a n k F) := ha
  have HR : Hid (Rt r c n) := R
  have hcl : (c : Int) ≤ (r : Int) := by omega
  have HCl : Hid ((c : Int) ≤ (r : Int)) := hcl
  have hr64 := R.r64
  have v0 := HX.out.va.c0
  have v1 := HX.out.va.c1
  have v2 := HX.out.va.c2
  have hwb : w.heap.size + 1 < wb.heap.size := HX.out.vr.lt
  have e1 : IntKind.i64.wrap ((r : Int) - (c : Int)) = (r : Int) - (c : Int) := by rw [IntKind.wrap_i64]; omega
  clear ha R hcl ht
  by_cases hq : t = c
  · subst hq
    go_enter Try.func17, Try.ntmps17
    go_wp2_with (first
      | (go_at_call 23; rw [← HW.out]; refine (tall_yes _ _ _ _ _ _ HR.out.p HCl.out).mono ?_; rintro e w1 ⟨rfl, hb1⟩; have HB1 : Hid (Below wb.heap.size wb w1) := hb1; have a0 := (HX.out.va.later hb1).c0; have a1 := (HX.out.va.later hb1).c1; have a2 := (HX.out.va.later hb1).c2; clear hb1)
      | (go_at_call 38; have _x := HB1; refine (mtrans_ok _ r t n k a F (HA.out.later (two_below HX.out.below HB1.out)) HR.out).mono ?_; rintro e w3 ⟨g3, rfl, hr3, hg3, hb3⟩; have HM3 : Hid (Mt (w3.alloc (.cells #[.int .i64 (t : Int), .int .i64 (r : Int), .slice (some ⟨g3, 0, none⟩) n n] 24)) (some ⟨g3, 0, none⟩) n n (trf F r t)) := (hr3.mt (trf_el4 HA.out.sl.1 HR.out)).later (alloc_low _ _); have HB3 : Hid (Below wb.heap.size wb (w3.alloc (.cells #[.int .i64 (t : Int), .int .i64 (r : Int), .slice (some ⟨g3, 0, none⟩) n n] 24))) := two_below (two_below HB1.out hb3) (alloc_low _ _); clear hr3 hg3 hb3)
      | (go_at_call 39; have _x := HB3; refine (gker_x _ t r n n _ _ HM3.out (rt_turn6 HR.out)).mono ?_; rintro e w4 ⟨⟨s4, d4, kr, top, p, G, H, rfl, hm4, hR4, hS4, hp4, hk4, hH4, hb4⟩, s4', N4', d4', kr4', he4', hf4⟩; simp only [mv, Ending.returned.injEq, Value.tuple.injEq, Array.mk.injEq, List.cons.injEq, Value.agg.injEq, Value.slice.injEq, Value.int.injEq, true_and, and_true] at he4'; obtain ⟨hk5, rfl, rfl, rfl⟩ := he4'; clear hk5 kr4'; have hkt := (kr_of HR.out HK.out hR4 hS4 hp4 hk4).1; obtain ⟨M, HMM⟩ : ∃ x, Hid (kr * r = x) := ⟨_, rfl⟩; rw [HMM.out] at hm4 hf4 ⊢; have HM4 : Hid (Mt (w4.alloc (.cells #[.int .i64 (kr : Int), .int .i64 (r : Int), .slice s4 M d4] 24)) s4 M d4 H) := hm4.later (alloc_low _ _); have HFr4 : Hid (Frs (w4.alloc (.cells #[.int .i64 (kr : Int), .int .i64 (r : Int), .slice s4 M d4] 24)) wb.heap.size s4 M d4) := (hf4.mono HB3.out.size).later (alloc_low _ _); have HF4 : Hid (Rdf (m2 G t r) t top p ∧ SpEq (m2 G t r) t (m2 (trf F r t) t r) t ∧ (∀ i, i < top → p i < r) ∧ kr = cnt (fre p top) r ∧ (∀ u l, u < kr → l < r → H (u * r + l) = kv (m2 G t r) p top (nth (fre p top) r u) l)) := ⟨hR4, hS4, hp4, hk4, hH4⟩; have HB4 : Hid (Below wb.heap.size wb (w4.alloc (.cells #[.int .i64 (kr : Int), .int .i64 (r : Int), .slice s4 M d4] 24))) := two_below (two_below HB3.out hb4) (alloc_low _ _); have HV4 : Hid (Vr (w4.alloc (.cells #[.int .i64 (kr : Int), .int .i64 (r : Int), .slice s4 M d4] 24)) (w.heap.size + 1) (.int .i64 0) (.int .i64 0) (.slice none 0 0)) := HX.out.vr.later HB4.out; have HT4 := Vr.new w4 (.int .i64 (kr : Int)) (.int .i64 (r : Int)) (.slice s4 M d4); have z0 := HT4.c0; have z1 := HT4.c1; have z2 := HT4.c2; have y0 := (HX.out.va.later HB4.out).c0; have y1 := (HX.out.va.later HB4.out).c1; have y2 := (HX.out.va.later HB4.out).c2; have g1 : decide ((r : Int) - (t : Int) < (kr : Int)) = false := (by simp; omega); clear hm4 hf4 hR4 hS4 hp4 hk4 hH4 hb4 HT4)
      | (refine wpList_store_var rfl _ _ rfl (w.heap.size + 1) _ _ _ (.int .i64 (kr : Int)) (.int .i64 (r : Int)) (.slice s4 M d4) rfl rfl HV4.out rfl rfl rfl ?_; intro w5 HV5 HG5))
    have d0 := HV5.out.c0
    have d1 := HV5.out.c1
    have d2 := HV5.out.c2
    refine bodyPost_ret (v := .tuple #[mv (kr : Nat) r s4 M d4, .int .i64 0]) (by simp [results, Try.results17, go_sem, d0, d1, d2, mv]) rfl ?_
    obtain ⟨f2, f3, f4, f5, f6⟩ := HF4.out
    exact .inl ⟨⟨s4, d4, kr, top, p, G, H, by rw [HMM.out], by rw [HMM.out]; exact HM4.out.kept HG5.out (fun _ => HFr4.out.off hwb), f2, f3, f4, f5, f6, by rw [HMM.out]; exact (HFr4.out.kept HG5.out hwb).mono (by omega), below_row (two_below HX.out.below HB4.out) HG5.out (by omega)⟩, HK.out⟩
  · have htl : t < c := by omega
    go_enter Try.func17, Try.ntmps17
    go_wp2_with (first
      | (go_at_call 23; rw [← HW.out]; refine (tall_yes _ _ _ _ _ _ HR.out.p HCl.out).mono ?_; rintro e w1 ⟨rfl, hb1⟩; have HB1 : Hid (Below wb.heap.size wb w1) := hb1; have a0 := (HX.out.va.later hb1).c0; have a1 := (HX.out.va.later hb1).c1; have a2 := (HX.out.va.later hb1).c2; clear hb1)
      | (go_at_call 38; have _x := HB1; refine (mtrans_ok _ r c n k a F (HA.out.later (two_below HX.out.below HB1.out)) HR.out).mono ?_; rintro e w3 ⟨g3, rfl, hr3, hg3, hb3⟩; have HM3 : Hid (Mt (w3.alloc (.cells #[.int .i64 (c : Int), .int .i64 (r : Int), .slice (some ⟨g3, 0, none⟩) n n] 24)) (some ⟨g3, 0, none⟩) n n (trf F r c)) := (hr3.mt (trf_el4 HA.out.sl.1 HR.out)).later (alloc_low _ _); have HB3 : Hid (Below wb.heap.size wb (w3.alloc (.cells #[.int .i64 (c : Int), .int .i64 (r : Int), .slice (some ⟨g3, 0, none⟩) n n] 24))) := two_below (two_below HB1.out hb3) (alloc_low _ _); clear hr3 hg3 hb3)
      | (go_at_call 39; have _x := HB3; refine (gker_ok _ c r n n _ _ HM3.out (rt_turn6 HR.out)).mono ?_; rintro e w4 ⟨s4, d4, kr, top, p, G, H, rfl, hm4, hR4, hS4, hp4, hk4, hH4, hb4⟩; have hkt := (kr_of HR.out HK.out hR4 hS4 hp4 hk4).1; obtain ⟨M, HMM⟩ : ∃ x, Hid (kr * r = x) := ⟨_, rfl⟩; rw [HMM.out] at hm4 ⊢; have HB4 : Hid (Below wb.heap.size wb (w4.alloc (.cells #[.int .i64 (kr : Int), .int .i64 (r : Int), .slice s4 M d4] 24))) := two_below (two_below HB3.out hb4) (alloc_low _ _); have HV4 : Hid (Vr (w4.alloc (.cells #[.int .i64 (kr : Int), .int .i64 (r : Int), .slice s4 M d4] 24)) (w.heap.size + 1) (.int .i64 0) (.int .i64 0) (.slice none 0 0)) := HX.out.vr.later HB4.out; have HT4 := Vr.new w4 (.int .i64 (kr : Int)) (.int .i64 (r : Int)) (.slice s4 M d4); have z0 := HT4.c0; have z1 := HT4.c1; have z2 := HT4.c2; have y0 := (HX.out.va.later HB4.out).c0; have y1 := (HX.out.va.later HB4.out).c1; have y2 := (HX.out.va.later HB4.out).c2; have g1 : decide ((r : Int) - (c : Int) < (kr : Int)) = true := (by simp; omega); clear hm4 hR4 hS4 hp4 hk4 hH4 hb4 HT4)
      | (refine wpList_store_var rfl _ _ rfl (w.heap.size + 1) _ _ _ (.int .i64 0) (.int .i64 0) (.slice none 0 0) rfl rfl HV4.out rfl rfl rfl ?_; intro w5 HV5 HG5))
    have d0 := HV5.out.c0
    have d1 := HV5.out.c1
    have d2 := HV5.out.c2
    refine bodyPost_ret (v := .tuple #[mv 0 0 none 0 0, .int .i64 6]) (by simp [results, Try.results17, go_sem, d0, d1, d2, mv]) rfl ?_
    exact .inr ⟨rfl, below_row (two_below HX.out.below HB4.out) HG5.out (by omega), t, htl, HK.out⟩
theorem bchk_ok (w : World) (r c n k : Nat) (a : Option Addr) (F : Nat → Nat) (ha : Mt w a n k F) (R : Rt r c n) (hcr : c ≤ r) (hk : Rk (m2 F r c) r c) :
    Calls Try.prog 17 #[mv r c a n k] w fun e w' => ChkP w w' e r c F :=
  (bchk_x w r c n k a F ha R hcr).mono (fun _ _ h => by
    rcases h with ⟨h, _⟩ | ⟨_, _, t, ht, h⟩
    · exact h
    · have := h.uniq (m2_el ha.sl.1 R) hk
      omega)
theorem bchk_sing (w : World) (r c n k q : Nat) (a : Option Addr) (F : Nat → Nat) (ha : Mt w a n k F) (R : Rt r c n) (hcr : c ≤ r) (hk : Rk (m2 F r c) r q) (hq : q < c) :
    Calls Try.prog 17 #[mv r c a n k] w fun e w' => e = .returned (.tuple #[mv 0 0 none 0 0, .int .i64 6]) ∧ Below w.heap.size w w' :=
  (bchk_x w r c n k a F ha R hcr).mono (fun _ _ h => by
    rcases h with ⟨_, h⟩ | ⟨h1, h2, _⟩
    · have := h.uniq (m2_el ha.sl.1 R) hk
      omega
    · exact ⟨h1, h2⟩)
set_option maxRecDepth 20000 in
set_option maxHeartbeats 2000000 in
theorem bchk_bad (w : World) (r c : Int) (n k : Nat) (a : Option Addr) (h : ¬ (RightP r c n ∧ c ≤ r)) :
    Calls Try.prog 17 #[mv r c a n k] w fun e w' => e = .returned (.tuple #[mv 0 0 none 0 0, .int .i64 3]) ∧ Below w.heap.size w w' := by
  obtain ⟨wb, HW, HX⟩ : ∃ wb, Hid (wb = (w.alloc (.cells #[.int .i64 r, .int .i64 c, .slice a n k] 24)).alloc (.cells #[.int .i64 0, .int .i64 0, .slice none 0 0] 24)) ∧ Hid (Box2 w wb r c n k a) := ⟨_, rfl, box2 w r c n k a⟩
  have v0 := HX.out.va.c0
  have v1 := HX.out.va.c1
  have v2 := HX.out.va.c2
  have hwb : w.heap.size + 1 < wb.heap.size := HX.out.vr.lt
  have H1 : Hid (¬ (RightP r c n ∧ c ≤ r)) := h
  clear h
  go_enter Try.func17, Try.ntmps17
  go_wp2_with (first
    | (go_at_call 23; rw [← HW.out]; refine (tall_no _ _ _ _ _ _ H1.out).mono ?_; rintro e w1 ⟨rfl, hb1⟩; have HB1 : Hid (Below wb.heap.size wb w1) := hb1; have HVz : Hid (Vr w1 (w.heap.size + 1) (.int .i64 0) (.int .i64 0) (.slice none 0 0)) := HX.out.vr.later HB1.out; clear hb1)
    | (refine wpList_store_var rfl _ _ rfl (w.heap.size + 1) _ _ _ (.int .i64 0) (.int .i64 0) (.slice none 0 0) rfl rfl HVz.out rfl rfl rfl ?_; intro w5 HV5 HG5))
  have d0 := HV5.out.c0
  have d1 := HV5.out.c1
  have d2 := HV5.out.c2
  refine bodyPost_ret (v := .tuple #[mv 0 0 none 0 0, .int .i64 3]) (by simp [results, Try.results17, go_sem, d0, d1, d2, mv]) rfl ?_
  exact ⟨rfl, below_row (two_below HX.out.below HB1.out) HG5.out (by omega)⟩
end Go.Proofs.Ytblfldjlehjnbab

namespace Go.Proofs.Ytblfldjlehjnbab
open Go.RowKit
set_option maxRecDepth 20000 in
set_option maxHeartbeats 1000000 in
theorem like5_any (w : World) (r c r' c' e g : Int) (a b : Option Addr) (n m k d : Nat) (f h : Nat → Nat) (ha : Sl w a n f) (hb : Sl w b m h) (s : Bool) (HS : Hid (((e == g) && likeB r c r' c' n m f h) = s)) :
    Calls Try.prog 22 #[mv r c a n k, .int .i64 e, mv r' c' b m d, .int .i64 g] w fun o w' => o = .returned (.bool s) ∧ Below w.heap.size w w' := by
  obtain ⟨wb, HW⟩ : ∃ wb, Hid (wb = (w.alloc (.cells #[.int .i64 r, .int .i64 c, .slice a n k] 24)).alloc (.cells #[.int .i64 r', .int .i64 c', .slice b m d] 24)) := ⟨_, rfl⟩
  have HB0 : Hid (Below w.heap.size w wb) := by rw [HW.out]; exact two_below (alloc_low _ _) (alloc_low _ _)
  have HA : Hid (Sl wb a n f) := ha.later HB0.out
  have HB : Hid (Sl wb b m h) := hb.later HB0.out
  clear ha hb
  cases g1 : (e == g) with
  | false =>
    obtain rfl : s = false := by rw [← HS.out, g1]; rfl
    clear HS
    go_enter Try.func22, Try.ntmps22
    go_wp2
    go_ret
    exact ⟨rfl, two_below (alloc_low _ _) (alloc_low _ _)⟩
  | true =>
    have HS2 : Hid (likeB r c r' c' n m f h = s) := by show _ = _; rw [← HS.out, g1]; rfl
    clear HS
    go_enter Try.func22, Try.ntmps22
    go_wp2_with (go_at_call 9; rw [← HW.out]; refine (like_exact _ _ _ _ _ _ _ _ _ _ _ f h HA.out HB.out).mono ?_; rw [HS2.out]; rintro o w1 ⟨rfl, hb1⟩; have HB1 : Hid (Below wb.heap.size wb w1) := hb1; clear hb1)
    go_ret
    exact ⟨rfl, two_below HB0.out HB1.out⟩
/-- A matrix as a list. -/
def lsm (A : Nat → Nat → Nat) (c q : Nat) : Nat := A (q / c) (q % c)
theorem lsm_at {A : Nat → Nat → Nat} {c i j : Nat} (hj : j < c) : lsm A c (i * c + j) = A i j := by unfold lsm; rw [dm1 hj, dm2 hj]
theorem prk_same {F G H : Nat → Nat} {ca cb p : Nat} (h : ∀ q, q < ca * cb → G q = H q) (hb : 0 < cb) : prk F G ca cb ca p = prk F H ca cb ca p := by
  unfold prk
  refine xs_congr fun t ht => ?_
  rw [h _ (by
    have h1 : p % cb < cb := Nat.mod_lt _ hb
    have h2 : (t + 1) * cb ≤ ca * cb := Nat.mul_le_mul_right cb ht
    rw [Nat.add_mul, Nat.one_mul] at h2
    omega)]
theorem inv_list {F : Nat → Nat} {c N : Nat} (hF : ∀ i, i < N → F i < 256) (R : Rt c c N) (hk : Rk (m2 F c c) c c) : ∃ X : Nat → Nat, (∀ q, q < N → X q < 256) ∧ ∀ i j, i < c → j < c → pr (m2 F c c) (m2 X c c) c i j = dl i j := by
  obtain ⟨A, hA, _, h2⟩ := inv_ex (m2_el hF R) (fun i j _ hj => m2_cut F hj) hk
  refine ⟨lsm A c, fun q _ => hA _ _, fun i j hi hj => ?_⟩
  rw [← h2 i j hi hj]
  exact xs_congr fun t ht => by rw [m2_at _ ht hj, lsm_at hj]
theorem sys_ans {w w' : World} {e : Ending} {r c n : Nat} {F X0 : Nat → Nat} (R : Rt r c n) (hcr : c ≤ r) (hF : ∀ i, i < n → F i < 256) (hk : Rk (m2 F c c) c c) (hX0 : ∀ q, q < c * c → X0 q < 256) (h0 : ∀ i j, i < c → j < c → pr (m2 F c c) (m2 X0 c c) c i j = dl i j) (h : SysP w w' e r c n F) : MAns w w' e r c n (prk F X0 c c c) 0 := by
  obtain ⟨g, X, he, hr, hX, hp, hg, hb⟩ := h
  have hlen : c * c ≤ n := by rw [← R.len]; exact Nat.mul_le_mul_right c hcr
  have hF2 : ∀ i, i < c * c → F i < 256 := fun i hi => hF i (by omega)
  have hs : ∀ q, q < c * c → X q = X0 q := inv_one hF2 hX hX0 ⟨R.c64, R.c64, rfl⟩ hk hp h0
  have hr2 : RowAt w' g 5 n (prk F X0 c c c) := hr.congr (fun p hp => prk_same hs (by
    have := R.len
    by_cases e : c = 0
    · subst e; omega
    · omega))
  exact mans_row (prk_all X0 hF R R) ⟨g, he, hr2, hg, hb⟩
theorem rsys_p (w : World) (r c n k : Nat) (a : Option Addr) (F : Nat → Nat) (ha : Mt w a n k F) (R : Rt r c n) (hcr : c ≤ r) (hk : Rk (m2 F c c) c c) :
    Calls Try.prog 6 #[mv r c a n k] w fun e w' => SysP w w' e r c n F := rsys_ok w r c n k a F ha R hcr hk
theorem sys_pair (r c : Int) (n : Nat) (F : Nat → Nat) (hF : ∀ i, i < n → F i < 256) : ∃ (R C : Int) (N : Nat) (f : Nat → Nat) (E : Int), ∀ (w : World) (k : Nat) (a : Option Addr), Mt w a n k F →
    Calls Try.prog 5 #[mv r c a n k] w (fun e w' => MAns w w' e R C N f E) ∧ Calls Try.prog 6 #[mv r c a n k] w (fun e w' => MAns w w' e R C N f E) := by
  by_cases h : RightP r c n ∧ c ≤ r
  · obtain ⟨h1, h2⟩ := h
    obtain ⟨ra, ca, rfl, rfl, R⟩ := right_rt h1
    have hcr : ca ≤ ra := by omega
    have hlen : ca * ca ≤ n := by rw [← R.len]; exact Nat.mul_le_mul_right ca hcr
    have hF2 : ∀ i, i < ca * ca → F i < 256 := fun i hi => hF i (by omega)
    have R2 : Rt ca ca (ca * ca) := ⟨R.c64, R.c64, rfl⟩
    have he := m2_el hF2 R2
    obtain ⟨t, ht⟩ := rk_ex he ca
    have htc : t ≤ ca := ht.le (Le.refl he ca)
    by_cases hq : t = ca
    · subst hq
      obtain ⟨X0, hX0, h0⟩ := inv_list hF2 R2 ht
      exact ⟨_, _, _, _, _, fun w k a ha => ⟨(bsys_ok w ra t n k a F ha R hcr ht).mono (fun _ _ h => sys_ans R hcr hF ht hX0 h0 h), (rsys_p w ra t n k a F ha R hcr ht).mono (fun _ _ h => sys_ans R hcr hF ht hX0 h0 h)⟩⟩
    · exact ⟨_, _, _, _, _, fun w k a ha => ⟨(bsys_sing w ra ca n k t a F ha R hcr ht (by omega)).mono (fun _ _ h => mans_bad h), (rsys_sing w ra ca n k t a F ha R hcr ht (by omega)).mono (fun _ _ h => mans_bad h)⟩⟩
  · exact ⟨_, _, _, _, _, fun w k a _ => ⟨(bsys_bad w r c n k a h).mono (fun _ _ h => mans_bad h), (rsys_bad w r c n k a h).mono (fun _ _ h => mans_bad h)⟩⟩
theorem cau_pair (n m : Nat) (X Y : Nat → Nat) : ∃ (R C : Int) (N : Nat) (f : Nat → Nat) (E : Int), ∀ (w : World) (k d : Nat) (a b : Option Addr), Mt w a n k X → Mt w b m d Y →
    Calls Try.prog 18 #[.slice a n k, .slice b m d] w (fun e w' => MAns w w' e R C N f E) ∧ Calls Try.prog 20 #[.slice a n k, .slice b m d] w (fun e w' => MAns w w' e R C N f E) := by
  by_cases h : 64 < n ∨ 64 < m
  · exact ⟨_, _, _, _, _, fun w k d a b _ _ => ⟨(bcau_limit w n m k d a b h).mono (fun _ _ h => mans_bad h), (rcau_limit w n m k d a b h).mono (fun _ _ h => mans_bad h)⟩⟩
  · by_cases hD : Dst X n Y m
    · exact ⟨_, _, _, _, _, fun w k d a b ha hb => ⟨(bcau_ok w n m _ k d a b X Y ha hb (by omega) (by omega) rfl hD).mono (fun _ _ h => mans_row (fun _ _ => finv_lt _) h), (rcau_ok w n m _ k d a b X Y ha hb (by omega) (by omega) rfl hD).mono (fun _ _ h => mans_row (fun _ _ => finv_lt _) h)⟩⟩
    · exact ⟨_, _, _, _, _, fun w k d a b ha hb => ⟨(bcau_dup w n m k d a b X Y ha hb (by omega) (by omega) hD).mono (fun _ _ h => mans_bad h), (rcau_dup w n m k d a b X Y ha hb (by omega) (by omega) hD).mono (fun _ _ h => mans_bad h)⟩⟩
theorem fits_nat {k m : Int} (h : FitsP k m) : ∃ a b : Nat, k = a ∧ m = b ∧ 1 ≤ a ∧ a + b ≤ 64 := by
  obtain ⟨h1, h2, h3, h4, h5⟩ := h
  exact ⟨k.toNat, m.toNat, by omega, by omega, by omega, by omega⟩
end Go.Proofs.Ytblfldjlehjnbab

namespace Go.Proofs.Ytblfldjlehjnbab
open Go.RowKit
/-- The generator of two data blocks and one more. -/
def gen3 (i : Nat) : Nat := if i = 0 then 1 else if i = 1 then 0 else if i = 2 then 0 else if i = 3 then 1 else if i = 4 then 3 else 2
theorem gen3_lt (i : Nat) : gen3 i < 256 := by
  unfold gen3
  split <;> (try decide)
  split <;> (try decide)
  split <;> (try decide)
  split <;> (try decide)
  split <;> (try decide)
theorem gen3_row (w : World) : RowAt (w.alloc (.cells #[.int .u8 1, .int .u8 0, .int .u8 0, .int .u8 1, .int .u8 3, .int .u8 2] 5)) w.heap.size 5 6 gen3 := by
  unfold RowAt
  rw [new_at]
  kernel_rfl
theorem vdm2_inv {X : Nat → Nat} (hX : ∀ q, q < 2 * 2 → X q < 256) (h : ∀ i j, i < 2 → j < 2 → pr (m2 (vdf 2) 2 2) (m2 X 2 2) 2 i j = dl i j) : ∀ q, q < 4 → X q = four 1 0 1 1 q := by
  refine inv_one (F := vdf 2) (r := 2) (n := 4) (fun i _ => vdf_lt 2 i) hX (fun i _ => four_lt (by decide) (by decide) (by decide) (by decide) i) rt22 (vdf_top (by omega)) h ?_
  intro i j hi hj
  rcases (by omega : i = 0 ∨ i = 1) with rfl | rfl <;> rcases (by omega : j = 0 ∨ j = 1) with rfl | rfl <;> kernel_rfl
theorem reed21 {X : Nat → Nat} (h : ∀ q, q < 4 → X q = four 1 0 1 1 q) : ∀ p, p < 6 → prk (vdf 2) X 2 2 2 p = gen3 p := by
  intro p hp
  rw [prk_same (G := X) (H := four 1 0 1 1) h (by omega)]
  rcases (by omega : p = 0 ∨ p = 1 ∨ p = 2 ∨ p = 3 ∨ p = 4 ∨ p = 5) with rfl | rfl | rfl | rfl | rfl | rfl <;> kernel_rfl
set_option maxRecDepth 20000 in
set_option maxHeartbeats 2000000 in
theorem anch5_any (w : World) : Calls Try.prog 7 #[] w fun e w' => e = .returned (.bool true) ∧ Below w.heap.size w w' := by
  obtain ⟨f, HF⟩ : ∃ f, Hid (gen3 = f) := ⟨_, rfl⟩
  have HRd : Hid (∀ w : World, Calls Try.prog 31 #[.int .i64 2, .int .i64 1] w fun e w' => ∃ g, e = .returned (.tuple #[mv 3 2 (some ⟨g, 0, none⟩) 6 6, .int .i64 0]) ∧ Mt w' (some ⟨g, 0, none⟩) 6 6 f ∧ Below w.heap.size w w') := fun w => by
    refine (breed_ok w 2 1 6 (by omega) (by omega) rfl).mono (fun e w' h => ?_)
    obtain ⟨g, X, he, hr, hX, hp, hg, hb⟩ := h
    refine ⟨g, he, ?_, hb⟩
    rw [← HF.out]
    exact (hr.congr (reed21 (vdm2_inv hX hp))).mt (fun i _ => gen3_lt i)
  have HG : Hid (∀ w : World, Mt (w.alloc (.cells #[.int .u8 1, .int .u8 0, .int .u8 0, .int .u8 1, .int .u8 3, .int .u8 2] 5)) (some ⟨w.heap.size, 0, none⟩) 6 6 f) := fun w => by
    rw [← HF.out]
    exact (gen3_row w).mt (fun i _ => gen3_lt i)
  go_enter Try.func7, Try.ntmps7
  go_wp2_with (first
    | (go_at_call 31; refine (HRd.out _).mono ?_; rintro e w1 ⟨g1, rfl, hm1, hb1⟩; have HM1 : Hid (Mt (w1.alloc (.cells #[.int .i64 3, .int .i64 2, .slice (some ⟨g1, 0, none⟩) 6 6] 24)) (some ⟨g1, 0, none⟩) 6 6 f) := hm1.later (alloc_low _ _); have HB1 : Hid (Below w.heap.size w (w1.alloc (.cells #[.int .i64 3, .int .i64 2, .slice (some ⟨g1, 0, none⟩) 6 6] 24))) := two_below hb1 (alloc_low _ _); have hv := Vr.new w1 (.int .i64 3) (.int .i64 2) (.slice (some ⟨g1, 0, none⟩) 6 6); have c0 := hv.c0; have c1 := hv.c1; have c2 := hv.c2; have HG2 := HG.out (w1.alloc (.cells #[.int .i64 3, .int .i64 2, .slice (some ⟨g1, 0, none⟩) 6 6] 24)); rw [World.size_alloc] at HG2; have HG3 : Hid (Mt ((w1.alloc (.cells #[.int .i64 3, .int .i64 2, .slice (some ⟨g1, 0, none⟩) 6 6] 24)).alloc (.cells #[.int .u8 1, .int .u8 0, .int .u8 0, .int .u8 1, .int .u8 3, .int .u8 2] 5)) (some ⟨w1.heap.size + 1, 0, none⟩) 6 6 f) := HG2; clear hm1 hb1 hv HG2)
    | (go_at_call 9; refine (like_ans _ _ _ _ _ 6 _ _ f f (HM1.out.later (alloc_low _ _)) HG3.out (fun _ _ => rfl)).mono ?_; rintro e w2 ⟨rfl, hb2⟩; have HB2 : Hid (Below w.heap.size w w2) := two_below (two_below HB1.out (alloc_low _ _)) hb2; clear hb2))
  go_ret
  exact ⟨rfl, HB2.out⟩
end Go.Proofs.Ytblfldjlehjnbab

namespace Go.Proofs.Ytblfldjlehjnbab
open Go.RowKit
theorem m2_cau (X Y : Nat → Nat) (n m : Nat) : m2 (cauf X Y m) n m = cau X Y n m := funext fun i => funext fun j => by
  unfold m2 cau
  by_cases h : i < n ∧ j < m
  · rw [if_pos h, if_pos h, cauf_at h.2]
  · rw [if_neg h, if_neg h]
theorem Dst.x {X Y : Nat → Nat} {n m : Nat} (h : Dst X n Y m) : ∀ i j, i < n → j < n → X i = X j → i = j := fun i j hi hj e => by
  have st : ∀ t, t < n → stf X Y n t = X t := fun t ht => if_pos ht
  rcases Nat.lt_trichotomy i j with hl | hl | hl
  · exact absurd (by rw [st j hj, st i hi, e]) (h j i (by omega) hl)
  · exact hl
  · exact absurd (by rw [st j hj, st i hi, e]) (h i j (by omega) hl)
theorem Dst.y {X Y : Nat → Nat} {n m : Nat} (h : Dst X n Y m) : ∀ i j, i < m → j < m → Y i = Y j → i = j := fun i j hi hj e => by
  have st : ∀ t, stf X Y n (n + t) = Y t := fun t => by unfold stf; rw [if_neg (by omega)]; congr 1; omega
  rcases Nat.lt_trichotomy i j with hl | hl | hl
  · exact absurd (by rw [st j, st i, e]) (h (n + j) (n + i) (by omega) (by omega))
  · exact hl
  · exact absurd (by rw [st j, st i, e]) (h (n + i) (n + j) (by omega) (by omega))
theorem Dst.xy {X Y : Nat → Nat} {n m : Nat} (h : Dst X n Y m) : ∀ i j, i < n → j < m → X i ≠ Y j := fun i j hi hj e => by
  have s1 : stf X Y n i = X i := if_pos hi
  have s2 : stf X Y n (n + j) = Y j := by unfold stf; rw [if_neg (by omega)]; congr 1; omega
  exact h (n + j) i (by omega) (by omega) (by rw [s1, s2, e])
theorem cau_rk5 {X Y : Nat → Nat} {n m : Nat} (hX : ∀ i, i < n → X i < 256) (hY : ∀ i, i < m → Y i < 256) (h : Dst X n Y m) : Rk (m2 (cauf X Y m) n m) n (min n m) := by
  rw [m2_cau]
  exact cau_rk hX hY h.x h.y h.xy
theorem finv_fm {u : Nat} (h : u < 256) (h0 : u ≠ 0) : fm (finv u) u = 1 := by rw [fm_comm _ _ (finv_lt _) h]; exact fm_finv u h h0
end Go.Proofs.Ytblfldjlehjnbab

namespace Go.Proofs.Ytblfldjlehjnbab
open Go.RowKit
/-- Two places are exchanged. -/
def swq (q : Nat → Nat) (a b p : Nat) : Nat := if p = b then q a else if p = a then q b else q p
/-- All numbers below n, each once. -/
def Prm (q : Nat → Nat) (n : Nat) : Prop := (∀ i, i < n → q i < n) ∧ ∀ i j, i < n → j < n → q i = q j → i = j
theorem Prm.swq {q : Nat → Nat} {n a b : Nat} (h : Prm q n) (ha : a < n) (hb : b < n) : Prm (swq q a b) n := by
  refine ⟨fun i hi => ?_, fun i j hi hj e => ?_⟩
  · unfold Proofs.Ytblfldjlehjnbab.swq
    split
    · exact h.1 a ha
    · split
      · exact h.1 b hb
      · exact h.1 i hi
  · have hv : ∀ x, x < n → Proofs.Ytblfldjlehjnbab.swq q a b x = q (if x = b then a else if x = a then b else x) := fun x _ => by
      unfold Proofs.Ytblfldjlehjnbab.swq
      split
      · rfl
      · split
        · rfl
        · rfl
    have hl : ∀ x, x < n → (if x = b then a else if x = a then b else x) < n := fun x hx => by
      split
      · exact ha
      · split
        · exact hb
        · exact hx
    rw [hv i hi, hv j hj] at e
    have := h.2 _ _ (hl i hi) (hl j hj) e
    split at this <;> (try split at this) <;> (try split at this) <;> (try split at this) <;> omega
theorem swq_steps (q : Nat → Nat) (a b t : Nat) : (if t = b then q a else if t = a then q b else q t) = swq q a b t := rfl
def upi (q p : Nat) : Nat := if p < q then p else 0
set_option maxRecDepth 20000 in
set_option maxHeartbeats 2000000 in
theorem chosen_any (w : World) (k m n c N : Nat) (a : Option Addr) (T : Nat → Nat) (ha : Sl w a n T) (hn : n ≤ 140737488351232) (HN : Hid (k + m = N)) (hN : N ≤ 64) (h0 : 0 < N ∨ n = 0) :
    Calls Try.prog 14 #[.int .i64 (k : Int), .int .i64 (m : Int), .slice a n c] w fun e w' => ∃ g q, e = .returned (.slice (some ⟨g, 0, none⟩) k N) ∧ IRowAt w' g N q ∧ Prm q N ∧ (n = 0 → ∀ i, i < N → q i = i) ∧ w.heap.size ≤ g ∧ Below w.heap.size w w' := by
  obtain ⟨i0, hi0, hz0, hz1, hz2⟩ := info_parts infoI
  have hkm := HN.out
  have hml : N ≤ maxLen := by unfold maxLen; omega
  have e0 : IntKind.i64.wrap ((k : Int) + (m : Int)) = (N : Int) := by rw [IntKind.wrap_i64]; omega
  have HA : Hid (Sl w a n T) := ha
  clear ha
  go_enter Try.func14, Try.ntmps14
  go_wp2_with (at_make; refine wpList_make_full _ rfl _ _ 33 rfl w.heap.size 3 i0 (.int .i64 0) 1 Try.underlying33 hi0 hz0 hz1 .i64 .i64 _ _ N rfl rfl rfl rfl (by rw [hz2]; omega) hml (Nat.le_refl _) ?_; intro w1 hown hgrow; have HO : Hid (IRowAt w1 w.heap.size N (fun _ => 0)) := made_iat hown; have HB : Hid (Below w.heap.size w w1) := grown_none.mp hgrow; clear hown hgrow)
  go_loopw [8] (fun si wr => ∃ i : Nat, i ≤ N ∧ si = .int .i64 (i : Int) ∧ IRowAt wr w.heap.size N (upi i) ∧ Below w.heap.size w wr) (fun si _ => N - (intOf si).toNat)
  case atStart => exact ⟨0, by omega, rfl, HO.out.congr (fun p _ => by unfold upi; rw [if_neg (by omega)]), HB.out⟩
  case round =>
    clear HO HB
    obtain ⟨i, hi, rfl, hr, hb⟩ := hrel
    have HR : Hid (IRowAt wr w.heap.size N (upi i)) := hr
    have HB : Hid (Below w.heap.size w wr) := hb
    clear hr hb
    by_cases hlt : i < N
    · have hc := HR.out.cell i hlt
      have hf := HR.out.free i
      have q0 : (0 : Int) ≤ (i : Int) := by omega
      have q1 : (i : Int) < (N : Int) := by omega
      go_wp2
      refine ⟨⟨i + 1, by omega, by go_num, (HR.out.set i i).congr (fun p _ => ?_), HB.out.setCell (Nat.le_refl _) _⟩, by simp [intOf]; omega⟩
      unfold upi
      by_cases e : p = i
      · rw [if_pos e, if_pos (by omega), e]
      · rw [if_neg e]
        by_cases e2 : p < i
        · rw [if_pos e2, if_pos (by omega)]
        · rw [if_neg e2, if_neg (by omega)]
    · obtain rfl : i = N := by omega
      have HR0 : Hid (IRowAt wr w.heap.size i (fun p => p)) := HR.out.congr (fun p hp => by unfold upi; rw [if_pos hp])
      clear HR
      go_wp2
      go_loopw [9, 10, 11] (fun si _ _ wr => ∃ (t : Nat) (q : Nat → Nat), t ≤ n + 1 ∧ si = .int .i64 (t : Int) ∧ IRowAt wr w.heap.size i q ∧ Prm q i ∧ (n = 0 → ∀ p, p < i → q p = p) ∧ Below w.heap.size w wr) (fun si _ _ _ => n + 1 - (intOf si).toNat)
      case atStart => exact ⟨0, fun p => p, by omega, rfl, HR0.out, ⟨fun _ h => h, fun _ _ _ _ e => e⟩, fun _ _ _ => rfl, HB.out⟩
      case round =>
        clear HR0 HB
        obtain ⟨t, q, ht, rfl, hr, hp, hz, hb⟩ := hrel
        have HR : Hid (IRowAt wr w.heap.size i q) := hr
        have HP : Hid (Prm q i) := hp
        have HZ : Hid (n = 0 → ∀ p, p < i → q p = p) := hz
        have HB : Hid (Below w.heap.size w wr) := hb
        clear hr hp hz hb
        have w1' : IntKind.i64.wrap ((t : Int) + 1) = (t : Int) + 1 := by rw [IntKind.wrap_i64]; omega
        by_cases hlt2 : t + 1 < n
        · obtain ⟨b1, o1, e1, hc1⟩ := (HA.out.later HB.out).2 t (by omega)
          obtain ⟨b2, o2, e2, hc2⟩ := (HA.out.later HB.out).2 (t + 1) hlt2
          have x8 := HA.out.1 t (by omega)
          have y8 := HA.out.1 (t + 1) hlt2
          subst e1
          cases e2
          obtain ⟨x, HX⟩ : ∃ x, Hid (T t = x) := ⟨_, rfl⟩
          obtain ⟨y, HY⟩ : ∃ x, Hid (T (t + 1) = x) := ⟨_, rfl⟩
          rw [HX.out] at hc1 x8
          rw [HY.out] at hc2 y8
          obtain ⟨xa, HXa⟩ : ∃ z, Hid (x % i = z) := ⟨_, rfl⟩
          obtain ⟨xb, HXb⟩ : ∃ z, Hid (y % i = z) := ⟨_, rfl⟩
          have hi0' : 0 < i := by omega
          have hxa : xa < i := by rw [← HXa.out]; exact Nat.mod_lt _ hi0'
          have hxb : xb < i := by rw [← HXb.out]; exact Nat.mod_lt _ hi0'
          have m1 : (x : Int).tmod (i : Int) = (xa : Int) := by rw [← HXa.out]; rfl
          have m2 : (y : Int).tmod (i : Int) = (xb : Int) := by rw [← HXb.out]; rfl
          have nz : ¬ (i : Int) = 0 := by omega
          have q0 : (0 : Int) ≤ (t : Int) := by omega
          have q1 : (t : Int) < (n : Int) := by omega
          have q2 : (0 : Int) ≤ (t : Int) + 1 := by omega
          have q3 : (t : Int) + 1 < (n : Int) := by omega
          have q4 : ((t : Int) + 1).toNat = t + 1 := by omega
          have q5 : (0 : Int) ≤ (xa : Int) := by omega
          have q6 : (xa : Int) < (i : Int) := by omega
          have q7 : (0 : Int) ≤ (xb : Int) := by omega
          have q8 : (xb : Int) < (i : Int) := by omega
          have ca := HR.out.cell xa hxa
          have cb := HR.out.cell xb hxb
          have fa := HR.out.free xa
          have fb := HR.out.free xb
          obtain ⟨va, HVa⟩ : ∃ z, Hid (q xa = z) := ⟨_, rfl⟩
          obtain ⟨vb, HVb⟩ : ∃ z, Hid (q xb = z) := ⟨_, rfl⟩
          rw [HVa.out] at ca
          rw [HVb.out] at cb
          have HR1 : Hid (IRowAt (wr.setCell ⟨w.heap.size, xa, none⟩ (.int .i64 (vb : Int))) w.heap.size i (fun p => if p = xa then vb else q p)) := HR.out.set xa vb
          obtain ⟨vc, HVc⟩ : ∃ z, Hid ((if xb = xa then vb else q xb) = z) := ⟨_, rfl⟩
          have cb2 := HR1.out.cell xb hxb
          rw [HVc.out] at cb2
          have fb2 := HR1.out.free xb
          go_wp2
          go_region
          go_wp2
          go_region
          go_wp2
          refine ⟨⟨t + 2, swq q xa xb, by omega, by go_num, (HR1.out.set xb va).congr (fun p _ => ?_), HP.out.swq hxa hxb, fun e => by omega, ((HB.out.setCell (Nat.le_refl _) _).setCell (Nat.le_refl _) _).drew.drew⟩, by simp [intOf]; omega⟩
          unfold swq
          rw [HVa.out, HVb.out]
        · go_wp2
          go_ret
          exact ⟨_, q, rfl, HR.out, HP.out, HZ.out, Nat.le_refl _, HB.out⟩
end Go.Proofs.Ytblfldjlehjnbab

namespace Go.Proofs.Ytblfldjlehjnbab
open Go.RowKit
theorem il_le {w : World} {b : Option Addr} {m n : Nat} {q : Nat → Int} (h : Il w b n q) (hm : m ≤ n) : Il w b m q := fun i hi => h i (by omega)
theorem m2_pick5 {F q : Nat → Nat} {k r n i : Nat} (R : Rt r k n) (hq : ∀ i, i < k → q i < r) (hi : i < k) : m2 (pkf F q k) k k i = m2 F r k (q i) := funext fun j => by
  have _ := R
  by_cases hj : j < k
  · rw [m2_at _ hi hj, m2_at _ (hq i hi) hj, pkf_at F q k i j hj]
  · rw [m2_cut _ (by omega), m2_cut _ (by omega)]
theorem pkf_el {F q : Nat → Nat} {k r n : Nat} (hF : ∀ i, i < n → F i < 256) (R : Rt r k n) (hq : ∀ i, i < k → q i < r) : ∀ p, p < k * k → pkf F q k p < 256 := fun p hp => by
  obtain ⟨i, j, hi, hj, rfl⟩ := place_of (r := k) (c := k) ⟨R.c64, R.c64, rfl⟩ hp
  rw [pkf_at F q k i j hj]
  exact hF _ (R.at (hq i hi) hj)
theorem any_rk {F q : Nat → Nat} {k r n : Nat} (hF : ∀ i, i < n → F i < 256) (R : Rt r k n) (hq : ∀ i, i < k → q i < r) (h : ∀ x, El x → (∀ i, i < k → dt (m2 F r k (q i)) x k = 0) → ∀ j, j < k → x j = 0) : Rk (m2 (pkf F q k) k k) k k :=
  rk_of_ker (m2_el (pkf_el hF R hq) ⟨R.c64, R.c64, rfl⟩) (fun i j _ hj => m2_cut _ hj) (fun x hx h0 => h x hx (fun i hi => by rw [← m2_pick5 R hq hi]; exact h0 i hi))
theorem m2_top {F : Nat → Nat} {k r i : Nat} (hkr : k ≤ r) (hi : i < k) : m2 F r k i = m2 F k k i := funext fun j => by
  by_cases hj : j < k
  · rw [m2_at _ (by omega) hj, m2_at _ hi hj]
  · rw [m2_cut _ (by omega), m2_cut _ (by omega)]
/-- Any k rows of Reed. -/
theorem any_reed {X q : Nat → Nat} {k r n : Nat} (R : Rt r k n) (hkr : k ≤ r) (hX : ∀ p, p < k * k → X p < 256) (hI : ∀ i j, i < k → j < k → pr (m2 (vdf k) k k) (m2 X k k) k i j = dl i j) (hq : ∀ i, i < k → q i < r) (hj : ∀ i j, i < k → j < k → q i = q j → i = j) : Rk (m2 (pkf (prk (vdf k) X k k k) q k) k k) k k := by
  have hv : ∀ (N : Nat) (i : Nat), i < N → vdf k i < 256 := fun _ i _ => vdf_lt k i
  have r64 := R.r64
  refine any_rk (prk_all X (hv n) R R) R hq (fun x hx h0 => ?_)
  have h1 : ∀ i, i < k → m2 (prk (vdf k) X k k k) r k (q i) = pr (m2 (vdf k) r k) (m2 X k k) k (q i) := fun i hi => funext fun j => m2_prk _ _ _ _ (hq i hi)
  refine sys_ker (V := m2 (vdf k) r k) (X := m2 X k k) (q := q) (m2_el (hv n) R) (m2_el hX ⟨R.c64, R.c64, rfl⟩) ?_ ?_ hx (fun i hi => by rw [← h1 i hi]; exact h0 i hi)
  · intro y hy h2
    exact vdm_ker (q := q) (fun i hi => by have := hq i hi; omega) hj hy (fun i hi => by rw [← vdf_m2 (hq i hi)]; exact h2 i hi)
  · intro i j hi hj'
    rw [← hI i j hi hj']
    show lc _ _ _ _ = lc _ _ _ _
    rw [m2_top hkr hi]
theorem crf_at {k i j : Nat} (hj : j < k) : crf k (i * k + j) = crs k i j := by
  unfold crf stf crs
  by_cases hi : i < k
  · have : i * k + j < k * k := Nat.lt_of_lt_of_le (show i * k + j < (i + 1) * k by rw [Nat.add_mul, Nat.one_mul]; omega) (Nat.mul_le_mul_right k hi)
    rw [if_pos this, if_pos hi, idf_at k i j hi hj]
    unfold dl
    by_cases e : i = j
    · rw [if_pos e, if_pos e.symm]
    · rw [if_neg e, if_neg (Ne.symm e)]
  · have h1 : k * k ≤ i * k := Nat.mul_le_mul_right k (by omega)
    rw [if_neg (by omega), if_neg hi]
    have h2 : i * k + j - k * k = (i - k) * k + j := by rw [Nat.sub_mul]; omega
    rw [h2, cauf_at hj]
    congr 2
    omega
theorem crf_lt (k p : Nat) : crf k p < 256 := by
  unfold crf stf
  split
  · exact idf_lt _ _
  · exact finv_lt _
/-- Any k rows of Cross. -/
theorem any_cross {q : Nat → Nat} {k r n : Nat} (R : Rt r k n) (hq : ∀ i, i < k → q i < r) (hj : ∀ i j, i < k → j < k → q i = q j → i = j) : Rk (m2 (pkf (crf k) q k) k k) k k := by
  have r64 := R.r64
  have k64 := R.c64
  refine any_rk (fun i _ => crf_lt k i) R hq (fun x hx h0 => ?_)
  refine crs_ker (n := r) (q := q) (by omega) (by omega) hq hj hx (fun i hi => ?_)
  rw [← h0 i hi]
  exact dt_congr (fun j hj' => by rw [m2_at _ (hq i hi) hj', crf_at hj'])
theorem first_cross {k : Nat} {q : Nat → Nat} (hk : k ≤ 64) (hq : ∀ i, i < k → q i = i) : ∀ p, p < k * k → pkf (crf k) q k p = idf k p := fun p hp => by
  obtain ⟨i, j, hi, hj, rfl⟩ := place_of (r := k) (c := k) ⟨hk, hk, rfl⟩ hp
  rw [pkf_at _ q k i j hj, hq i hi, crf_at hj, idf_at k i j hi hj]
  unfold crs dl
  rw [if_pos hi]
  by_cases e : i = j
  · rw [if_pos e.symm, if_pos e]
  · rw [if_neg (Ne.symm e), if_neg e]
theorem first_sys {F X : Nat → Nat} {k : Nat} {q : Nat → Nat} (hk : k ≤ 64) (hI : ∀ i j, i < k → j < k → pr (m2 F k k) (m2 X k k) k i j = dl i j) (hq : ∀ i, i < k → q i = i) : ∀ p, p < k * k → pkf (prk F X k k k) q k p = idf k p := fun p hp => by
  obtain ⟨i, j, hi, hj, rfl⟩ := place_of (r := k) (c := k) ⟨hk, hk, rfl⟩ hp
  rw [pkf_at _ q k i j hj, hq i hi, idf_at k i j hi hj]
  have h1 := m2_prk F X (ra := k) (ca := k) (cb := k) i j hi
  rw [m2_at _ hi hj, hI i j hi hj] at h1
  rw [h1]
  unfold dl
  by_cases e : i = j
  · rw [if_pos e.symm, if_pos e]
  · rw [if_neg (Ne.symm e), if_neg e]
end Go.Proofs.Ytblfldjlehjnbab

namespace Go.Proofs.Ytblfldjlehjnbab
open Go.RowKit
theorem chk_iff {F G H p Y : Nat → Nat} {r c top kr : Nat} (hR : Rdf (m2 G c r) c top p) (hS : SpEq (m2 G c r) c (m2 (trf F r c) c r) c) (hp : ∀ i, i < top → p i < r) (ek : kr = cnt (fre p top) r) (hH : ∀ u l, u < kr → l < r → H (u * r + l) = kv (m2 G c r) p top (nth (fre p top) r u) l) (hY : ∀ i, i < r → Y i < 256) :
    (∀ u, u < kr → apf H Y r u = 0) ↔ Spn (m2 (trf F r c) c r) c (ext0 Y r) := by
  have hE : El2 (m2 G c r) := el_span hS
  have hd : ∀ u, u < kr → apf H Y r u = dt (kv (m2 G c r) p top (nth (fre p top) r u)) (ext0 Y r) r := fun u hu => xs_congr fun l hl => by
    rw [hH u l hu hl]
    unfold ext0
    rw [if_pos hl]
  constructor
  · intro h
    have h1 : Spn (m2 G c r) c (ext0 Y r) := chk_span hE hR hp (fun i j _ hj => m2_cut G hj) (ext0_el hY) (fun j hj => if_neg (by omega)) (fun f hf hpf => by
      have hfr : fre p top f = true := by unfold fre; rw [hpf]; rfl
      have hu : cnt (fre p top) f < kr := by rw [ek]; exact cnt_lt hf hfr
      have := h _ hu
      rw [hd _ hu, nth_cnt hf hfr] at this
      exact this)
    exact h1.trans hS.1
  · intro h u hu
    rw [hd u hu]
    obtain ⟨h1, h2, _⟩ := nth_spec (fre p top) r u (by rw [← ek]; exact hu)
    exact chk_span' hE hR hp (h.trans hS.2) h1 (by
      have h3 : (!pvt p top (nth (fre p top) r u)) = true := h2
      simpa using h3)
theorem apf_spn {F D : Nat → Nat} {r c n : Nat} (hF : ∀ i, i < n → F i < 256) (R : Rt r c n) (hD : ∀ i, i < c → D i < 256) : Spn (m2 (trf F r c) c r) c (ext0 (apf F D c) r) := by
  refine ⟨ext0 D c, ext0_el hD, fun j => ?_⟩
  unfold ext0
  by_cases hj : j < r
  · rw [if_pos hj]
    refine xs_congr fun t ht => ?_
    dsimp only
    rw [if_pos ht, m2_trf F t j ht hj, m2_at _ hj ht, fm_comm _ _ (hF _ (R.at hj ht)) (hD t ht)]
  · rw [if_neg hj]
    refine (xs_zero fun t ht => ?_).symm
    rw [m2_cut _ (by omega)]
    exact fm_zero _
/-- A list spoilt up to a place. -/
def spo (Y S : Nat → Nat) (t p : Nat) : Nat := if p < t then Y p ^^^ S p else Y p
theorem spo_step (Y S : Nat → Nat) (t p : Nat) : (if p = t then spo Y S t t ^^^ S t else spo Y S t p) = spo Y S (t + 1) p := by
  unfold spo
  by_cases e : p = t
  · subst e
    rw [if_pos rfl, if_neg (by omega), if_pos (by omega)]
  · rw [if_neg e]
    by_cases h : p < t
    · rw [if_pos h, if_pos (by omega)]
    · rw [if_neg h, if_neg (by omega)]
theorem spo_lt {Y S : Nat → Nat} {r l t : Nat} (hY : ∀ i, i < r → Y i < 256) (hS : ∀ i, i < l → S i < 256) (ht : t ≤ l) : ∀ i, i < r → spo Y S t i < 256 := fun i hi => by
  unfold spo
  split
  · exact xor_lt _ _ (hY i hi) (hS i (by omega))
  · exact hY i hi
theorem same_zero_no {kr : Nat} {f : Nat → Nat} (h : ¬ ∀ u, u < kr → f u = 0) : sameB kr kr f (fun _ => 0) = false := by
  unfold sameB
  exact decide_eq_false (fun x => h x.2)
theorem same_zero_yes {kr : Nat} {f : Nat → Nat} (h : ∀ u, u < kr → f u = 0) : sameB kr kr f (fun _ => 0) = true := by
  unfold sameB
  exact decide_eq_true ⟨rfl, h⟩
end Go.Proofs.Ytblfldjlehjnbab
