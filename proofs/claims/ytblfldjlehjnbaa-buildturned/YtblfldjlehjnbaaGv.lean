/-
  Contracts of the program's build: Systematic.
  Contracts of the program's build: Reed, Cross, Check.
  Contracts of the program's build: Check.
  What the laws about generators ask: two answers are alike; the program's answers and the document's, in pairs.
  What both MDS and the laws about rows need: rows picked, what the checks send to nothing.
-/
import Derived.Test.YtblfldjlehjnbaaGu
import Derived.Test.YtblfldjlehjnbaaGn
import Derived.Test.YtblfldjlehjnbaaGo
import Derived.Test.YtblfldjlehjnbaaGb
import Derived.Test.YtblfldjlehjnbaaGp
namespace Go.Proofs.Ytblfldjlehjnbaa
open Go.RowKit
theorem Mt.congr {w : World} {a : Option Addr} {n k : Nat} {F G : Nat → Nat} (h : Mt w a n k F) (e : ∀ i, i < n → F i = G i) : Mt w a n k G := ⟨h.sl.congr e, h.room, h.nil⟩
theorem pk_top {F : Nat → Nat} {c q : Nat} : pkf F (fun i => 0 + i) c q = F q := by
  unfold pkf
  dsimp only
  rw [Nat.zero_add]
  congr 1
  rw [Nat.mul_comm]
  exact Nat.div_add_mod q c
theorem Rk.uniq {A : Nat → Nat → Nat} {r s t : Nat} (h : Rk A r s) (hA : El2 A) (h2 : Rk A r t) : s = t := h.unique h2 (SpEq.refl hA r)
theorem top_el {w : World} {r c n k : Nat} {a : Option Addr} {F : Nat → Nat} (ha : Mt w a n k F) (R : Rt r c n) (hcr : c ≤ r) : El2 (m2 F c c) :=
  m2_el (fun i hi => ha.sl.1 i (by have := Nat.mul_le_mul_right c hcr; have := R.len; omega)) ⟨R.c64, R.c64, rfl⟩
/-- What Systematic answers. -/
def SysP (w w' : World) (e : Ending) (r c n : Nat) (F : Nat → Nat) : Prop := ∃ g X, e = .returned (.tuple #[mv r c (some ⟨g, 0, none⟩) n n, .int .i64 0]) ∧ RowAt w' g 5 n (prk F X c c c) ∧ (∀ q, q < c * c → X q < 256) ∧ (∀ i j, i < c → j < c → pr (m2 F c c) (m2 X c c) c i j = dl i j) ∧ w.heap.size ≤ g ∧ Below w.heap.size w w'
set_option maxRecDepth 20000 in
set_option maxHeartbeats 4000000 in
theorem bsys_x (w : World) (r c n k : Nat) (a : Option Addr) (F : Nat → Nat) (ha : Mt w a n k F) (R : Rt r c n) (hcr : c ≤ r) :
    Calls Try.prog 18 #[mv r c a n k] w fun e w' => (SysP w w' e r c n F ∧ Rk (m2 F c c) c c) ∨ (e = .returned (.tuple #[mv 0 0 none 0 0, .int .i64 6]) ∧ Below w.heap.size w w' ∧ ∃ t, t < c ∧ Rk (m2 F c c) c t) := by
  obtain ⟨wb, HW, HX⟩ : ∃ wb, Hid (wb = (w.alloc (.cells #[.int .i64 (r : Int), .int .i64 (c : Int), .slice a n k] 24)).alloc (.cells #[.int .i64 0, .int .i64 0, .slice none 0 0] 24)) ∧ Hid (Box2 w wb r c n k a) := ⟨_, rfl, box2 w r c n k a⟩
  obtain ⟨N, HN⟩ : ∃ N, Hid (c * c = N) := ⟨_, rfl⟩
  have HA : Hid (Mt w a n k F) := ha
  have HR : Hid (Rt r c n) := R
  have HC : Hid (Rt c c N) := ⟨R.c64, R.c64, HN.out⟩
  have HCr : Hid (c ≤ r) := hcr
  have hcl : (c : Int) ≤ (r : Int) := by omega
  have HCl : Hid ((c : Int) ≤ (r : Int)) := hcl
  have hc2 : c ≤ 64 := R.c64
  have hc1 : c ≤ 1000 := by omega
  have HC0 : Hid (Hid (0 + c = c)) := hid_of (hid_of (Nat.zero_add c))
  have hNn : N ≤ n := by rw [← HN.out, ← R.len]; exact Nat.mul_le_mul_right c hcr
  have HPk : Hid (∀ i, i < N → pkf F (fun i => 0 + i) c i < 256) := fun i hi => by rw [pk_top]; exact ha.sl.1 i (by omega)
  have HPq : Hid (∀ i, i < N → pkf F (fun i => 0 + i) c i = F i) := fun i _ => pk_top
  have v0 := HX.out.va.c0
  have v1 := HX.out.va.c1
  have v2 := HX.out.va.c2
  have hwb : w.heap.size + 1 < wb.heap.size := HX.out.vr.lt
  clear ha R hcl
  go_enter Try.func18, Try.ntmps18
  go_wp2_with (go_at_call 53; rw [← HW.out]; refine (tall_yes _ _ _ _ _ _ HR.out.p HCl.out).mono ?_; rintro e w1 ⟨rfl, hb1⟩; have HB1 : Hid (Below wb.heap.size wb w1) := hb1; clear hb1)
  refine Code.wp_mono (Q := fun ex a' x4 => ex = .normal ∧ ∃ (b4 g4 : Nat) (s3 : Option Addr) (d3 : Nat), a' = { tmps := #[mv (r : Int) (c : Int) a n k, .pointer (some ⟨w.heap.size, 0, none⟩), .pointer (some ⟨w.heap.size + 1, 0, none⟩), .int .i64 0, .pointer (some ⟨b4, 0, none⟩), .int .i64 0, undef, undef, .agg #[.int .i64 (r : Int), .int .i64 (c : Int), .slice a n k], .bool true, .bool false, undef, .tuple #[mv (c : Int) (c : Int) (some ⟨g4, 0, none⟩) N N, .int .i64 0], .agg #[.int .i64 (r : Int), .int .i64 (c : Int), .slice a n k], .pointer (some ⟨w.heap.size, 1, none⟩), .int .i64 (c : Int), .slice s3 c d3, .tuple #[mv (c : Int) (c : Int) (some ⟨g4, 0, none⟩) N N, .int .i64 0], mv (c : Int) (c : Int) (some ⟨g4, 0, none⟩) N N, .int .i64 0, undef, undef, undef, undef, undef, undef, undef, undef, undef, undef, undef, undef, undef, undef], defers := [] } ∧ Vr x4 b4 (.int .i64 (c : Int)) (.int .i64 (c : Int)) (.slice (some ⟨g4, 0, none⟩) N N) ∧ Mt x4 (some ⟨g4, 0, none⟩) N N F ∧ Below wb.heap.size wb x4) ?tail ?reg
  case reg =>
    refine wp_region_held (S := fun w' => w'.cell? ⟨w.heap.size, 0, none⟩ = some (.int .i64 (r : Int)) ∧ w'.cell? ⟨w.heap.size, 1, none⟩ = some (.int .i64 (c : Int)) ∧ w'.cell? ⟨w.heap.size, 2, none⟩ = some (.slice a n k)) (by kernel_rfl) ?_
    change wpAnyH _ _ _ _ _ _ _ _ (World.drew _)
    obtain ⟨x0, HX0⟩ : ∃ x, Hid (x = w1.drew) := ⟨_, rfl⟩
    rw [← HX0.out]
    have HB_x0 : Hid (Below wb.heap.size wb x0) := by rw [HX0.out]; exact HB1.out.drew
    have HD_x0 : Hid (x0.cell? ⟨w.heap.size, 0, none⟩ = some (.int .i64 (r : Int)) ∧ x0.cell? ⟨w.heap.size, 1, none⟩ = some (.int .i64 (c : Int)) ∧ x0.cell? ⟨w.heap.size, 2, none⟩ = some (.slice a n k)) := ⟨(HX.out.va.later HB_x0.out).c0, (HX.out.va.later HB_x0.out).c1, (HX.out.va.later HB_x0.out).c2⟩
    refine wpAnyH_take (i := 0) (v := ?va0) rfl (by kernel_rfl) (by kernel_rfl) (by kernel_rfl) (fun _ _ _ h => by cases h.1) (Or.inl ⟨by rfl, ?ya0⟩) HD_x0.out ?za0
    case ya0 => (intro w hSw; (try dsimp only at hSw); go_simp; try with_reducible rfl)
    try simp only [List.getElem_toArray, List.getElem_cons_zero, Act.put, List.setIfInBounds_toArray, List.set_cons_zero, List.set_cons_succ]
    refine wpAnyH_take (i := 1) (v := ?va1) rfl (by kernel_rfl) (by kernel_rfl) (by kernel_rfl) (fun _ _ _ h => by cases h.1) (Or.inl ⟨by rfl, ?ya1⟩) HD_x0.out ?za1
    case ya1 => (intro w hSw; (try dsimp only at hSw); go_simp; try with_reducible rfl)
    try simp only [List.getElem_toArray, List.getElem_cons_succ, List.getElem_cons_zero, Act.put, List.setIfInBounds_toArray, List.set_cons_zero, List.set_cons_succ]
    refine wpAnyH_take (i := 2) (v := ?va2) rfl (by kernel_rfl) (by kernel_rfl) (by kernel_rfl) (fun _ _ _ h => by cases h.1) (Or.inl ⟨by rfl, ?ya2⟩) HD_x0.out ?za2
    case ya2 => (intro w hSw; (try dsimp only at hSw); go_simp; try with_reducible rfl)
    try simp only [List.getElem_toArray, List.getElem_cons_succ, List.getElem_cons_zero, Act.put, List.setIfInBounds_toArray, List.set_cons_zero, List.set_cons_succ]
    refine wpAnyH_ready (rs := [3, 8]) (by kernel_rfl) (by simp) ?_
    refine AllReadyH.cons rfl (fun K hK => ?_) (AllReadyH.cons rfl (fun K hK => ?_) AllReadyH.nil)
    · go_simp
      refine (nums_any _ 0 c c HC0.out hc1).mono ?_
      rintro e x1 ⟨s3, d3, rfl, ho3, hb3⟩
      have HO_x1 : Hid (Oi x1 x0.heap.size (.slice s3 c d3) c (fun i => 0 + i)) := ho3
      have HB_x1 : Hid (Below wb.heap.size wb x1) := two_below HB_x0.out hb3
      have HD_x1 : Hid (x1.cell? ⟨w.heap.size, 0, none⟩ = some (.int .i64 (r : Int)) ∧ x1.cell? ⟨w.heap.size, 1, none⟩ = some (.int .i64 (c : Int)) ∧ x1.cell? ⟨w.heap.size, 2, none⟩ = some (.slice a n k)) := ⟨(HX.out.va.later HB_x1.out).c0, (HX.out.va.later HB_x1.out).c1, (HX.out.va.later HB_x1.out).c2⟩
      clear ho3 hb3
      refine hK.out _ _ HD_x1.out (fun _ => ?_)
      clear hK K
      try simp only [List.getElem_toArray, List.getElem_cons_succ, List.getElem_cons_zero, Act.put, List.setIfInBounds_toArray, List.set_cons_zero, List.set_cons_succ]
      refine wpAnyH_ready (rs := [4, 8]) (by kernel_rfl) (by simp) ?_
      refine AllReadyH.cons rfl (fun K hK => ?_) (AllReadyH.cons rfl (fun K hK => ?_) AllReadyH.nil)
      · go_simp
        refine (mpick_ok _ r c n k c d3 N a s3 F (fun i => 0 + i) (HA.out.later (two_below HX.out.below HB_x1.out)) HR.out HO_x1.out.il (fun i hi => by omega) hc2 HN).mono ?_
        rintro e x2 ⟨g4, rfl, hr4, hg4, hb4⟩
        have HM_x2 : Hid (Mt x2 (some ⟨g4, 0, none⟩) N N F) := (hr4.mt (HPk.out)).congr (HPq.out)
        have HB_x2 : Hid (Below wb.heap.size wb x2) := two_below HB_x1.out hb4
        have HD_x2 : Hid (x2.cell? ⟨w.heap.size, 0, none⟩ = some (.int .i64 (r : Int)) ∧ x2.cell? ⟨w.heap.size, 1, none⟩ = some (.int .i64 (c : Int)) ∧ x2.cell? ⟨w.heap.size, 2, none⟩ = some (.slice a n k)) := ⟨(HX.out.va.later HB_x2.out).c0, (HX.out.va.later HB_x2.out).c1, (HX.out.va.later HB_x2.out).c2⟩
        have hlt4 : g4 < x2.heap.size := hr4.lt
        clear hr4 hg4 hb4
        refine hK.out _ _ HD_x2.out (fun _ => ?_)
        clear hK K
        try simp only [List.getElem_toArray, List.getElem_cons_succ, List.getElem_cons_zero, Act.put, List.setIfInBounds_toArray, List.set_cons_zero, List.set_cons_succ]
        refine wpAnyH_take (i := 5) (v := ?ve5) rfl (by kernel_rfl) (by kernel_rfl) (by kernel_rfl) (fun _ _ _ h => by cases h.1) (Or.inl ⟨by rfl, ?ye5⟩) HD_x2.out ?ze5
        case ye5 => (intro w hSw; (try dsimp only at hSw); go_simp; try with_reducible rfl)
        try simp only [List.getElem_toArray, List.getElem_cons_succ, List.getElem_cons_zero, Act.put, List.setIfInBounds_toArray, List.set_cons_zero, List.set_cons_succ]
        refine wpAnyH_take (i := 6) (v := ?ve6) rfl (by kernel_rfl) (by kernel_rfl) (by kernel_rfl) (fun _ _ _ h => by cases h.1) (Or.inl ⟨by rfl, ?ye6⟩) HD_x2.out ?ze6
        case ye6 => (intro w hSw; (try dsimp only at hSw); go_simp; try with_reducible rfl)
        try simp only [List.getElem_toArray, List.getElem_cons_succ, List.getElem_cons_zero, Act.put, List.setIfInBounds_toArray, List.set_cons_zero, List.set_cons_succ]
        refine wpAnyH_take (i := 7) (v := ?ve7) rfl (by kernel_rfl) (by kernel_rfl) (by kernel_rfl) (fun _ _ _ h => by cases h.1) (Or.inl ⟨by rfl, ?ye7⟩) HD_x2.out ?ze7
        case ye7 => (intro w hSw; (try dsimp only at hSw); go_simp; try with_reducible rfl)
        try simp only [List.getElem_toArray, List.getElem_cons_succ, List.getElem_cons_zero, Act.put, List.setIfInBounds_toArray, List.set_cons_zero, List.set_cons_succ]
        refine wpAnyH_ready (rs := [8]) (by kernel_rfl) (by simp) ?_
        refine AllReadyH.cons rfl (fun K hK => ?_) AllReadyH.nil
        go_simp
        obtain ⟨x3, HWx3⟩ : ∃ x, Hid (x = x2.alloc (.cells #[.int .i64 0, .int .i64 0, .slice none 0 0] 24)) := ⟨_, rfl⟩
        rw [← HWx3.out]
        have hbx3 : Below x2.heap.size x2 x3 := by rw [HWx3.out]; exact alloc_low _ _
        have HT_x3 : Hid (Vr x3 x2.heap.size (.int .i64 0) (.int .i64 0) (.slice none 0 0)) := by rw [HWx3.out]; exact Vr.new x2 _ _ _
        have HB_x3 : Hid (Below wb.heap.size wb x3) := two_below HB_x2.out hbx3
        have HD_x3 : Hid (x3.cell? ⟨w.heap.size, 0, none⟩ = some (.int .i64 (r : Int)) ∧ x3.cell? ⟨w.heap.size, 1, none⟩ = some (.int .i64 (c : Int)) ∧ x3.cell? ⟨w.heap.size, 2, none⟩ = some (.slice a n k)) := ⟨(HX.out.va.later HB_x3.out).c0, (HX.out.va.later HB_x3.out).c1, (HX.out.va.later HB_x3.out).c2⟩
        have HM_x3 : Hid (Mt x3 (some ⟨g4, 0, none⟩) N N F) := HM_x2.out.later hbx3
        have hne4 : g4 ≠ x2.heap.size := Nat.ne_of_lt hlt4
        clear hbx3
        refine hK.out _ _ HD_x3.out (fun _ => ?_)
        clear hK K
        try simp only [List.getElem_toArray, List.getElem_cons_succ, List.getElem_cons_zero, Act.put, List.setIfInBounds_toArray, List.set_cons_zero, List.set_cons_succ]
        refine wpAnyH_ready (rs := [9]) (by kernel_rfl) (by simp) ?_
        refine AllReadyH.cons rfl (fun K hK => ?_) AllReadyH.nil
        refine step_store_var rfl _ _ rfl x2.heap.size _ _ _ (.int .i64 (c : Int)) (.int .i64 (c : Int)) (.slice (some ⟨g4, 0, none⟩) N N) rfl rfl HT_x3.out rfl rfl rfl ?_
        intro x4 HVt HGt
        have hbB : wb.heap.size ≤ x2.heap.size := HB_x2.out.size
        have HB_x4 : Hid (Below wb.heap.size wb x4) := below_row HB_x3.out HGt.out hbB
        have HD_x4 : Hid (x4.cell? ⟨w.heap.size, 0, none⟩ = some (.int .i64 (r : Int)) ∧ x4.cell? ⟨w.heap.size, 1, none⟩ = some (.int .i64 (c : Int)) ∧ x4.cell? ⟨w.heap.size, 2, none⟩ = some (.slice a n k)) := ⟨(HX.out.va.later HB_x4.out).c0, (HX.out.va.later HB_x4.out).c1, (HX.out.va.later HB_x4.out).c2⟩
        have HM_x4 : Hid (Mt x4 (some ⟨g4, 0, none⟩) N N F) := HM_x3.out.kept HGt.out (fun _ x hx e => by cases hx; exact hne4 e)
        refine hK.out _ _ HD_x4.out (fun _ => ?_)
        clear hK K
        try simp only [List.getElem_toArray, List.getElem_cons_succ, List.getElem_cons_zero, Act.put]
        refine wpAnyH_take (i := 10) (v := ?vb10) rfl (by kernel_rfl) (by kernel_rfl) (by kernel_rfl) (fun _ _ _ h => by cases h.1) (Or.inl ⟨by rfl, ?yb10⟩) HD_x4.out ?zb10
        case yb10 => (intro w hSw; (try dsimp only at hSw); go_simp; try with_reducible rfl)
        try simp only [List.getElem_toArray, List.getElem_cons_succ, List.getElem_cons_zero, Act.put, List.setIfInBounds_toArray, List.set_cons_zero, List.set_cons_succ]
        refine wpAnyH_done (by kernel_rfl) ?_ _
        exact ⟨rfl, x2.heap.size, g4, s3, d3, rfl, HVt.out, HM_x4.out, HB_x4.out⟩
      · go_simp
        obtain ⟨x2, HWx2⟩ : ∃ x, Hid (x = x1.alloc (.cells #[.int .i64 0, .int .i64 0, .slice none 0 0] 24)) := ⟨_, rfl⟩
        rw [← HWx2.out]
        have hbx2 : Below x1.heap.size x1 x2 := by rw [HWx2.out]; exact alloc_low _ _
        have HT_x2 : Hid (Vr x2 x1.heap.size (.int .i64 0) (.int .i64 0) (.slice none 0 0)) := by rw [HWx2.out]; exact Vr.new x1 _ _ _
        have HB_x2 : Hid (Below wb.heap.size wb x2) := two_below HB_x1.out hbx2
        have HD_x2 : Hid (x2.cell? ⟨w.heap.size, 0, none⟩ = some (.int .i64 (r : Int)) ∧ x2.cell? ⟨w.heap.size, 1, none⟩ = some (.int .i64 (c : Int)) ∧ x2.cell? ⟨w.heap.size, 2, none⟩ = some (.slice a n k)) := ⟨(HX.out.va.later HB_x2.out).c0, (HX.out.va.later HB_x2.out).c1, (HX.out.va.later HB_x2.out).c2⟩
        have HO_x2 : Hid (Oi x2 x0.heap.size (.slice s3 c d3) c (fun i => 0 + i)) := HO_x1.out.later hbx2
        refine hK.out _ _ HD_x2.out (fun _ => ?_)
        clear hK K
        try simp only [List.getElem_toArray, List.getElem_cons_succ, List.getElem_cons_zero, Act.put, List.setIfInBounds_toArray, List.set_cons_zero, List.set_cons_succ]
        refine wpAnyH_ready (rs := [4]) (by kernel_rfl) (by simp) ?_
        refine AllReadyH.cons rfl (fun K hK => ?_) AllReadyH.nil
        go_simp
        refine (mpick_ok _ r c n k c d3 N a s3 F (fun i => 0 + i) (HA.out.later (two_below HX.out.below HB_x2.out)) HR.out HO_x2.out.il (fun i hi => by omega) hc2 HN).mono ?_
        rintro e x3 ⟨g4, rfl, hr4, hg4, hb4⟩
        have HM_x3 : Hid (Mt x3 (some ⟨g4, 0, none⟩) N N F) := (hr4.mt (HPk.out)).congr (HPq.out)
        have HB_x3 : Hid (Below wb.heap.size wb x3) := two_below HB_x2.out hb4
        have HD_x3 : Hid (x3.cell? ⟨w.heap.size, 0, none⟩ = some (.int .i64 (r : Int)) ∧ x3.cell? ⟨w.heap.size, 1, none⟩ = some (.int .i64 (c : Int)) ∧ x3.cell? ⟨w.heap.size, 2, none⟩ = some (.slice a n k)) := ⟨(HX.out.va.later HB_x3.out).c0, (HX.out.va.later HB_x3.out).c1, (HX.out.va.later HB_x3.out).c2⟩
        have HT_x3 : Hid (Vr x3 x1.heap.size (.int .i64 0) (.int .i64 0) (.slice none 0 0)) := HT_x2.out.later hb4
        have hne4 : g4 ≠ x1.heap.size := fun e => by have := HT_x2.out.lt; omega
        clear hr4 hg4 hb4
        refine hK.out _ _ HD_x3.out (fun _ => ?_)
        clear hK K
        try simp only [List.getElem_toArray, List.getElem_cons_succ, List.getElem_cons_zero, Act.put, List.setIfInBounds_toArray, List.set_cons_zero, List.set_cons_succ]
        refine wpAnyH_take (i := 5) (v := ?vc5) rfl (by kernel_rfl) (by kernel_rfl) (by kernel_rfl) (fun _ _ _ h => by cases h.1) (Or.inl ⟨by rfl, ?yc5⟩) HD_x3.out ?zc5
        case yc5 => (intro w hSw; (try dsimp only at hSw); go_simp; try with_reducible rfl)
        try simp only [List.getElem_toArray, List.getElem_cons_succ, List.getElem_cons_zero, Act.put, List.setIfInBounds_toArray, List.set_cons_zero, List.set_cons_succ]
        refine wpAnyH_take (i := 6) (v := ?vc6) rfl (by kernel_rfl) (by kernel_rfl) (by kernel_rfl) (fun _ _ _ h => by cases h.1) (Or.inl ⟨by rfl, ?yc6⟩) HD_x3.out ?zc6
        case yc6 => (intro w hSw; (try dsimp only at hSw); go_simp; try with_reducible rfl)
        try simp only [List.getElem_toArray, List.getElem_cons_succ, List.getElem_cons_zero, Act.put, List.setIfInBounds_toArray, List.set_cons_zero, List.set_cons_succ]
        refine wpAnyH_take (i := 7) (v := ?vc7) rfl (by kernel_rfl) (by kernel_rfl) (by kernel_rfl) (fun _ _ _ h => by cases h.1) (Or.inl ⟨by rfl, ?yc7⟩) HD_x3.out ?zc7
        case yc7 => (intro w hSw; (try dsimp only at hSw); go_simp; try with_reducible rfl)
        try simp only [List.getElem_toArray, List.getElem_cons_succ, List.getElem_cons_zero, Act.put, List.setIfInBounds_toArray, List.set_cons_zero, List.set_cons_succ]
        refine wpAnyH_ready (rs := [9]) (by kernel_rfl) (by simp) ?_
        refine AllReadyH.cons rfl (fun K hK => ?_) AllReadyH.nil
        refine step_store_var rfl _ _ rfl x1.heap.size _ _ _ (.int .i64 (c : Int)) (.int .i64 (c : Int)) (.slice (some ⟨g4, 0, none⟩) N N) rfl rfl HT_x3.out rfl rfl rfl ?_
        intro x4 HVt HGt
        have hbB : wb.heap.size ≤ x1.heap.size := HB_x1.out.size
        have HB_x4 : Hid (Below wb.heap.size wb x4) := below_row HB_x3.out HGt.out hbB
        have HD_x4 : Hid (x4.cell? ⟨w.heap.size, 0, none⟩ = some (.int .i64 (r : Int)) ∧ x4.cell? ⟨w.heap.size, 1, none⟩ = some (.int .i64 (c : Int)) ∧ x4.cell? ⟨w.heap.size, 2, none⟩ = some (.slice a n k)) := ⟨(HX.out.va.later HB_x4.out).c0, (HX.out.va.later HB_x4.out).c1, (HX.out.va.later HB_x4.out).c2⟩
        have HM_x4 : Hid (Mt x4 (some ⟨g4, 0, none⟩) N N F) := HM_x3.out.kept HGt.out (fun _ x hx e => by cases hx; exact hne4 e)
        refine hK.out _ _ HD_x4.out (fun _ => ?_)
        clear hK K
        try simp only [List.getElem_toArray, List.getElem_cons_succ, List.getElem_cons_zero, Act.put]
        refine wpAnyH_take (i := 10) (v := ?vc10) rfl (by kernel_rfl) (by kernel_rfl) (by kernel_rfl) (fun _ _ _ h => by cases h.1) (Or.inl ⟨by rfl, ?yc10⟩) HD_x4.out ?zc10
        case yc10 => (intro w hSw; (try dsimp only at hSw); go_simp; try with_reducible rfl)
        try simp only [List.getElem_toArray, List.getElem_cons_succ, List.getElem_cons_zero, Act.put, List.setIfInBounds_toArray, List.set_cons_zero, List.set_cons_succ]
        refine wpAnyH_done (by kernel_rfl) ?_ _
        exact ⟨rfl, x1.heap.size, g4, s3, d3, rfl, HVt.out, HM_x4.out, HB_x4.out⟩
    · go_simp
      obtain ⟨x1, HWx1⟩ : ∃ x, Hid (x = x0.alloc (.cells #[.int .i64 0, .int .i64 0, .slice none 0 0] 24)) := ⟨_, rfl⟩
      rw [← HWx1.out]
      have hbx1 : Below x0.heap.size x0 x1 := by rw [HWx1.out]; exact alloc_low _ _
      have HT_x1 : Hid (Vr x1 x0.heap.size (.int .i64 0) (.int .i64 0) (.slice none 0 0)) := by rw [HWx1.out]; exact Vr.new x0 _ _ _
      have HB_x1 : Hid (Below wb.heap.size wb x1) := two_below HB_x0.out hbx1
      have HD_x1 : Hid (x1.cell? ⟨w.heap.size, 0, none⟩ = some (.int .i64 (r : Int)) ∧ x1.cell? ⟨w.heap.size, 1, none⟩ = some (.int .i64 (c : Int)) ∧ x1.cell? ⟨w.heap.size, 2, none⟩ = some (.slice a n k)) := ⟨(HX.out.va.later HB_x1.out).c0, (HX.out.va.later HB_x1.out).c1, (HX.out.va.later HB_x1.out).c2⟩
      refine hK.out _ _ HD_x1.out (fun _ => ?_)
      clear hK K
      try simp only [List.getElem_toArray, List.getElem_cons_succ, List.getElem_cons_zero, Act.put, List.setIfInBounds_toArray, List.set_cons_zero, List.set_cons_succ]
      refine wpAnyH_ready (rs := [3]) (by kernel_rfl) (by simp) ?_
      refine AllReadyH.cons rfl (fun K hK => ?_) AllReadyH.nil
      go_simp
      refine (nums_any _ 0 c c HC0.out hc1).mono ?_
      rintro e x2 ⟨s3, d3, rfl, ho3, hb3⟩
      have HO_x2 : Hid (Oi x2 x1.heap.size (.slice s3 c d3) c (fun i => 0 + i)) := ho3
      have HB_x2 : Hid (Below wb.heap.size wb x2) := two_below HB_x1.out hb3
      have HD_x2 : Hid (x2.cell? ⟨w.heap.size, 0, none⟩ = some (.int .i64 (r : Int)) ∧ x2.cell? ⟨w.heap.size, 1, none⟩ = some (.int .i64 (c : Int)) ∧ x2.cell? ⟨w.heap.size, 2, none⟩ = some (.slice a n k)) := ⟨(HX.out.va.later HB_x2.out).c0, (HX.out.va.later HB_x2.out).c1, (HX.out.va.later HB_x2.out).c2⟩
      have HT_x2 : Hid (Vr x2 x0.heap.size (.int .i64 0) (.int .i64 0) (.slice none 0 0)) := HT_x1.out.later hb3
      clear ho3 hb3
      refine hK.out _ _ HD_x2.out (fun _ => ?_)
      clear hK K
      try simp only [List.getElem_toArray, List.getElem_cons_succ, List.getElem_cons_zero, Act.put, List.setIfInBounds_toArray, List.set_cons_zero, List.set_cons_succ]
      refine wpAnyH_ready (rs := [4]) (by kernel_rfl) (by simp) ?_
      refine AllReadyH.cons rfl (fun K hK => ?_) AllReadyH.nil
      go_simp
      refine (mpick_ok _ r c n k c d3 N a s3 F (fun i => 0 + i) (HA.out.later (two_below HX.out.below HB_x2.out)) HR.out HO_x2.out.il (fun i hi => by omega) hc2 HN).mono ?_
      rintro e x3 ⟨g4, rfl, hr4, hg4, hb4⟩
      have HM_x3 : Hid (Mt x3 (some ⟨g4, 0, none⟩) N N F) := (hr4.mt (HPk.out)).congr (HPq.out)
      have HB_x3 : Hid (Below wb.heap.size wb x3) := two_below HB_x2.out hb4
      have HD_x3 : Hid (x3.cell? ⟨w.heap.size, 0, none⟩ = some (.int .i64 (r : Int)) ∧ x3.cell? ⟨w.heap.size, 1, none⟩ = some (.int .i64 (c : Int)) ∧ x3.cell? ⟨w.heap.size, 2, none⟩ = some (.slice a n k)) := ⟨(HX.out.va.later HB_x3.out).c0, (HX.out.va.later HB_x3.out).c1, (HX.out.va.later HB_x3.out).c2⟩
      have HT_x3 : Hid (Vr x3 x0.heap.size (.int .i64 0) (.int .i64 0) (.slice none 0 0)) := HT_x2.out.later hb4
      have hne4 : g4 ≠ x0.heap.size := fun e => by have := HT_x2.out.lt; omega
      clear hr4 hg4 hb4
      refine hK.out _ _ HD_x3.out (fun _ => ?_)
      clear hK K
      try simp only [List.getElem_toArray, List.getElem_cons_succ, List.getElem_cons_zero, Act.put, List.setIfInBounds_toArray, List.set_cons_zero, List.set_cons_succ]
      refine wpAnyH_take (i := 5) (v := ?vd5) rfl (by kernel_rfl) (by kernel_rfl) (by kernel_rfl) (fun _ _ _ h => by cases h.1) (Or.inl ⟨by rfl, ?yd5⟩) HD_x3.out ?zd5
      case yd5 => (intro w hSw; (try dsimp only at hSw); go_simp; try with_reducible rfl)
      try simp only [List.getElem_toArray, List.getElem_cons_succ, List.getElem_cons_zero, Act.put, List.setIfInBounds_toArray, List.set_cons_zero, List.set_cons_succ]
      refine wpAnyH_take (i := 6) (v := ?vd6) rfl (by kernel_rfl) (by kernel_rfl) (by kernel_rfl) (fun _ _ _ h => by cases h.1) (Or.inl ⟨by rfl, ?yd6⟩) HD_x3.out ?zd6
      case yd6 => (intro w hSw; (try dsimp only at hSw); go_simp; try with_reducible rfl)
      try simp only [List.getElem_toArray, List.getElem_cons_succ, List.getElem_cons_zero, Act.put, List.setIfInBounds_toArray, List.set_cons_zero, List.set_cons_succ]
      refine wpAnyH_take (i := 7) (v := ?vd7) rfl (by kernel_rfl) (by kernel_rfl) (by kernel_rfl) (fun _ _ _ h => by cases h.1) (Or.inl ⟨by rfl, ?yd7⟩) HD_x3.out ?zd7
      case yd7 => (intro w hSw; (try dsimp only at hSw); go_simp; try with_reducible rfl)
      try simp only [List.getElem_toArray, List.getElem_cons_succ, List.getElem_cons_zero, Act.put, List.setIfInBounds_toArray, List.set_cons_zero, List.set_cons_succ]
      refine wpAnyH_ready (rs := [9]) (by kernel_rfl) (by simp) ?_
      refine AllReadyH.cons rfl (fun K hK => ?_) AllReadyH.nil
      refine step_store_var rfl _ _ rfl x0.heap.size _ _ _ (.int .i64 (c : Int)) (.int .i64 (c : Int)) (.slice (some ⟨g4, 0, none⟩) N N) rfl rfl HT_x3.out rfl rfl rfl ?_
      intro x4 HVt HGt
      have hbB : wb.heap.size ≤ x0.heap.size := HB_x0.out.size
      have HB_x4 : Hid (Below wb.heap.size wb x4) := below_row HB_x3.out HGt.out hbB
      have HD_x4 : Hid (x4.cell? ⟨w.heap.size, 0, none⟩ = some (.int .i64 (r : Int)) ∧ x4.cell? ⟨w.heap.size, 1, none⟩ = some (.int .i64 (c : Int)) ∧ x4.cell? ⟨w.heap.size, 2, none⟩ = some (.slice a n k)) := ⟨(HX.out.va.later HB_x4.out).c0, (HX.out.va.later HB_x4.out).c1, (HX.out.va.later HB_x4.out).c2⟩
      have HM_x4 : Hid (Mt x4 (some ⟨g4, 0, none⟩) N N F) := HM_x3.out.kept HGt.out (fun _ x hx e => by cases hx; exact hne4 e)
      refine hK.out _ _ HD_x4.out (fun _ => ?_)
      clear hK K
      try simp only [List.getElem_toArray, List.getElem_cons_succ, List.getElem_cons_zero, Act.put]
      refine wpAnyH_take (i := 10) (v := ?vd10) rfl (by kernel_rfl) (by kernel_rfl) (by kernel_rfl) (fun _ _ _ h => by cases h.1) (Or.inl ⟨by rfl, ?yd10⟩) HD_x4.out ?zd10
      case yd10 => (intro w hSw; (try dsimp only at hSw); go_simp; try with_reducible rfl)
      try simp only [List.getElem_toArray, List.getElem_cons_succ, List.getElem_cons_zero, Act.put, List.setIfInBounds_toArray, List.set_cons_zero, List.set_cons_succ]
      refine wpAnyH_done (by kernel_rfl) ?_ _
      exact ⟨rfl, x0.heap.size, g4, s3, d3, rfl, HVt.out, HM_x4.out, HB_x4.out⟩
  case tail =>
    rintro e a' x4 ⟨rfl, b4, g4, s3, d3, rfl, hv, hm, hb⟩
    have HB4 : Hid (Below wb.heap.size wb x4) := hb
    have HM4 : Hid (Mt x4 (some ⟨g4, 0, none⟩) N N F) := hm
    have t0 := hv.c0
    have t1 := hv.c1
    have t2 := hv.c2
    obtain ⟨t, ht⟩ := rk_ex (m2_el HM4.out.sl.1 HC.out) c
    have htc : t ≤ c := ht.le (Le.refl (m2_el HM4.out.sl.1 HC.out) c)
    clear hv hm hb
    by_cases hq : t = c
    · subst hq
      have HK : Hid (Rk (m2 F t t) t t) := ht
      clear ht htc
      go_wp2_with (first
        | (go_at_call 56; refine (ginv_ok _ t N N _ F HM4.out HC.out HK.out).mono ?_; rintro e w5 ⟨s5, d5, X, rfl, hm5, hp5, hb5⟩; have HM5 : Hid (Mt (w5.alloc (.cells #[.int .i64 (t : Int), .int .i64 (t : Int), .slice s5 N d5] 24)) s5 N d5 X) := hm5.later (alloc_low _ _); have HP5 : Hid (∀ i j, i < t → j < t → pr (m2 F t t) (m2 X t t) t i j = dl i j) := hp5; have HB5 : Hid (Below wb.heap.size wb (w5.alloc (.cells #[.int .i64 (t : Int), .int .i64 (t : Int), .slice s5 N d5] 24))) := two_below (two_below HB4.out hb5) (alloc_low _ _); have y0 := (HX.out.va.later HB5.out).c0; have y1 := (HX.out.va.later HB5.out).c1; have y2 := (HX.out.va.later HB5.out).c2; clear hm5 hp5 hb5)
        | (go_at_call 57; refine (mmul_ok _ r t t n N n k d5 a s5 F X (HA.out.later (two_below HX.out.below HB5.out)) HM5.out HR.out HC.out HR.out).mono ?_; rintro e w6 ⟨g6, rfl, hr6, hg6, hb6⟩; have HR6 : Hid (RowAt w6 g6 5 n (prk F X t t t)) := hr6; have hg7 : wb.heap.size ≤ g6 := Nat.le_trans HB5.out.size hg6; have HB6 : Hid (Below wb.heap.size wb w6) := two_below HB5.out hb6; have HV6 : Hid (Vr w6 (w.heap.size + 1) (.int .i64 0) (.int .i64 0) (.slice none 0 0)) := HX.out.vr.later HB6.out; clear hr6 hg6 hb6)
        | (refine wpList_store_var rfl _ _ rfl (w.heap.size + 1) _ _ _ (.int .i64 (r : Int)) (.int .i64 (t : Int)) (.slice (some ⟨g6, 0, none⟩) n n) rfl rfl HV6.out rfl rfl rfl ?_; intro w7 HV7 HG7))
      have d0 := HV7.out.c0
      have d1 := HV7.out.c1
      have d2 := HV7.out.c2
      refine bodyPost_ret (v := .tuple #[mv r t (some ⟨g6, 0, none⟩) n n, .int .i64 0]) (by simp [results, Try.results18, go_sem, d0, d1, d2, mv]) rfl ?_
      exact .inl ⟨⟨g6, X, rfl, HR6.out.kept HG7.out (by omega), by rw [HN.out]; exact HM5.out.sl.1, HP5.out, by omega, below_row (two_below HX.out.below HB6.out) HG7.out (by omega)⟩, HK.out⟩
    · have HK : Hid (Rk (m2 F c c) c t) := ht
      have htl : t < c := by omega
      clear ht hq htc
      go_wp2_with (first
        | (go_at_call 56; refine (ginv_sing _ c N N t _ F HM4.out HC.out HK.out htl).mono ?_; rintro e w5 ⟨rfl, hb5⟩; have HB5 : Hid (Below wb.heap.size wb (w5.alloc (.cells #[.int .i64 0, .int .i64 0, .slice none 0 0] 24))) := two_below (two_below HB4.out hb5) (alloc_low _ _); have HV6 : Hid (Vr (w5.alloc (.cells #[.int .i64 0, .int .i64 0, .slice none 0 0] 24)) (w.heap.size + 1) (.int .i64 0) (.int .i64 0) (.slice none 0 0)) := HX.out.vr.later HB5.out; clear hb5)
        | (refine wpList_store_var rfl _ _ rfl (w.heap.size + 1) _ _ _ (.int .i64 0) (.int .i64 0) (.slice none 0 0) rfl rfl HV6.out rfl rfl rfl ?_; intro w7 HV7 HG7))
      have d0 := HV7.out.c0
      have d1 := HV7.out.c1
      have d2 := HV7.out.c2
      refine bodyPost_ret (v := .tuple #[mv 0 0 none 0 0, .int .i64 6]) (by simp [results, Try.results18, go_sem, d0, d1, d2, mv]) rfl ?_
      exact .inr ⟨rfl, below_row (two_below HX.out.below HB5.out) HG7.out (by omega), t, htl, HK.out⟩
theorem bsys_ok (w : World) (r c n k : Nat) (a : Option Addr) (F : Nat → Nat) (ha : Mt w a n k F) (R : Rt r c n) (hcr : c ≤ r) (hk : Rk (m2 F c c) c c) :
    Calls Try.prog 18 #[mv r c a n k] w fun e w' => SysP w w' e r c n F :=
  (bsys_x w r c n k a F ha R hcr).mono (fun _ _ h => by
    rcases h with ⟨h, _⟩ | ⟨_, _, t, ht, h⟩
    · exact h
    · have := h.uniq (top_el ha R hcr) hk
      omega)
theorem bsys_sing (w : World) (r c n k q : Nat) (a : Option Addr) (F : Nat → Nat) (ha : Mt w a n k F) (R : Rt r c n) (hcr : c ≤ r) (hk : Rk (m2 F c c) c q) (hq : q < c) :
    Calls Try.prog 18 #[mv r c a n k] w fun e w' => e = .returned (.tuple #[mv 0 0 none 0 0, .int .i64 6]) ∧ Below w.heap.size w w' :=
  (bsys_x w r c n k a F ha R hcr).mono (fun _ _ h => by
    rcases h with ⟨_, h⟩ | ⟨h1, h2, _⟩
    · have := h.uniq (top_el ha R hcr) hk
      omega
    · exact ⟨h1, h2⟩)
set_option maxRecDepth 20000 in
set_option maxHeartbeats 2000000 in
theorem bsys_bad (w : World) (r c : Int) (n k : Nat) (a : Option Addr) (h : ¬ (RightP r c n ∧ c ≤ r)) :
    Calls Try.prog 18 #[mv r c a n k] w fun e w' => e = .returned (.tuple #[mv 0 0 none 0 0, .int .i64 3]) ∧ Below w.heap.size w w' := by
  obtain ⟨wb, HW, HX⟩ : ∃ wb, Hid (wb = (w.alloc (.cells #[.int .i64 r, .int .i64 c, .slice a n k] 24)).alloc (.cells #[.int .i64 0, .int .i64 0, .slice none 0 0] 24)) ∧ Hid (Box2 w wb r c n k a) := ⟨_, rfl, box2 w r c n k a⟩
  have v0 := HX.out.va.c0
  have v1 := HX.out.va.c1
  have v2 := HX.out.va.c2
  have hwb : w.heap.size + 1 < wb.heap.size := HX.out.vr.lt
  have H1 : Hid (¬ (RightP r c n ∧ c ≤ r)) := h
  clear h
  go_enter Try.func18, Try.ntmps18
  go_wp2_with (first
    | (go_at_call 53; rw [← HW.out]; refine (tall_no _ _ _ _ _ _ H1.out).mono ?_; rintro e w1 ⟨rfl, hb1⟩; have HB1 : Hid (Below wb.heap.size wb w1) := hb1; have HVz : Hid (Vr w1 (w.heap.size + 1) (.int .i64 0) (.int .i64 0) (.slice none 0 0)) := HX.out.vr.later HB1.out; clear hb1)
    | (refine wpList_store_var rfl _ _ rfl (w.heap.size + 1) _ _ _ (.int .i64 0) (.int .i64 0) (.slice none 0 0) rfl rfl HVz.out rfl rfl rfl ?_; intro w5 HV5 HG5))
  have d0 := HV5.out.c0
  have d1 := HV5.out.c1
  have d2 := HV5.out.c2
  refine bodyPost_ret (v := .tuple #[mv 0 0 none 0 0, .int .i64 3]) (by simp [results, Try.results18, go_sem, d0, d1, d2, mv]) rfl ?_
  exact ⟨rfl, below_row (two_below HX.out.below HB1.out) HG5.out (by omega)⟩
end Go.Proofs.Ytblfldjlehjnbaa

namespace Go.Proofs.Ytblfldjlehjnbaa
open Go.RowKit
end Go.Proofs.Ytblfldjlehjnbaa

namespace Go.Proofs.Ytblfldjlehjnbaa
open Go.RowKit
theorem el_of_le {G : Nat → Nat} {r c s : Nat} {M : Nat → Nat → Nat} (h : Le (m2 G r c) r M s) : El2 (m2 G r c) := fun i j => by
  by_cases hi : i < r
  · obtain ⟨a, ha, e⟩ := h i hi
    rw [e j]
    exact xs_lt fun t _ => fm_lt _ _ (ha t)
  · unfold m2
    rw [if_neg (by omega)]
    decide
theorem rk_turn {F : Nat → Nat} {r c n k l : Nat} (R : Rt r c n) (hk : Rk (m2 F r c) r k) (hl : Rk (m2 (trf F r c) c r) c l) : k = l := by
  have _ := R
  refine rk_tpo (fun i j _ hj => m2_cut F hj) hk (hl.at (fun i j hi => ?_))
  unfold tpo
  by_cases hj : j < r
  · rw [if_pos hj]; dsimp only; rw [m2_at _ hj hi, m2_at _ hi hj, trf_at F r c j i hj]
  · rw [if_neg hj, m2_cut _ (by omega)]
theorem rk_cols {F : Nat → Nat} {r c n k : Nat} (hF : ∀ i, i < n → F i < 256) (R : Rt r c n) (hk : Rk (m2 F r c) r k) : k ≤ c := by
  have R2 : Rt c r n := ⟨R.c64, R.r64, by rw [Nat.mul_comm]; exact R.len⟩
  have he := m2_el (trf_el4 hF R) R2
  obtain ⟨l, hl⟩ := rk_ex he c
  rw [rk_turn R hk hl]
  exact hl.le (Le.refl he c)
/-- What Check answers. -/
def ChkP (w w' : World) (e : Ending) (r c : Nat) (F : Nat → Nat) : Prop := ∃ s d kr top p G H, e = .returned (.tuple #[mv (kr : Nat) r s (kr * r) d, .int .i64 0]) ∧ Mt w' s (kr * r) d H ∧ Rdf (m2 G c r) c top p ∧ SpEq (m2 G c r) c (m2 (trf F r c) c r) c ∧ (∀ i, i < top → p i < r) ∧ kr = cnt (fre p top) r ∧ (∀ u l, u < kr → l < r → H (u * r + l) = kv (m2 G c r) p top (nth (fre p top) r u) l) ∧ Frs w' w.heap.size s (kr * r) d ∧ Below w.heap.size w w'
theorem kr_of {F G p : Nat → Nat} {r c n top kr t : Nat} (R : Rt r c n) (ht : Rk (m2 F r c) r t) (hR : Rdf (m2 G c r) c top p) (hS : SpEq (m2 G c r) c (m2 (trf F r c) c r) c) (hp : ∀ i, i < top → p i < r) (hk : kr = cnt (fre p top) r) : t + kr = r ∧ top = t := by
  have h1 : Rk (m2 (trf F r c) c r) c top := (hR.rk (el_of_le hS.1)).span hS
  have h2 := rk_turn R ht h1
  subst h2
  exact ⟨by rw [hk]; exact cnt_free hR.up hp, rfl⟩
set_option maxRecDepth 20000 in
set_option maxHeartbeats 4000000 in
theorem bchk_x (w : World) (r c n k : Nat) (a : Option Addr) (F : Nat → Nat) (ha : Mt w a n k F) (R : Rt r c n) (hcr : c ≤ r) :
    Calls Try.prog 20 #[mv r c a n k] w fun e w' => (ChkP w w' e r c F ∧ Rk (m2 F r c) r c) ∨ (e = .returned (.tuple #[mv 0 0 none 0 0, .int .i64 6]) ∧ Below w.heap.size w w' ∧ ∃ t, t < c ∧ Rk (m2 F r c) r t) := by
  obtain ⟨wb, HW, HX⟩ : ∃ wb, Hid (wb = (w.alloc (.cells #[.int .i64 (r : Int), .int .i64 (c : Int), .slice a n k] 24)).alloc (.cells #[.int .i64 0, .int .i64 0, .slice none 0 0] 24)) ∧ Hid (Box2 w wb r c n k a) := ⟨_, rfl, box2 w r c n k a⟩
  obtain ⟨t, ht⟩ := rk_ex (m2_el ha.sl.1 R) r
  have htc : t ≤ c := rk_cols ha.sl.1 R ht
  have HK : Hid (Rk (m2 F r c) r t) := ht
  have HA : Hid (Mt w a n k F) := ha
  have HR : Hid (Rt r c n) := R
  have hcl : (c : Int) ≤ (r : Int) := by omega
  have HCl : Hid ((c : Int) ≤ (r : Int)) := hcl
  have hr64 := R.r64
  have v0 := HX.out.va.c0
  have v1 := HX.out.va.c1
  have v2 := HX.out.va.c2
  have hwb : w.heap.size + 1 < wb.heap.size := HX.out.vr.lt
  have e1 : IntKind.i64.wrap ((r : Int) - (c : Int)) = (r : Int) - (c : Int) := by rw [IntKind.wrap_i64]; omega
  clear ha R hcl ht
  by_cases hq : t = c
  · subst hq
    go_enter Try.func20, Try.ntmps20
    go_wp2_with (first
      | (go_at_call 53; rw [← HW.out]; refine (tall_yes _ _ _ _ _ _ HR.out.p HCl.out).mono ?_; rintro e w1 ⟨rfl, hb1⟩; have HB1 : Hid (Below wb.heap.size wb w1) := hb1; have a0 := (HX.out.va.later hb1).c0; have a1 := (HX.out.va.later hb1).c1; have a2 := (HX.out.va.later hb1).c2; clear hb1)
      | (go_at_call 61; have _x := HB1; refine (mtrans_ok _ r t n k a F (HA.out.later (two_below HX.out.below HB1.out)) HR.out).mono ?_; rintro e w3 ⟨g3, rfl, hr3, hg3, hb3⟩; have HM3 : Hid (Mt (w3.alloc (.cells #[.int .i64 (t : Int), .int .i64 (r : Int), .slice (some ⟨g3, 0, none⟩) n n] 24)) (some ⟨g3, 0, none⟩) n n (trf F r t)) := (hr3.mt (trf_el4 HA.out.sl.1 HR.out)).later (alloc_low _ _); have HB3 : Hid (Below wb.heap.size wb (w3.alloc (.cells #[.int .i64 (t : Int), .int .i64 (r : Int), .slice (some ⟨g3, 0, none⟩) n n] 24))) := two_below (two_below HB1.out hb3) (alloc_low _ _); clear hr3 hg3 hb3)
      | (go_at_call 62; have _x := HB3; refine (gker_x _ t r n n _ _ HM3.out (rt_turn6 HR.out)).mono ?_; rintro e w4 ⟨⟨s4, d4, kr, top, p, G, H, rfl, hm4, hR4, hS4, hp4, hk4, hH4, hb4⟩, s4', N4', d4', kr4', he4', hf4⟩; simp only [mv, Ending.returned.injEq, Value.tuple.injEq, Array.mk.injEq, List.cons.injEq, Value.agg.injEq, Value.slice.injEq, Value.int.injEq, true_and, and_true] at he4'; obtain ⟨hk5, rfl, rfl, rfl⟩ := he4'; clear hk5 kr4'; have hkt := (kr_of HR.out HK.out hR4 hS4 hp4 hk4).1; obtain ⟨M, HMM⟩ : ∃ x, Hid (kr * r = x) := ⟨_, rfl⟩; rw [HMM.out] at hm4 hf4 ⊢; have HM4 : Hid (Mt (w4.alloc (.cells #[.int .i64 (kr : Int), .int .i64 (r : Int), .slice s4 M d4] 24)) s4 M d4 H) := hm4.later (alloc_low _ _); have HFr4 : Hid (Frs (w4.alloc (.cells #[.int .i64 (kr : Int), .int .i64 (r : Int), .slice s4 M d4] 24)) wb.heap.size s4 M d4) := (hf4.mono HB3.out.size).later (alloc_low _ _); have HF4 : Hid (Rdf (m2 G t r) t top p ∧ SpEq (m2 G t r) t (m2 (trf F r t) t r) t ∧ (∀ i, i < top → p i < r) ∧ kr = cnt (fre p top) r ∧ (∀ u l, u < kr → l < r → H (u * r + l) = kv (m2 G t r) p top (nth (fre p top) r u) l)) := ⟨hR4, hS4, hp4, hk4, hH4⟩; have HB4 : Hid (Below wb.heap.size wb (w4.alloc (.cells #[.int .i64 (kr : Int), .int .i64 (r : Int), .slice s4 M d4] 24))) := two_below (two_below HB3.out hb4) (alloc_low _ _); have HV4 : Hid (Vr (w4.alloc (.cells #[.int .i64 (kr : Int), .int .i64 (r : Int), .slice s4 M d4] 24)) (w.heap.size + 1) (.int .i64 0) (.int .i64 0) (.slice none 0 0)) := HX.out.vr.later HB4.out; have HT4 := Vr.new w4 (.int .i64 (kr : Int)) (.int .i64 (r : Int)) (.slice s4 M d4); have z0 := HT4.c0; have z1 := HT4.c1; have z2 := HT4.c2; have y0 := (HX.out.va.later HB4.out).c0; have y1 := (HX.out.va.later HB4.out).c1; have y2 := (HX.out.va.later HB4.out).c2; have g1 : decide ((r : Int) - (t : Int) < (kr : Int)) = false := (by simp; omega); clear hm4 hf4 hR4 hS4 hp4 hk4 hH4 hb4 HT4)
      | (refine wpList_store_var rfl _ _ rfl (w.heap.size + 1) _ _ _ (.int .i64 (kr : Int)) (.int .i64 (r : Int)) (.slice s4 M d4) rfl rfl HV4.out rfl rfl rfl ?_; intro w5 HV5 HG5))
    have d0 := HV5.out.c0
    have d1 := HV5.out.c1
    have d2 := HV5.out.c2
    refine bodyPost_ret (v := .tuple #[mv (kr : Nat) r s4 M d4, .int .i64 0]) (by simp [results, Try.results20, go_sem, d0, d1, d2, mv]) rfl ?_
    obtain ⟨f2, f3, f4, f5, f6⟩ := HF4.out
    exact .inl ⟨⟨s4, d4, kr, top, p, G, H, by rw [HMM.out], by rw [HMM.out]; exact HM4.out.kept HG5.out (fun _ => HFr4.out.off hwb), f2, f3, f4, f5, f6, by rw [HMM.out]; exact (HFr4.out.kept HG5.out hwb).mono (by omega), below_row (two_below HX.out.below HB4.out) HG5.out (by omega)⟩, HK.out⟩
  · have htl : t < c := by omega
    go_enter Try.func20, Try.ntmps20
    go_wp2_with (first
      | (go_at_call 53; rw [← HW.out]; refine (tall_yes _ _ _ _ _ _ HR.out.p HCl.out).mono ?_; rintro e w1 ⟨rfl, hb1⟩; have HB1 : Hid (Below wb.heap.size wb w1) := hb1; have a0 := (HX.out.va.later hb1).c0; have a1 := (HX.out.va.later hb1).c1; have a2 := (HX.out.va.later hb1).c2; clear hb1)
      | (go_at_call 61; have _x := HB1; refine (mtrans_ok _ r c n k a F (HA.out.later (two_below HX.out.below HB1.out)) HR.out).mono ?_; rintro e w3 ⟨g3, rfl, hr3, hg3, hb3⟩; have HM3 : Hid (Mt (w3.alloc (.cells #[.int .i64 (c : Int), .int .i64 (r : Int), .slice (some ⟨g3, 0, none⟩) n n] 24)) (some ⟨g3, 0, none⟩) n n (trf F r c)) := (hr3.mt (trf_el4 HA.out.sl.1 HR.out)).later (alloc_low _ _); have HB3 : Hid (Below wb.heap.size wb (w3.alloc (.cells #[.int .i64 (c : Int), .int .i64 (r : Int), .slice (some ⟨g3, 0, none⟩) n n] 24))) := two_below (two_below HB1.out hb3) (alloc_low _ _); clear hr3 hg3 hb3)
      | (go_at_call 62; have _x := HB3; refine (gker_ok _ c r n n _ _ HM3.out (rt_turn6 HR.out)).mono ?_; rintro e w4 ⟨s4, d4, kr, top, p, G, H, rfl, hm4, hR4, hS4, hp4, hk4, hH4, hb4⟩; have hkt := (kr_of HR.out HK.out hR4 hS4 hp4 hk4).1; obtain ⟨M, HMM⟩ : ∃ x, Hid (kr * r = x) := ⟨_, rfl⟩; rw [HMM.out] at hm4 ⊢; have HB4 : Hid (Below wb.heap.size wb (w4.alloc (.cells #[.int .i64 (kr : Int), .int .i64 (r : Int), .slice s4 M d4] 24))) := two_below (two_below HB3.out hb4) (alloc_low _ _); have HV4 : Hid (Vr (w4.alloc (.cells #[.int .i64 (kr : Int), .int .i64 (r : Int), .slice s4 M d4] 24)) (w.heap.size + 1) (.int .i64 0) (.int .i64 0) (.slice none 0 0)) := HX.out.vr.later HB4.out; have HT4 := Vr.new w4 (.int .i64 (kr : Int)) (.int .i64 (r : Int)) (.slice s4 M d4); have z0 := HT4.c0; have z1 := HT4.c1; have z2 := HT4.c2; have y0 := (HX.out.va.later HB4.out).c0; have y1 := (HX.out.va.later HB4.out).c1; have y2 := (HX.out.va.later HB4.out).c2; have g1 : decide ((r : Int) - (c : Int) < (kr : Int)) = true := (by simp; omega); clear hm4 hR4 hS4 hp4 hk4 hH4 hb4 HT4)
      | (refine wpList_store_var rfl _ _ rfl (w.heap.size + 1) _ _ _ (.int .i64 0) (.int .i64 0) (.slice none 0 0) rfl rfl HV4.out rfl rfl rfl ?_; intro w5 HV5 HG5))
    have d0 := HV5.out.c0
    have d1 := HV5.out.c1
    have d2 := HV5.out.c2
    refine bodyPost_ret (v := .tuple #[mv 0 0 none 0 0, .int .i64 6]) (by simp [results, Try.results20, go_sem, d0, d1, d2, mv]) rfl ?_
    exact .inr ⟨rfl, below_row (two_below HX.out.below HB4.out) HG5.out (by omega), t, htl, HK.out⟩
theorem bchk_ok (w : World) (r c n k : Nat) (a : Option Addr) (F : Nat → Nat) (ha : Mt w a n k F) (R : Rt r c n) (hcr : c ≤ r) (hk : Rk (m2 F r c) r c) :
    Calls Try.prog 20 #[mv r c a n k] w fun e w' => ChkP w w' e r c F :=
  (bchk_x w r c n k a F ha R hcr).mono (fun _ _ h => by
    rcases h with ⟨h, _⟩ | ⟨_, _, t, ht, h⟩
    · exact h
    · have := h.uniq (m2_el ha.sl.1 R) hk
      omega)
theorem bchk_sing (w : World) (r c n k q : Nat) (a : Option Addr) (F : Nat → Nat) (ha : Mt w a n k F) (R : Rt r c n) (hcr : c ≤ r) (hk : Rk (m2 F r c) r q) (hq : q < c) :
    Calls Try.prog 20 #[mv r c a n k] w fun e w' => e = .returned (.tuple #[mv 0 0 none 0 0, .int .i64 6]) ∧ Below w.heap.size w w' :=
  (bchk_x w r c n k a F ha R hcr).mono (fun _ _ h => by
    rcases h with ⟨_, h⟩ | ⟨h1, h2, _⟩
    · have := h.uniq (m2_el ha.sl.1 R) hk
      omega
    · exact ⟨h1, h2⟩)
set_option maxRecDepth 20000 in
set_option maxHeartbeats 2000000 in
theorem bchk_bad (w : World) (r c : Int) (n k : Nat) (a : Option Addr) (h : ¬ (RightP r c n ∧ c ≤ r)) :
    Calls Try.prog 20 #[mv r c a n k] w fun e w' => e = .returned (.tuple #[mv 0 0 none 0 0, .int .i64 3]) ∧ Below w.heap.size w w' := by
  obtain ⟨wb, HW, HX⟩ : ∃ wb, Hid (wb = (w.alloc (.cells #[.int .i64 r, .int .i64 c, .slice a n k] 24)).alloc (.cells #[.int .i64 0, .int .i64 0, .slice none 0 0] 24)) ∧ Hid (Box2 w wb r c n k a) := ⟨_, rfl, box2 w r c n k a⟩
  have v0 := HX.out.va.c0
  have v1 := HX.out.va.c1
  have v2 := HX.out.va.c2
  have hwb : w.heap.size + 1 < wb.heap.size := HX.out.vr.lt
  have H1 : Hid (¬ (RightP r c n ∧ c ≤ r)) := h
  clear h
  go_enter Try.func20, Try.ntmps20
  go_wp2_with (first
    | (go_at_call 53; rw [← HW.out]; refine (tall_no _ _ _ _ _ _ H1.out).mono ?_; rintro e w1 ⟨rfl, hb1⟩; have HB1 : Hid (Below wb.heap.size wb w1) := hb1; have HVz : Hid (Vr w1 (w.heap.size + 1) (.int .i64 0) (.int .i64 0) (.slice none 0 0)) := HX.out.vr.later HB1.out; clear hb1)
    | (refine wpList_store_var rfl _ _ rfl (w.heap.size + 1) _ _ _ (.int .i64 0) (.int .i64 0) (.slice none 0 0) rfl rfl HVz.out rfl rfl rfl ?_; intro w5 HV5 HG5))
  have d0 := HV5.out.c0
  have d1 := HV5.out.c1
  have d2 := HV5.out.c2
  refine bodyPost_ret (v := .tuple #[mv 0 0 none 0 0, .int .i64 3]) (by simp [results, Try.results20, go_sem, d0, d1, d2, mv]) rfl ?_
  exact ⟨rfl, below_row (two_below HX.out.below HB1.out) HG5.out (by omega)⟩
end Go.Proofs.Ytblfldjlehjnbaa

namespace Go.Proofs.Ytblfldjlehjnbaa
open Go.RowKit
set_option maxRecDepth 20000 in
set_option maxHeartbeats 1000000 in
theorem like5_any (w : World) (r c r' c' e g : Int) (a b : Option Addr) (n m k d : Nat) (f h : Nat → Nat) (ha : Sl w a n f) (hb : Sl w b m h) (s : Bool) (HS : Hid (((e == g) && likeB r c r' c' n m f h) = s)) :
    Calls Try.prog 15 #[mv r c a n k, .int .i64 e, mv r' c' b m d, .int .i64 g] w fun o w' => o = .returned (.bool s) ∧ Below w.heap.size w w' := by
  obtain ⟨wb, HW⟩ : ∃ wb, Hid (wb = (w.alloc (.cells #[.int .i64 r, .int .i64 c, .slice a n k] 24)).alloc (.cells #[.int .i64 r', .int .i64 c', .slice b m d] 24)) := ⟨_, rfl⟩
  have HB0 : Hid (Below w.heap.size w wb) := by rw [HW.out]; exact two_below (alloc_low _ _) (alloc_low _ _)
  have HA : Hid (Sl wb a n f) := ha.later HB0.out
  have HB : Hid (Sl wb b m h) := hb.later HB0.out
  clear ha hb
  cases g1 : (e == g) with
  | false =>
    obtain rfl : s = false := by rw [← HS.out, g1]; rfl
    clear HS
    go_enter Try.func15, Try.ntmps15
    go_wp2
    go_ret
    exact ⟨rfl, two_below (alloc_low _ _) (alloc_low _ _)⟩
  | true =>
    have HS2 : Hid (likeB r c r' c' n m f h = s) := by show _ = _; rw [← HS.out, g1]; rfl
    clear HS
    go_enter Try.func15, Try.ntmps15
    go_wp2_with (go_at_call 29; rw [← HW.out]; refine (like_exact _ _ _ _ _ _ _ _ _ _ _ f h HA.out HB.out).mono ?_; rw [HS2.out]; rintro o w1 ⟨rfl, hb1⟩; have HB1 : Hid (Below wb.heap.size wb w1) := hb1; clear hb1)
    go_ret
    exact ⟨rfl, two_below HB0.out HB1.out⟩
/-- A matrix as a list. -/
def lsm (A : Nat → Nat → Nat) (c q : Nat) : Nat := A (q / c) (q % c)
theorem lsm_at {A : Nat → Nat → Nat} {c i j : Nat} (hj : j < c) : lsm A c (i * c + j) = A i j := by unfold lsm; rw [dm1 hj, dm2 hj]
theorem prk_same {F G H : Nat → Nat} {ca cb p : Nat} (h : ∀ q, q < ca * cb → G q = H q) (hb : 0 < cb) : prk F G ca cb ca p = prk F H ca cb ca p := by
  unfold prk
  refine xs_congr fun t ht => ?_
  rw [h _ (by
    have h1 : p % cb < cb := Nat.mod_lt _ hb
    have h2 : (t + 1) * cb ≤ ca * cb := Nat.mul_le_mul_right cb ht
    rw [Nat.add_mul, Nat.one_mul] at h2
    omega)]
theorem inv_list {F : Nat → Nat} {c N : Nat} (hF : ∀ i, i < N → F i < 256) (R : Rt c c N) (hk : Rk (m2 F c c) c c) : ∃ X : Nat → Nat, (∀ q, q < N → X q < 256) ∧ ∀ i j, i < c → j < c → pr (m2 F c c) (m2 X c c) c i j = dl i j := by
  obtain ⟨A, hA, _, h2⟩ := inv_ex (m2_el hF R) (fun i j _ hj => m2_cut F hj) hk
  refine ⟨lsm A c, fun q _ => hA _ _, fun i j hi hj => ?_⟩
  rw [← h2 i j hi hj]
  exact xs_congr fun t ht => by rw [m2_at _ ht hj, lsm_at hj]
theorem sys_ans {w w' : World} {e : Ending} {r c n : Nat} {F X0 : Nat → Nat} (R : Rt r c n) (hcr : c ≤ r) (hF : ∀ i, i < n → F i < 256) (hk : Rk (m2 F c c) c c) (hX0 : ∀ q, q < c * c → X0 q < 256) (h0 : ∀ i j, i < c → j < c → pr (m2 F c c) (m2 X0 c c) c i j = dl i j) (h : SysP w w' e r c n F) : MAns w w' e r c n (prk F X0 c c c) 0 := by
  obtain ⟨g, X, he, hr, hX, hp, hg, hb⟩ := h
  have hlen : c * c ≤ n := by rw [← R.len]; exact Nat.mul_le_mul_right c hcr
  have hF2 : ∀ i, i < c * c → F i < 256 := fun i hi => hF i (by omega)
  have hs : ∀ q, q < c * c → X q = X0 q := inv_one hF2 hX hX0 ⟨R.c64, R.c64, rfl⟩ hk hp h0
  have hr2 : RowAt w' g 5 n (prk F X0 c c c) := hr.congr (fun p hp => prk_same hs (by
    have := R.len
    by_cases e : c = 0
    · subst e; omega
    · omega))
  exact mans_row (prk_all X0 hF R R) ⟨g, he, hr2, hg, hb⟩
theorem rsys_p (w : World) (r c n k : Nat) (a : Option Addr) (F : Nat → Nat) (ha : Mt w a n k F) (R : Rt r c n) (hcr : c ≤ r) (hk : Rk (m2 F c c) c c) :
    Calls Try.prog 19 #[mv r c a n k] w fun e w' => SysP w w' e r c n F := rsys_ok w r c n k a F ha R hcr hk
theorem sys_pair (r c : Int) (n : Nat) (F : Nat → Nat) (hF : ∀ i, i < n → F i < 256) : ∃ (R C : Int) (N : Nat) (f : Nat → Nat) (E : Int), ∀ (w : World) (k : Nat) (a : Option Addr), Mt w a n k F →
    Calls Try.prog 18 #[mv r c a n k] w (fun e w' => MAns w w' e R C N f E) ∧ Calls Try.prog 19 #[mv r c a n k] w (fun e w' => MAns w w' e R C N f E) := by
  by_cases h : RightP r c n ∧ c ≤ r
  · obtain ⟨h1, h2⟩ := h
    obtain ⟨ra, ca, rfl, rfl, R⟩ := right_rt h1
    have hcr : ca ≤ ra := by omega
    have hlen : ca * ca ≤ n := by rw [← R.len]; exact Nat.mul_le_mul_right ca hcr
    have hF2 : ∀ i, i < ca * ca → F i < 256 := fun i hi => hF i (by omega)
    have R2 : Rt ca ca (ca * ca) := ⟨R.c64, R.c64, rfl⟩
    have he := m2_el hF2 R2
    obtain ⟨t, ht⟩ := rk_ex he ca
    have htc : t ≤ ca := ht.le (Le.refl he ca)
    by_cases hq : t = ca
    · subst hq
      obtain ⟨X0, hX0, h0⟩ := inv_list hF2 R2 ht
      exact ⟨_, _, _, _, _, fun w k a ha => ⟨(bsys_ok w ra t n k a F ha R hcr ht).mono (fun _ _ h => sys_ans R hcr hF ht hX0 h0 h), (rsys_p w ra t n k a F ha R hcr ht).mono (fun _ _ h => sys_ans R hcr hF ht hX0 h0 h)⟩⟩
    · exact ⟨_, _, _, _, _, fun w k a ha => ⟨(bsys_sing w ra ca n k t a F ha R hcr ht (by omega)).mono (fun _ _ h => mans_bad h), (rsys_sing w ra ca n k t a F ha R hcr ht (by omega)).mono (fun _ _ h => mans_bad h)⟩⟩
  · exact ⟨_, _, _, _, _, fun w k a _ => ⟨(bsys_bad w r c n k a h).mono (fun _ _ h => mans_bad h), (rsys_bad w r c n k a h).mono (fun _ _ h => mans_bad h)⟩⟩
end Go.Proofs.Ytblfldjlehjnbaa

namespace Go.Proofs.Ytblfldjlehjnbaa
open Go.RowKit
def upi (q p : Nat) : Nat := if p < q then p else 0
theorem m2_pick5 {F q : Nat → Nat} {k r n i : Nat} (R : Rt r k n) (hq : ∀ i, i < k → q i < r) (hi : i < k) : m2 (pkf F q k) k k i = m2 F r k (q i) := funext fun j => by
  have _ := R
  by_cases hj : j < k
  · rw [m2_at _ hi hj, m2_at _ (hq i hi) hj, pkf_at F q k i j hj]
  · rw [m2_cut _ (by omega), m2_cut _ (by omega)]
theorem pkf_el {F q : Nat → Nat} {k r n : Nat} (hF : ∀ i, i < n → F i < 256) (R : Rt r k n) (hq : ∀ i, i < k → q i < r) : ∀ p, p < k * k → pkf F q k p < 256 := fun p hp => by
  obtain ⟨i, j, hi, hj, rfl⟩ := place_of (r := k) (c := k) ⟨R.c64, R.c64, rfl⟩ hp
  rw [pkf_at F q k i j hj]
  exact hF _ (R.at (hq i hi) hj)
theorem chk_iff {F G H p Y : Nat → Nat} {r c top kr : Nat} (hR : Rdf (m2 G c r) c top p) (hS : SpEq (m2 G c r) c (m2 (trf F r c) c r) c) (hp : ∀ i, i < top → p i < r) (ek : kr = cnt (fre p top) r) (hH : ∀ u l, u < kr → l < r → H (u * r + l) = kv (m2 G c r) p top (nth (fre p top) r u) l) (hY : ∀ i, i < r → Y i < 256) :
    (∀ u, u < kr → apf H Y r u = 0) ↔ Spn (m2 (trf F r c) c r) c (ext0 Y r) := by
  have hE : El2 (m2 G c r) := el_span hS
  have hd : ∀ u, u < kr → apf H Y r u = dt (kv (m2 G c r) p top (nth (fre p top) r u)) (ext0 Y r) r := fun u hu => xs_congr fun l hl => by
    rw [hH u l hu hl]
    unfold ext0
    rw [if_pos hl]
  constructor
  · intro h
    have h1 : Spn (m2 G c r) c (ext0 Y r) := chk_span hE hR hp (fun i j _ hj => m2_cut G hj) (ext0_el hY) (fun j hj => if_neg (by omega)) (fun f hf hpf => by
      have hfr : fre p top f = true := by unfold fre; rw [hpf]; rfl
      have hu : cnt (fre p top) f < kr := by rw [ek]; exact cnt_lt hf hfr
      have := h _ hu
      rw [hd _ hu, nth_cnt hf hfr] at this
      exact this)
    exact h1.trans hS.1
  · intro h u hu
    rw [hd u hu]
    obtain ⟨h1, h2, _⟩ := nth_spec (fre p top) r u (by rw [← ek]; exact hu)
    exact chk_span' hE hR hp (h.trans hS.2) h1 (by
      have h3 : (!pvt p top (nth (fre p top) r u)) = true := h2
      simpa using h3)
theorem apf_spn {F D : Nat → Nat} {r c n : Nat} (hF : ∀ i, i < n → F i < 256) (R : Rt r c n) (hD : ∀ i, i < c → D i < 256) : Spn (m2 (trf F r c) c r) c (ext0 (apf F D c) r) := by
  refine ⟨ext0 D c, ext0_el hD, fun j => ?_⟩
  unfold ext0
  by_cases hj : j < r
  · rw [if_pos hj]
    refine xs_congr fun t ht => ?_
    dsimp only
    rw [if_pos ht, m2_trf F t j ht hj, m2_at _ hj ht, fm_comm _ _ (hF _ (R.at hj ht)) (hD t ht)]
  · rw [if_neg hj]
    refine (xs_zero fun t ht => ?_).symm
    rw [m2_cut _ (by omega)]
    exact fm_zero _
end Go.Proofs.Ytblfldjlehjnbaa
