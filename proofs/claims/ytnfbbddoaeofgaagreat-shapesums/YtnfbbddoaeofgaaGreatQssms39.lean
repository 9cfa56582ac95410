/-
  Contracts of the program's build: Systematic.
-/
import Derived.Test.YtnfbbddoaeofgaaGreatQssms00
import Derived.Test.YtnfbbddoaeofgaaGreatQssms38
import Derived.Test.YtnfbbddoaeofgaaGreatQssms37
set_option maxRecDepth 100000
set_option maxHeartbeats 16000000
namespace Go.Proofs.YtnfbbddoaeofgaaGreat
open Go.RowKit
theorem Mt.congr {w : World} {a : Option Addr} {n k : Nat} {F G : Nat → Nat} (h : Mt w a n k F) (e : ∀ i, i < n → F i = G i) : Mt w a n k G := ⟨h.sl.congr e, h.room, h.nil⟩
theorem pk_top {F : Nat → Nat} {c q : Nat} : pkf F (fun i => 0 + i) c q = F q := by
 unfold pkf
 dsimp only
 rw [Nat.zero_add]
 congr 1
 rw [Nat.mul_comm]
 exact Nat.div_add_mod q c
theorem Rk.uniq {A : Nat → Nat → Nat} {r s t : Nat} (h : Rk A r s) (hA : El2 A) (h2 : Rk A r t) : s = t := h.unique h2 (SpEq.refl hA r)
theorem top_el {w : World} {r c n k : Nat} {a : Option Addr} {F : Nat → Nat} (ha : Mt w a n k F) (R : Rt r c n) (hcr : c ≤ r) : El2 (m2 F c c) :=
 qci (fun i hi => ha.sl.1 i (by have := Nat.mul_le_mul_right c hcr; have := R.len; omega)) ⟨R.c64, R.c64, rfl⟩
/-- What Systematic answers. -/
def SysP (w w' : World) (e : Ending) (r c n : Nat) (F : Nat → Nat) : Prop := ∃ g X, e = .returned (.tuple #[mv r c (some ⟨g, 0, none⟩) n n, .int .i64 0]) ∧ RowAt w' g 5 n (prk F X c c c) ∧ (∀ q, q < c * c → X q < 256) ∧ (∀ i j, i < c → j < c → pr (m2 F c c) (m2 X c c) c i j = dl i j) ∧ w.heap.size ≤ g ∧ Below w.heap.size w w'
theorem bsys_x (w : World) (r c n k : Nat) (a : Option Addr) (F : Nat → Nat) (ha : Mt w a n k F) (R : Rt r c n) (hcr : c ≤ r) :
  Calls Tryz.prog 73 #[mv r c a n k] w fun e w' => (SysP w w' e r c n F ∧ Rk (m2 F c c) c c) ∨ (e = .returned (.tuple #[mv 0 0 none 0 0, .int .i64 6]) ∧ Below w.heap.size w w' ∧ ∃ t, t < c ∧ Rk (m2 F c c) c t) := by
 obtain ⟨wb, HW, HX⟩ : ∃ wb, Hid (wb = (w.alloc (.cells #[.int .i64 (r : Int), .int .i64 (c : Int), .slice a n k] 24)).alloc (.cells #[.int .i64 0, .int .i64 0, .slice none 0 0] 24)) ∧ Hid (Box2 w wb r c n k a) := ⟨_, rfl, box2 w r c n k a⟩
 obtain ⟨N, HN⟩ : ∃ N, Hid (c * c = N) := ⟨_, rfl⟩
 have HA : Hid (Mt w a n k F) := ha
 have HR : Hid (Rt r c n) := R
 have HC : Hid (Rt c c N) := ⟨R.c64, R.c64, HN.out⟩
 have HCr : Hid (c ≤ r) := hcr
 have hcl : (c : Int) ≤ (r : Int) := by omega
 have HCl : Hid ((c : Int) ≤ (r : Int)) := hcl
 have hc2 : c ≤ 64 := R.c64
 have hc1 : c ≤ 1000 := by omega
 have HC0 : Hid (Hid (0 + c = c)) := qcd (qcd (Nat.zero_add c))
 have hNn : N ≤ n := by rw [← HN.out, ← R.len]; exact Nat.mul_le_mul_right c hcr
 have HPk : Hid (∀ i, i < N → pkf F (fun i => 0 + i) c i < 256) := fun i hi => by rw [pk_top]; exact ha.sl.1 i (by omega)
 have HPq : Hid (∀ i, i < N → pkf F (fun i => 0 + i) c i = F i) := fun i _ => pk_top
 have v0 := HX.out.va.c0
 have v1 := HX.out.va.c1
 have v2 := HX.out.va.c2
 have hwb : w.heap.size + 1 < wb.heap.size := HX.out.vr.lt
 clear ha R hcl
 go_enter Tryz.func73, Tryz.ntmps73
 go_wp2_with (go_at_call 110; rw [← HW.out]; refine (tall_yes _ _ _ _ _ _ HR.out.p HCl.out).mono ?_; rintro e w1 ⟨rfl, hb1⟩; have HB1 : Hid (Below wb.heap.size wb w1) := hb1; clear hb1)
 refine Code.wp_mono (Q := fun ex a' x4 => ex = .normal ∧ ∃ (b4 g4 : Nat) (s3 : Option Addr) (d3 : Nat), a' = { tmps := #[mv (r : Int) (c : Int) a n k, .pointer (some ⟨w.heap.size, 0, none⟩), .pointer (some ⟨w.heap.size + 1, 0, none⟩), .int .i64 0, .pointer (some ⟨b4, 0, none⟩), .int .i64 0, undef, undef, .agg #[.int .i64 (r : Int), .int .i64 (c : Int), .slice a n k], .bool true, .bool false, undef, .tuple #[mv (c : Int) (c : Int) (some ⟨g4, 0, none⟩) N N, .int .i64 0], .agg #[.int .i64 (r : Int), .int .i64 (c : Int), .slice a n k], .pointer (some ⟨w.heap.size, 1, none⟩), .int .i64 (c : Int), .slice s3 c d3, .tuple #[mv (c : Int) (c : Int) (some ⟨g4, 0, none⟩) N N, .int .i64 0], mv (c : Int) (c : Int) (some ⟨g4, 0, none⟩) N N, .int .i64 0, undef, undef, undef, undef, undef, undef, undef, undef, undef, undef, undef, undef, undef, undef], defers := [] } ∧ Vr x4 b4 (.int .i64 (c : Int)) (.int .i64 (c : Int)) (.slice (some ⟨g4, 0, none⟩) N N) ∧ Mt x4 (some ⟨g4, 0, none⟩) N N F ∧ Below wb.heap.size wb x4) ?tail ?reg
 case reg =>
  refine wp_region_held (S := fun w' => w'.cell? ⟨w.heap.size, 0, none⟩ = some (.int .i64 (r : Int)) ∧ w'.cell? ⟨w.heap.size, 1, none⟩ = some (.int .i64 (c : Int)) ∧ w'.cell? ⟨w.heap.size, 2, none⟩ = some (.slice a n k)) (by kernel_rfl) ?_
  change wpAnyH _ _ _ _ _ _ _ _ (World.drew _)
  obtain ⟨x0, HX0⟩ : ∃ x, Hid (x = w1.drew) := ⟨_, rfl⟩
  rw [← HX0.out]
  have HB_x0 : Hid (Below wb.heap.size wb x0) := by rw [HX0.out]; exact HB1.out.drew
  have HD_x0 : Hid (x0.cell? ⟨w.heap.size, 0, none⟩ = some (.int .i64 (r : Int)) ∧ x0.cell? ⟨w.heap.size, 1, none⟩ = some (.int .i64 (c : Int)) ∧ x0.cell? ⟨w.heap.size, 2, none⟩ = some (.slice a n k)) := ⟨(HX.out.va.later HB_x0.out).c0, (HX.out.va.later HB_x0.out).c1, (HX.out.va.later HB_x0.out).c2⟩
  refine wpAnyH_take (i := 0) (v := ?va0) rfl (by kernel_rfl) (by kernel_rfl) (by kernel_rfl) (fun _ _ _ h => by cases h.1) (Or.inl ⟨by rfl, ?ya0⟩) HD_x0.out ?za0
  case ya0 => (intro w hSw; (try dsimp only at hSw); go_simp; try with_reducible rfl)
  try simp only [mz1, mz3, Act.put, mz4, mz5, mz6]
  refine wpAnyH_take (i := 1) (v := ?va1) rfl (by kernel_rfl) (by kernel_rfl) (by kernel_rfl) (fun _ _ _ h => by cases h.1) (Or.inl ⟨by rfl, ?ya1⟩) HD_x0.out ?za1
  case ya1 => (intro w hSw; (try dsimp only at hSw); go_simp; try with_reducible rfl)
  try simp only [mz1, mz2, mz3, Act.put, mz4, mz5, mz6]
  refine wpAnyH_take (i := 2) (v := ?va2) rfl (by kernel_rfl) (by kernel_rfl) (by kernel_rfl) (fun _ _ _ h => by cases h.1) (Or.inl ⟨by rfl, ?ya2⟩) HD_x0.out ?za2
  case ya2 => (intro w hSw; (try dsimp only at hSw); go_simp; try with_reducible rfl)
  try simp only [mz1, mz2, mz3, Act.put, mz4, mz5, mz6]
  refine wpAnyH_ready (rs := [3, 8]) (by kernel_rfl) (by simp) ?_
  refine AllReadyH.cons rfl (fun K hK => ?_) (AllReadyH.cons rfl (fun K hK => ?_) AllReadyH.nil)
  ·go_simp
   refine (qef _ 0 c c HC0.out hc1).mono ?_
   rintro e x1 ⟨s3, d3, rfl, ho3, hb3⟩
   have HO_x1 : Hid (Oi x1 x0.heap.size (.slice s3 c d3) c (fun i => 0 + i)) := ho3
   have HB_x1 : Hid (Below wb.heap.size wb x1) := qa2 HB_x0.out hb3
   have HD_x1 : Hid (x1.cell? ⟨w.heap.size, 0, none⟩ = some (.int .i64 (r : Int)) ∧ x1.cell? ⟨w.heap.size, 1, none⟩ = some (.int .i64 (c : Int)) ∧ x1.cell? ⟨w.heap.size, 2, none⟩ = some (.slice a n k)) := ⟨(HX.out.va.later HB_x1.out).c0, (HX.out.va.later HB_x1.out).c1, (HX.out.va.later HB_x1.out).c2⟩
   clear ho3 hb3
   refine hK.out _ _ HD_x1.out (fun _ => ?_)
   clear hK K
   try simp only [mz1, mz2, mz3, Act.put, mz4, mz5, mz6]
   refine wpAnyH_ready (rs := [4, 8]) (by kernel_rfl) (by simp) ?_
   refine AllReadyH.cons rfl (fun K hK => ?_) (AllReadyH.cons rfl (fun K hK => ?_) AllReadyH.nil)
   ·go_simp
    refine (qcv _ r c n k c d3 N a s3 F (fun i => 0 + i) (HA.out.later (qa2 HX.out.below HB_x1.out)) HR.out HO_x1.out.il (fun i hi => by omega) hc2 HN).mono ?_
    rintro e x2 ⟨g4, rfl, hr4, hg4, hb4⟩
    have HM_x2 : Hid (Mt x2 (some ⟨g4, 0, none⟩) N N F) := (hr4.mt (HPk.out)).congr (HPq.out)
    have HB_x2 : Hid (Below wb.heap.size wb x2) := qa2 HB_x1.out hb4
    have HD_x2 : Hid (x2.cell? ⟨w.heap.size, 0, none⟩ = some (.int .i64 (r : Int)) ∧ x2.cell? ⟨w.heap.size, 1, none⟩ = some (.int .i64 (c : Int)) ∧ x2.cell? ⟨w.heap.size, 2, none⟩ = some (.slice a n k)) := ⟨(HX.out.va.later HB_x2.out).c0, (HX.out.va.later HB_x2.out).c1, (HX.out.va.later HB_x2.out).c2⟩
    have hlt4 : g4 < x2.heap.size := hr4.lt
    clear hr4 hg4 hb4
    refine hK.out _ _ HD_x2.out (fun _ => ?_)
    clear hK K
    try simp only [mz1, mz2, mz3, Act.put, mz4, mz5, mz6]
    refine wpAnyH_take (i := 5) (v := ?ve5) rfl (by kernel_rfl) (by kernel_rfl) (by kernel_rfl) (fun _ _ _ h => by cases h.1) (Or.inl ⟨by rfl, ?ye5⟩) HD_x2.out ?ze5
    case ye5 => (intro w hSw; (try dsimp only at hSw); go_simp; try with_reducible rfl)
    try simp only [mz1, mz2, mz3, Act.put, mz4, mz5, mz6]
    refine wpAnyH_take (i := 6) (v := ?ve6) rfl (by kernel_rfl) (by kernel_rfl) (by kernel_rfl) (fun _ _ _ h => by cases h.1) (Or.inl ⟨by rfl, ?ye6⟩) HD_x2.out ?ze6
    case ye6 => (intro w hSw; (try dsimp only at hSw); go_simp; try with_reducible rfl)
    try simp only [mz1, mz2, mz3, Act.put, mz4, mz5, mz6]
    refine wpAnyH_take (i := 7) (v := ?ve7) rfl (by kernel_rfl) (by kernel_rfl) (by kernel_rfl) (fun _ _ _ h => by cases h.1) (Or.inl ⟨by rfl, ?ye7⟩) HD_x2.out ?ze7
    case ye7 => (intro w hSw; (try dsimp only at hSw); go_simp; try with_reducible rfl)
    try simp only [mz1, mz2, mz3, Act.put, mz4, mz5, mz6]
    refine wpAnyH_ready (rs := [8]) (by kernel_rfl) (by simp) ?_
    refine AllReadyH.cons rfl (fun K hK => ?_) AllReadyH.nil
    go_simp
    obtain ⟨x3, HWx3⟩ : ∃ x, Hid (x = x2.alloc (.cells #[.int .i64 0, .int .i64 0, .slice none 0 0] 24)) := ⟨_, rfl⟩
    rw [← HWx3.out]
    have hbx3 : Below x2.heap.size x2 x3 := by rw [HWx3.out]; exact qa1 _ _
    have HT_x3 : Hid (Vr x3 x2.heap.size (.int .i64 0) (.int .i64 0) (.slice none 0 0)) := by rw [HWx3.out]; exact Vr.new x2 _ _ _
    have HB_x3 : Hid (Below wb.heap.size wb x3) := qa2 HB_x2.out hbx3
    have HD_x3 : Hid (x3.cell? ⟨w.heap.size, 0, none⟩ = some (.int .i64 (r : Int)) ∧ x3.cell? ⟨w.heap.size, 1, none⟩ = some (.int .i64 (c : Int)) ∧ x3.cell? ⟨w.heap.size, 2, none⟩ = some (.slice a n k)) := ⟨(HX.out.va.later HB_x3.out).c0, (HX.out.va.later HB_x3.out).c1, (HX.out.va.later HB_x3.out).c2⟩
    have HM_x3 : Hid (Mt x3 (some ⟨g4, 0, none⟩) N N F) := HM_x2.out.later hbx3
    have hne4 : g4 ≠ x2.heap.size := Nat.ne_of_lt hlt4
    clear hbx3
    refine hK.out _ _ HD_x3.out (fun _ => ?_)
    clear hK K
    try simp only [mz1, mz2, mz3, Act.put, mz4, mz5, mz6]
    refine wpAnyH_ready (rs := [9]) (by kernel_rfl) (by simp) ?_
    refine AllReadyH.cons rfl (fun K hK => ?_) AllReadyH.nil
    refine qam rfl _ _ rfl x2.heap.size _ _ _ (.int .i64 (c : Int)) (.int .i64 (c : Int)) (.slice (some ⟨g4, 0, none⟩) N N) rfl rfl HT_x3.out rfl rfl rfl ?_
    intro x4 HVt HGt
    have hbB : wb.heap.size ≤ x2.heap.size := HB_x2.out.size
    have HB_x4 : Hid (Below wb.heap.size wb x4) := qa4 HB_x3.out HGt.out hbB
    have HD_x4 : Hid (x4.cell? ⟨w.heap.size, 0, none⟩ = some (.int .i64 (r : Int)) ∧ x4.cell? ⟨w.heap.size, 1, none⟩ = some (.int .i64 (c : Int)) ∧ x4.cell? ⟨w.heap.size, 2, none⟩ = some (.slice a n k)) := ⟨(HX.out.va.later HB_x4.out).c0, (HX.out.va.later HB_x4.out).c1, (HX.out.va.later HB_x4.out).c2⟩
    have HM_x4 : Hid (Mt x4 (some ⟨g4, 0, none⟩) N N F) := HM_x3.out.kept HGt.out (fun _ x hx e => by cases hx; exact hne4 e)
    refine hK.out _ _ HD_x4.out (fun _ => ?_)
    clear hK K
    try simp only [mz1, mz2, mz3, Act.put]
    refine wpAnyH_take (i := 10) (v := ?vb10) rfl (by kernel_rfl) (by kernel_rfl) (by kernel_rfl) (fun _ _ _ h => by cases h.1) (Or.inl ⟨by rfl, ?yb10⟩) HD_x4.out ?zb10
    case yb10 => (intro w hSw; (try dsimp only at hSw); go_simp; try with_reducible rfl)
    try simp only [mz1, mz2, mz3, Act.put, mz4, mz5, mz6]
    refine wpAnyH_done (by kernel_rfl) ?_ _
    exact ⟨rfl, x2.heap.size, g4, s3, d3, rfl, HVt.out, HM_x4.out, HB_x4.out⟩
   ·go_simp
    obtain ⟨x2, HWx2⟩ : ∃ x, Hid (x = x1.alloc (.cells #[.int .i64 0, .int .i64 0, .slice none 0 0] 24)) := ⟨_, rfl⟩
    rw [← HWx2.out]
    have hbx2 : Below x1.heap.size x1 x2 := by rw [HWx2.out]; exact qa1 _ _
    have HT_x2 : Hid (Vr x2 x1.heap.size (.int .i64 0) (.int .i64 0) (.slice none 0 0)) := by rw [HWx2.out]; exact Vr.new x1 _ _ _
    have HB_x2 : Hid (Below wb.heap.size wb x2) := qa2 HB_x1.out hbx2
    have HD_x2 : Hid (x2.cell? ⟨w.heap.size, 0, none⟩ = some (.int .i64 (r : Int)) ∧ x2.cell? ⟨w.heap.size, 1, none⟩ = some (.int .i64 (c : Int)) ∧ x2.cell? ⟨w.heap.size, 2, none⟩ = some (.slice a n k)) := ⟨(HX.out.va.later HB_x2.out).c0, (HX.out.va.later HB_x2.out).c1, (HX.out.va.later HB_x2.out).c2⟩
    have HO_x2 : Hid (Oi x2 x0.heap.size (.slice s3 c d3) c (fun i => 0 + i)) := HO_x1.out.later hbx2
    refine hK.out _ _ HD_x2.out (fun _ => ?_)
    clear hK K
    try simp only [mz1, mz2, mz3, Act.put, mz4, mz5, mz6]
    refine wpAnyH_ready (rs := [4]) (by kernel_rfl) (by simp) ?_
    refine AllReadyH.cons rfl (fun K hK => ?_) AllReadyH.nil
    go_simp
    refine (qcv _ r c n k c d3 N a s3 F (fun i => 0 + i) (HA.out.later (qa2 HX.out.below HB_x2.out)) HR.out HO_x2.out.il (fun i hi => by omega) hc2 HN).mono ?_
    rintro e x3 ⟨g4, rfl, hr4, hg4, hb4⟩
    have HM_x3 : Hid (Mt x3 (some ⟨g4, 0, none⟩) N N F) := (hr4.mt (HPk.out)).congr (HPq.out)
    have HB_x3 : Hid (Below wb.heap.size wb x3) := qa2 HB_x2.out hb4
    have HD_x3 : Hid (x3.cell? ⟨w.heap.size, 0, none⟩ = some (.int .i64 (r : Int)) ∧ x3.cell? ⟨w.heap.size, 1, none⟩ = some (.int .i64 (c : Int)) ∧ x3.cell? ⟨w.heap.size, 2, none⟩ = some (.slice a n k)) := ⟨(HX.out.va.later HB_x3.out).c0, (HX.out.va.later HB_x3.out).c1, (HX.out.va.later HB_x3.out).c2⟩
    have HT_x3 : Hid (Vr x3 x1.heap.size (.int .i64 0) (.int .i64 0) (.slice none 0 0)) := HT_x2.out.later hb4
    have hne4 : g4 ≠ x1.heap.size := fun e => by have := HT_x2.out.lt; omega
    clear hr4 hg4 hb4
    refine hK.out _ _ HD_x3.out (fun _ => ?_)
    clear hK K
    try simp only [mz1, mz2, mz3, Act.put, mz4, mz5, mz6]
    refine wpAnyH_take (i := 5) (v := ?vc5) rfl (by kernel_rfl) (by kernel_rfl) (by kernel_rfl) (fun _ _ _ h => by cases h.1) (Or.inl ⟨by rfl, ?yc5⟩) HD_x3.out ?zc5
    case yc5 => (intro w hSw; (try dsimp only at hSw); go_simp; try with_reducible rfl)
    try simp only [mz1, mz2, mz3, Act.put, mz4, mz5, mz6]
    refine wpAnyH_take (i := 6) (v := ?vc6) rfl (by kernel_rfl) (by kernel_rfl) (by kernel_rfl) (fun _ _ _ h => by cases h.1) (Or.inl ⟨by rfl, ?yc6⟩) HD_x3.out ?zc6
    case yc6 => (intro w hSw; (try dsimp only at hSw); go_simp; try with_reducible rfl)
    try simp only [mz1, mz2, mz3, Act.put, mz4, mz5, mz6]
    refine wpAnyH_take (i := 7) (v := ?vc7) rfl (by kernel_rfl) (by kernel_rfl) (by kernel_rfl) (fun _ _ _ h => by cases h.1) (Or.inl ⟨by rfl, ?yc7⟩) HD_x3.out ?zc7
    case yc7 => (intro w hSw; (try dsimp only at hSw); go_simp; try with_reducible rfl)
    try simp only [mz1, mz2, mz3, Act.put, mz4, mz5, mz6]
    refine wpAnyH_ready (rs := [9]) (by kernel_rfl) (by simp) ?_
    refine AllReadyH.cons rfl (fun K hK => ?_) AllReadyH.nil
    refine qam rfl _ _ rfl x1.heap.size _ _ _ (.int .i64 (c : Int)) (.int .i64 (c : Int)) (.slice (some ⟨g4, 0, none⟩) N N) rfl rfl HT_x3.out rfl rfl rfl ?_
    intro x4 HVt HGt
    have hbB : wb.heap.size ≤ x1.heap.size := HB_x1.out.size
    have HB_x4 : Hid (Below wb.heap.size wb x4) := qa4 HB_x3.out HGt.out hbB
    have HD_x4 : Hid (x4.cell? ⟨w.heap.size, 0, none⟩ = some (.int .i64 (r : Int)) ∧ x4.cell? ⟨w.heap.size, 1, none⟩ = some (.int .i64 (c : Int)) ∧ x4.cell? ⟨w.heap.size, 2, none⟩ = some (.slice a n k)) := ⟨(HX.out.va.later HB_x4.out).c0, (HX.out.va.later HB_x4.out).c1, (HX.out.va.later HB_x4.out).c2⟩
    have HM_x4 : Hid (Mt x4 (some ⟨g4, 0, none⟩) N N F) := HM_x3.out.kept HGt.out (fun _ x hx e => by cases hx; exact hne4 e)
    refine hK.out _ _ HD_x4.out (fun _ => ?_)
    clear hK K
    try simp only [mz1, mz2, mz3, Act.put]
    refine wpAnyH_take (i := 10) (v := ?vc10) rfl (by kernel_rfl) (by kernel_rfl) (by kernel_rfl) (fun _ _ _ h => by cases h.1) (Or.inl ⟨by rfl, ?yc10⟩) HD_x4.out ?zc10
    case yc10 => (intro w hSw; (try dsimp only at hSw); go_simp; try with_reducible rfl)
    try simp only [mz1, mz2, mz3, Act.put, mz4, mz5, mz6]
    refine wpAnyH_done (by kernel_rfl) ?_ _
    exact ⟨rfl, x1.heap.size, g4, s3, d3, rfl, HVt.out, HM_x4.out, HB_x4.out⟩
  ·go_simp
   obtain ⟨x1, HWx1⟩ : ∃ x, Hid (x = x0.alloc (.cells #[.int .i64 0, .int .i64 0, .slice none 0 0] 24)) := ⟨_, rfl⟩
   rw [← HWx1.out]
   have hbx1 : Below x0.heap.size x0 x1 := by rw [HWx1.out]; exact qa1 _ _
   have HT_x1 : Hid (Vr x1 x0.heap.size (.int .i64 0) (.int .i64 0) (.slice none 0 0)) := by rw [HWx1.out]; exact Vr.new x0 _ _ _
   have HB_x1 : Hid (Below wb.heap.size wb x1) := qa2 HB_x0.out hbx1
   have HD_x1 : Hid (x1.cell? ⟨w.heap.size, 0, none⟩ = some (.int .i64 (r : Int)) ∧ x1.cell? ⟨w.heap.size, 1, none⟩ = some (.int .i64 (c : Int)) ∧ x1.cell? ⟨w.heap.size, 2, none⟩ = some (.slice a n k)) := ⟨(HX.out.va.later HB_x1.out).c0, (HX.out.va.later HB_x1.out).c1, (HX.out.va.later HB_x1.out).c2⟩
   refine hK.out _ _ HD_x1.out (fun _ => ?_)
   clear hK K
   try simp only [mz1, mz2, mz3, Act.put, mz4, mz5, mz6]
   refine wpAnyH_ready (rs := [3]) (by kernel_rfl) (by simp) ?_
   refine AllReadyH.cons rfl (fun K hK => ?_) AllReadyH.nil
   go_simp
   refine (qef _ 0 c c HC0.out hc1).mono ?_
   rintro e x2 ⟨s3, d3, rfl, ho3, hb3⟩
   have HO_x2 : Hid (Oi x2 x1.heap.size (.slice s3 c d3) c (fun i => 0 + i)) := ho3
   have HB_x2 : Hid (Below wb.heap.size wb x2) := qa2 HB_x1.out hb3
   have HD_x2 : Hid (x2.cell? ⟨w.heap.size, 0, none⟩ = some (.int .i64 (r : Int)) ∧ x2.cell? ⟨w.heap.size, 1, none⟩ = some (.int .i64 (c : Int)) ∧ x2.cell? ⟨w.heap.size, 2, none⟩ = some (.slice a n k)) := ⟨(HX.out.va.later HB_x2.out).c0, (HX.out.va.later HB_x2.out).c1, (HX.out.va.later HB_x2.out).c2⟩
   have HT_x2 : Hid (Vr x2 x0.heap.size (.int .i64 0) (.int .i64 0) (.slice none 0 0)) := HT_x1.out.later hb3
   clear ho3 hb3
   refine hK.out _ _ HD_x2.out (fun _ => ?_)
   clear hK K
   try simp only [mz1, mz2, mz3, Act.put, mz4, mz5, mz6]
   refine wpAnyH_ready (rs := [4]) (by kernel_rfl) (by simp) ?_
   refine AllReadyH.cons rfl (fun K hK => ?_) AllReadyH.nil
   go_simp
   refine (qcv _ r c n k c d3 N a s3 F (fun i => 0 + i) (HA.out.later (qa2 HX.out.below HB_x2.out)) HR.out HO_x2.out.il (fun i hi => by omega) hc2 HN).mono ?_
   rintro e x3 ⟨g4, rfl, hr4, hg4, hb4⟩
   have HM_x3 : Hid (Mt x3 (some ⟨g4, 0, none⟩) N N F) := (hr4.mt (HPk.out)).congr (HPq.out)
   have HB_x3 : Hid (Below wb.heap.size wb x3) := qa2 HB_x2.out hb4
   have HD_x3 : Hid (x3.cell? ⟨w.heap.size, 0, none⟩ = some (.int .i64 (r : Int)) ∧ x3.cell? ⟨w.heap.size, 1, none⟩ = some (.int .i64 (c : Int)) ∧ x3.cell? ⟨w.heap.size, 2, none⟩ = some (.slice a n k)) := ⟨(HX.out.va.later HB_x3.out).c0, (HX.out.va.later HB_x3.out).c1, (HX.out.va.later HB_x3.out).c2⟩
   have HT_x3 : Hid (Vr x3 x0.heap.size (.int .i64 0) (.int .i64 0) (.slice none 0 0)) := HT_x2.out.later hb4
   have hne4 : g4 ≠ x0.heap.size := fun e => by have := HT_x2.out.lt; omega
   clear hr4 hg4 hb4
   refine hK.out _ _ HD_x3.out (fun _ => ?_)
   clear hK K
   try simp only [mz1, mz2, mz3, Act.put, mz4, mz5, mz6]
   refine wpAnyH_take (i := 5) (v := ?vd5) rfl (by kernel_rfl) (by kernel_rfl) (by kernel_rfl) (fun _ _ _ h => by cases h.1) (Or.inl ⟨by rfl, ?yd5⟩) HD_x3.out ?zd5
   case yd5 => (intro w hSw; (try dsimp only at hSw); go_simp; try with_reducible rfl)
   try simp only [mz1, mz2, mz3, Act.put, mz4, mz5, mz6]
   refine wpAnyH_take (i := 6) (v := ?vd6) rfl (by kernel_rfl) (by kernel_rfl) (by kernel_rfl) (fun _ _ _ h => by cases h.1) (Or.inl ⟨by rfl, ?yd6⟩) HD_x3.out ?zd6
   case yd6 => (intro w hSw; (try dsimp only at hSw); go_simp; try with_reducible rfl)
   try simp only [mz1, mz2, mz3, Act.put, mz4, mz5, mz6]
   refine wpAnyH_take (i := 7) (v := ?vd7) rfl (by kernel_rfl) (by kernel_rfl) (by kernel_rfl) (fun _ _ _ h => by cases h.1) (Or.inl ⟨by rfl, ?yd7⟩) HD_x3.out ?zd7
   case yd7 => (intro w hSw; (try dsimp only at hSw); go_simp; try with_reducible rfl)
   try simp only [mz1, mz2, mz3, Act.put, mz4, mz5, mz6]
   refine wpAnyH_ready (rs := [9]) (by kernel_rfl) (by simp) ?_
   refine AllReadyH.cons rfl (fun K hK => ?_) AllReadyH.nil
   refine qam rfl _ _ rfl x0.heap.size _ _ _ (.int .i64 (c : Int)) (.int .i64 (c : Int)) (.slice (some ⟨g4, 0, none⟩) N N) rfl rfl HT_x3.out rfl rfl rfl ?_
   intro x4 HVt HGt
   have hbB : wb.heap.size ≤ x0.heap.size := HB_x0.out.size
   have HB_x4 : Hid (Below wb.heap.size wb x4) := qa4 HB_x3.out HGt.out hbB
   have HD_x4 : Hid (x4.cell? ⟨w.heap.size, 0, none⟩ = some (.int .i64 (r : Int)) ∧ x4.cell? ⟨w.heap.size, 1, none⟩ = some (.int .i64 (c : Int)) ∧ x4.cell? ⟨w.heap.size, 2, none⟩ = some (.slice a n k)) := ⟨(HX.out.va.later HB_x4.out).c0, (HX.out.va.later HB_x4.out).c1, (HX.out.va.later HB_x4.out).c2⟩
   have HM_x4 : Hid (Mt x4 (some ⟨g4, 0, none⟩) N N F) := HM_x3.out.kept HGt.out (fun _ x hx e => by cases hx; exact hne4 e)
   refine hK.out _ _ HD_x4.out (fun _ => ?_)
   clear hK K
   try simp only [mz1, mz2, mz3, Act.put]
   refine wpAnyH_take (i := 10) (v := ?vd10) rfl (by kernel_rfl) (by kernel_rfl) (by kernel_rfl) (fun _ _ _ h => by cases h.1) (Or.inl ⟨by rfl, ?yd10⟩) HD_x4.out ?zd10
   case yd10 => (intro w hSw; (try dsimp only at hSw); go_simp; try with_reducible rfl)
   try simp only [mz1, mz2, mz3, Act.put, mz4, mz5, mz6]
   refine wpAnyH_done (by kernel_rfl) ?_ _
   exact ⟨rfl, x0.heap.size, g4, s3, d3, rfl, HVt.out, HM_x4.out, HB_x4.out⟩
 case tail =>
  rintro e a' x4 ⟨rfl, b4, g4, s3, d3, rfl, hv, hm, hb⟩
  have HB4 : Hid (Below wb.heap.size wb x4) := hb
  have HM4 : Hid (Mt x4 (some ⟨g4, 0, none⟩) N N F) := hm
  have t0 := hv.c0
  have t1 := hv.c1
  have t2 := hv.c2
  obtain ⟨t, ht⟩ := rk_ex (qci HM4.out.sl.1 HC.out) c
  have htc : t ≤ c := ht.le (Le.refl (qci HM4.out.sl.1 HC.out) c)
  clear hv hm hb
  by_cases hq : t = c
  ·subst hq
   have HK : Hid (Rk (m2 F t t) t t) := ht
   clear ht htc
   go_wp2_with (first
    | (go_at_call 113; refine (ginv_ok _ t N N _ F HM4.out HC.out HK.out).mono ?_; rintro e w5 ⟨s5, d5, X, rfl, hm5, hp5, hb5⟩; have HM5 : Hid (Mt (w5.alloc (.cells #[.int .i64 (t : Int), .int .i64 (t : Int), .slice s5 N d5] 24)) s5 N d5 X) := hm5.later (qa1 _ _); have HP5 : Hid (∀ i j, i < t → j < t → pr (m2 F t t) (m2 X t t) t i j = dl i j) := hp5; have HB5 : Hid (Below wb.heap.size wb (w5.alloc (.cells #[.int .i64 (t : Int), .int .i64 (t : Int), .slice s5 N d5] 24))) := qa2 (qa2 HB4.out hb5) (qa1 _ _); have y0 := (HX.out.va.later HB5.out).c0; have y1 := (HX.out.va.later HB5.out).c1; have y2 := (HX.out.va.later HB5.out).c2; clear hm5 hp5 hb5)
    | (go_at_call 114; refine (mmul_ok _ r t t n N n k d5 a s5 F X (HA.out.later (qa2 HX.out.below HB5.out)) HM5.out HR.out HC.out HR.out).mono ?_; rintro e w6 ⟨g6, rfl, hr6, hg6, hb6⟩; have HR6 : Hid (RowAt w6 g6 5 n (prk F X t t t)) := hr6; have hg7 : wb.heap.size ≤ g6 := Nat.le_trans HB5.out.size hg6; have HB6 : Hid (Below wb.heap.size wb w6) := qa2 HB5.out hb6; have HV6 : Hid (Vr w6 (w.heap.size + 1) (.int .i64 0) (.int .i64 0) (.slice none 0 0)) := HX.out.vr.later HB6.out; clear hr6 hg6 hb6)
    | (refine qa5 rfl _ _ rfl (w.heap.size + 1) _ _ _ (.int .i64 (r : Int)) (.int .i64 (t : Int)) (.slice (some ⟨g6, 0, none⟩) n n) rfl rfl HV6.out rfl rfl rfl ?_; intro w7 HV7 HG7))
   have d0 := HV7.out.c0
   have d1 := HV7.out.c1
   have d2 := HV7.out.c2
   refine bodyPost_ret (v := .tuple #[mv r t (some ⟨g6, 0, none⟩) n n, .int .i64 0]) (by simp [results, Tryz.results73, go_sem, d0, d1, d2, mv]) rfl ?_
   exact .inl ⟨⟨g6, X, rfl, HR6.out.kept HG7.out (by omega), by rw [HN.out]; exact HM5.out.sl.1, HP5.out, by omega, qa4 (qa2 HX.out.below HB6.out) HG7.out (by omega)⟩, HK.out⟩
  ·have HK : Hid (Rk (m2 F c c) c t) := ht
   have htl : t < c := by omega
   clear ht hq htc
   go_wp2_with (first
    | (go_at_call 113; refine (qja _ c N N t _ F HM4.out HC.out HK.out htl).mono ?_; rintro e w5 ⟨rfl, hb5⟩; have HB5 : Hid (Below wb.heap.size wb (w5.alloc (.cells #[.int .i64 0, .int .i64 0, .slice none 0 0] 24))) := qa2 (qa2 HB4.out hb5) (qa1 _ _); have HV6 : Hid (Vr (w5.alloc (.cells #[.int .i64 0, .int .i64 0, .slice none 0 0] 24)) (w.heap.size + 1) (.int .i64 0) (.int .i64 0) (.slice none 0 0)) := HX.out.vr.later HB5.out; clear hb5)
    | (refine qa5 rfl _ _ rfl (w.heap.size + 1) _ _ _ (.int .i64 0) (.int .i64 0) (.slice none 0 0) rfl rfl HV6.out rfl rfl rfl ?_; intro w7 HV7 HG7))
   have d0 := HV7.out.c0
   have d1 := HV7.out.c1
   have d2 := HV7.out.c2
   refine bodyPost_ret (v := .tuple #[mv 0 0 none 0 0, .int .i64 6]) (by simp [results, Tryz.results73, go_sem, d0, d1, d2, mv]) rfl ?_
   exact .inr ⟨rfl, qa4 (qa2 HX.out.below HB5.out) HG7.out (by omega), t, htl, HK.out⟩
theorem bsys_ok (w : World) (r c n k : Nat) (a : Option Addr) (F : Nat → Nat) (ha : Mt w a n k F) (R : Rt r c n) (hcr : c ≤ r) (hk : Rk (m2 F c c) c c) :
  Calls Tryz.prog 73 #[mv r c a n k] w fun e w' => SysP w w' e r c n F :=
 (bsys_x w r c n k a F ha R hcr).mono (fun _ _ h => by
  rcases h with ⟨h, _⟩ | ⟨_, _, t, ht, h⟩
  ·exact h
  ·have := h.uniq (top_el ha R hcr) hk
   omega)
end Go.Proofs.YtnfbbddoaeofgaaGreat
