/-
  Contract of the reference: Kernel.
-/
import Derived.Test.YtokdejhbjoglcaaQffal00
import Derived.Test.YtokdejhbjoglcaaQffal22
set_option maxRecDepth 100000
set_option maxHeartbeats 16000000
namespace Go.Proofs.Ytokdejhbjoglcaa
open Go.RowKit
theorem rker_ok (w : World) (r c n k : Nat) (a : Option Addr) (F : Nat → Nat) (ha : Mt w a n k F) (R : Rt r c n) :
  Calls Try.prog 21 #[mv r c a n k] w fun e w' => ∃ s d kr top p G H, e = .returned (.tuple #[mv (kr : Nat) c s (kr * c) d, .int .i64 0]) ∧ Ob w' w.heap.size (.slice s (kr * c) d) (kr * c) H ∧ (∀ q, q < n → G q < 256) ∧ Rdf (m2 G r c) r top p ∧ SpEq (m2 G r c) r (m2 F r c) r ∧ (∀ i, i < top → p i < c) ∧ kr = cnt (fre p top) c ∧ (∀ u l, u < kr → l < c → H (u * c + l) = kv (m2 G r c) p top (nth (fre p top) c u) l) ∧ (∀ q, q < kr * c → H q < 256) ∧ Below w.heap.size w w' := by
 obtain ⟨wb, HW, HX⟩ : ∃ wb, Hid (wb = (w.alloc (.cells #[.int .i64 (r : Int), .int .i64 (c : Int), .slice a n k] 24)).alloc (.cells #[.int .i64 0, .int .i64 0, .slice none 0 0] 24)) ∧ Hid (Box2 w wb r c n k a) := ⟨_, rfl, box2 w r c n k a⟩
 have HR : Hid (Rt r c n) := R
 have hn := R.le
 have hr := R.r64
 have hc := R.c64
 have HSa : Hid (Mt w a n k F) := ha
 have v0 := HX.out.va.c0
 have v1 := HX.out.va.c1
 have v2 := HX.out.va.c2
 have hwb : w.heap.size + 1 < wb.heap.size := HX.out.vr.lt
 clear ha R
 go_enter Try.func21, Try.ntmps21
 go_wp2_with (go_at_call 40; rw [← HW.out]; refine (rred_a wb r c n k a F (HSa.out.later HX.out.below).sl HSa.out.nil HR.out).mono ?_; rintro e w1 ⟨s, d, ps, pd, top, p, G, rfl, hd, hp, hG, hRd, hS, hPc, hb1⟩; have HB1 : Hid (Below wb.heap.size wb w1) := hb1; have HDa : Hid (Ob w1 wb.heap.size (.slice s n d) n G) := hd; have HPi : Hid (Oi w1 wb.heap.size (.slice ps top pd) top p) := hp; have HGb : Hid (∀ q, q < n → G q < 256) := hG; have HRd : Hid (Rdf (m2 G r c) r top p) := hRd; have HSp : Hid (SpEq (m2 G r c) r (m2 F r c) r) := hS; have HPc : Hid (∀ i, i < top → p i < c) := hPc; have u1 := ((HX.out.va.later hb1).later (qa1 w1 (.cells #[.int .i64 (r : Int), .int .i64 (c : Int), .slice s n d] 24))).c1; clear hd hp hG hRd hS hPc hb1)
 obtain ⟨M, HM⟩ : ∃ M, Hid (m2 G r c = M) := ⟨_, rfl⟩
 obtain ⟨W3, HW3⟩ : ∃ W, Hid (W = (w1.alloc (.cells #[.int .i64 (r : Int), .int .i64 (c : Int), .slice s n d] 24)).alloc (.cells #[.int .i64 0, .int .i64 (c : Int), .slice none 0 0] 24)) := ⟨_, rfl⟩
 have hz1 : wb.heap.size ≤ w1.heap.size := HB1.out.size
 have HI0 : Hid (NuInv w W3 w1.heap.size w1.heap.size (w1.heap.size + 1) r c n k top 0 p a s d (.slice ps top pd) none 0 G (fun _ => 0)) := by
  show NuInv _ _ _ _ _ _ _ _ _ _ _ _ _ _ _ _ _ _ _ _
  rw [HW3.out]
  have b2 := qa0 (qa1 w1 (.cells #[.int .i64 (r : Int), .int .i64 (c : Int), .slice s n d] 24)) (qa1 _ (.cells #[.int .i64 0, .int .i64 (c : Int), .slice none 0 0] 24))
  have e0 : cnt (fre p top) 0 = 0 := rfl
  have vo := Vr.new (w1.alloc (.cells #[.int .i64 (r : Int), .int .i64 (c : Int), .slice s n d] 24)) (.int .i64 0) (.int .i64 (c : Int)) (.slice none 0 0)
  refine ⟨(HX.out.va.later HB1.out).later b2, (HX.out.vr.later HB1.out).later b2, (Vr.new w1 _ _ _).later (qa1 _ _), ?_, (HDa.out.mono (by omega)).later b2, (HPi.out.mono (by omega)).later b2, ?_, fun g hg => (HDa.out.base hg).2, fun u l hu => absurd hu (by rw [e0]; omega), fun q hq => absurd hq (by rw [e0]; omega), by omega, by omega, by omega, by omega, qa0 (qa0 HX.out.below HB1.out) b2⟩
  ·rw [e0, Nat.zero_mul]; simpa using vo
  ·rw [e0, Nat.zero_mul]
   exact (show Ob _ _ _ 0 _ from ⟨by simp [qa4], .inl ⟨rfl, rfl⟩⟩)
 rw [← HW3.out]
 clear HW3 HW HX HB1 HDa HPi v0 v1 v2 u1 hwb hz1
 go_loopw [8, 9] (fun sa sj wr => ∃ (j : Nat) (so : Option Addr) (dd : Nat) (H : Nat → Nat), j ≤ c ∧ sa = .int .i64 ((cnt (pvt p top) j : Nat) : Int) ∧ sj = .int .i64 (j : Int) ∧ NuInv w wr w1.heap.size w1.heap.size (w1.heap.size + 1) r c n k top j p a s d (.slice ps top pd) so dd G H) (fun _ sj _ => c - (intOf sj).toNat)
 case atStart => exact ⟨0, none, 0, fun _ => 0, by omega, rfl, rfl, HI0.out⟩
 case round =>
  clear HI0
  obtain ⟨j, so, dd, H, hjc, rfl, rfl, I⟩ := hrel
  have HI : Hid (NuInv w wr w1.heap.size w1.heap.size (w1.heap.size + 1) r c n k top j p a s d (.slice ps top pd) so dd G H) := I
  have c0 := I.va.c0
  have c1 := I.va.c1
  have c2 := I.va.c2
  obtain ⟨at', HAT⟩ : ∃ x, Hid (cnt (pvt p top) j = x) := ⟨_, rfl⟩
  rw [HAT.out]
  have hcp := (qfi HRd.out.up HPc.out)
  have htop : top ≤ 64 := by have := HRd.out.kr; omega
  by_cases hlt : j < c
  ·cases hpv : pvt p top j with
   | true =>
    have hat : at' < top := by rw [← HAT.out]; have := cnt_lt hlt hpv; omega
    have hpa : p at' = j := by rw [← hcp.2 at' hat, ← HAT.out]; exact qfh hlt hpv
    obtain ⟨px, po, eps, hpc⟩ := I.piv.il at' hat
    dsimp only at hpc
    rw [hpa] at hpc
    subst eps
    have hcy := qbq (P := pvt p top) hpv
    clear I hpa
    go_wp2
    exact ⟨⟨j + 1, so, dd, H, by omega, by rw [hcy, HAT.out]; go_num, by go_num, HI.out.skip (by simp [fre, hpv])⟩, by simp [intOf]; omega⟩
   | false =>
    by_cases hat : at' < top
    ·obtain ⟨px, po, eps, hpc⟩ := I.piv.il at' hat
     obtain ⟨pa, HPA⟩ : ∃ x, Hid (p at' = x) := ⟨_, rfl⟩
     have hne : ((pa : Int) == (j : Int)) = false := by
      have := qg2 hpv hat
      rw [HPA.out] at this
      simp; omega
     dsimp only at hpc
     rw [HPA.out] at hpc
     clear I
     subst eps
     obtain ⟨b0, hb0, hbz0, hbz1, hbz2⟩ := info_parts qdx
     have hml : c ≤ maxLen := by unfold maxLen; omega
     have k0 : w1.heap.size + 1 < wr.heap.size := HI.out.vo.lt
     go_wp2_with (at_make; refine wpList_make_full _ rfl _ _ 22 rfl wr.heap.size 5 b0 (.int .u8 0) 1 Try.underlying22 hb0 hbz0 hbz1 .i64 .i64 _ _ c rfl rfl rfl rfl (by rw [hbz2]; omega) hml (Nat.le_refl _) ?_; intro w5 hown hgrow; have HR5 : Hid (RowAt w5 wr.heap.size 5 c (fun _ => 0)) := qcq hown; have HI5 : Hid (NuInv w w5 w1.heap.size w1.heap.size (w1.heap.size + 1) r c n k top j p a s d (.slice (some ⟨px, po, none⟩) top pd) so dd G H) := HI.out.later (qa8.mp hgrow); have hc5 := HR5.out.cell j hlt; have hf5 := HR5.out.free j; clear hown hgrow)
     obtain ⟨g, HG⟩ : ∃ g, Hid (wr.heap.size = g) := ⟨_, rfl⟩
     have N1 : Hid ((Value.slice s n d).ownBlock ≠ some g) := fun e => by have := (HI.out.data.base e).2; rw [HG.out] at this; omega
     have N2 : Hid ((Value.slice (some ⟨px, po, none⟩) top pd).ownBlock ≠ some g) := fun e => by have := (HI.out.piv.base e).2; rw [HG.out] at this; omega
     have N3 : Hid ((Value.slice so (cnt (fre p top) j * c) dd).ownBlock ≠ some g) := fun e => by have := (HI.out.out.base e).2; rw [HG.out] at this; omega
     have k1 : w1.heap.size + 1 < g := by rw [← HG.out]; exact k0
     have k2 : w.heap.size + 1 < w1.heap.size := HI.out.low
     have HR6 : Hid (RowAt (w5.setCell ⟨g, j, none⟩ (.int .u8 (1 : Int))) g 5 c (kvp M p j 0)) := by
      have h1 := HR5.out.set j 1
      rw [HG.out] at h1
      exact h1.congr (fun l _ => rfl)
     have HI6 : Hid (NuInv w (w5.setCell ⟨g, j, none⟩ (.int .u8 (1 : Int))) w1.heap.size w1.heap.size (w1.heap.size + 1) r c n k top j p a s d (.slice (some ⟨px, po, none⟩) top pd) so dd G H) := HI5.out.kept (qa2 _ _ _ _) (by omega) (by omega) (by omega) N1.out N2.out N3.out
     rw [HG.out]
     clear HR5 HI5 hc5 hf5 HI c0 c1 c2 k0
     go_loopw [11] (fun si wi => ∃ i : Nat, i ≤ top ∧ si = .int .i64 (i : Int) ∧ RowAt wi g 5 c (kvp M p j i) ∧ NuInv w wi w1.heap.size w1.heap.size (w1.heap.size + 1) r c n k top j p a s d (.slice (some ⟨px, po, none⟩) top pd) so dd G H) (fun si _ => top - (intOf si).toNat)
     case atStart => exact ⟨0, by omega, rfl, HR6.out, HI6.out⟩
     case round =>
      clear HR6 HI6
      obtain ⟨i, hit, rfl, hRow, I⟩ := hrel
      have HI : Hid (NuInv w wr w1.heap.size w1.heap.size (w1.heap.size + 1) r c n k top j p a s d (.slice (some ⟨px, po, none⟩) top pd) so dd G H) := I
      have HRow : Hid (RowAt wr g 5 c (kvp M p j i)) := hRow
      clear hRow
      by_cases hlt2 : i < top
      ·obtain ⟨qx, qo, eps, hpc⟩ := I.piv.il i hlt2
       obtain ⟨pi, HPI⟩ : ∃ x, Hid (p i = x) := ⟨_, rfl⟩
       dsimp only at hpc
       rw [HPI.out] at hpc
       cases eps
       have hpi : pi < c := by rw [← HPI.out]; exact HPc.out i hlt2
       obtain ⟨y, HY⟩ : ∃ x, Hid (G (i * c + j) = x) := ⟨_, rfl⟩
       have hir : i < r := Nat.lt_of_lt_of_le hlt2 HRd.out.kr
       have HYm : Hid (M i j = y) := by rw [← HM.out, qap _ hir hlt]; exact HY
       have HAt : Hid (∀ w', Below wr.heap.size wr w' → Calls Try.prog 41 #[.agg #[.int .i64 (r : Int), .int .i64 (c : Int), .slice s n d], .int .i64 (i : Int), .int .i64 (j : Int)] w' fun e w'' => e = .returned (.int .u8 (y : Int)) ∧ Below w'.heap.size w' w'') := fun w' h' => qc9 w' _ c i j n d y s G ((HI.out.data.later h').sl HGb.out) (HR.out.at hir hlt) hn HY
       have p0 : (0 : Int) ≤ (i : Int) := by omega
       have p1 : (i : Int) < (top : Int) := by omega
       have p2 : (0 : Int) ≤ (pi : Int) := by omega
       have p3 : (pi : Int) < (c : Int) := by omega
       have HD : Hid (wr.drew.cell? ⟨w1.heap.size, 0, none⟩ = some (.int .i64 (r : Int)) ∧ wr.drew.cell? ⟨w1.heap.size, 1, none⟩ = some (.int .i64 (c : Int)) ∧ wr.drew.cell? ⟨w1.heap.size, 2, none⟩ = some (.slice s n d) ∧ wr.drew.cell? ⟨px, po + i, none⟩ = some (.int .i64 (pi : Int))) := ⟨I.vr.c0, I.vr.c1, I.vr.c2, hpc⟩
       clear I
       go_wp2
       refine qb7 (k := 10) (n := 10) (fun w' => w'.cell? ⟨w1.heap.size, 0, none⟩ = some (.int .i64 (r : Int)) ∧ w'.cell? ⟨w1.heap.size, 1, none⟩ = some (.int .i64 (c : Int)) ∧ w'.cell? ⟨w1.heap.size, 2, none⟩ = some (.slice s n d) ∧ w'.cell? ⟨px, po + i, none⟩ = some (.int .i64 (pi : Int))) (by kernel_rfl) (by kernel_rfl) (by decide) (by rfl) ?_
       refine wtkq 0 ?v0 rfl (by kernel_rfl) (fun _ _ _ h => h) (by rfl) ?y0 HD.out ?z0
       case y0 => (intro w hSw; (try dsimp only at hSw); go_simp; try with_reducible rfl)
       try simp only [mz1, mz3, Act.put, mz4, mz5, mz6]
       refine wtkq 1 ?v1 rfl (by kernel_rfl) (fun _ _ _ h => h) (by rfl) ?y1 HD.out ?z1
       case y1 => (intro w hSw; (try dsimp only at hSw); go_simp; try with_reducible rfl)
       try simp only [mz1, mz2, mz3, Act.put, mz4, mz5, mz6]
       refine wtkq 2 ?v2 rfl (by kernel_rfl) (fun _ _ _ h => h) (by rfl) ?y2 HD.out ?z2
       case y2 => (intro w hSw; (try dsimp only at hSw); go_simp; try with_reducible rfl)
       try simp only [mz1, mz2, mz3, Act.put, mz4, mz5, mz6]
       refine wtkq 3 ?v3 rfl (by kernel_rfl) (fun _ _ _ h => h) (by rfl) ?y3 HD.out ?z3
       case y3 => (intro w hSw; (try dsimp only at hSw); go_simp; try with_reducible rfl)
       try simp only [mz1, mz2, mz3, Act.put, mz4, mz5, mz6]
       refine wtkq 4 ?v4 rfl (by kernel_rfl) (fun _ _ _ h => h) (by rfl) ?y4 HD.out ?z4
       case y4 => (intro w hSw; (try dsimp only at hSw); go_simp; try with_reducible rfl)
       try simp only [mz1, mz2, mz3, Act.put, mz4, mz5, mz6]
       refine wtkq 5 ?v5 rfl (by kernel_rfl) (fun _ _ _ h => h) (by rfl) ?y5 HD.out ?z5
       case y5 => (intro w hSw; (try dsimp only at hSw); go_simp; try with_reducible rfl)
       try simp only [mz1, mz2, mz3, Act.put, mz4, mz5, mz6]
       refine wtkq 6 ?v6 rfl (by kernel_rfl) (fun _ _ _ h => h) (by rfl) ?y6 HD.out ?z6
       case y6 => (intro w hSw; (try dsimp only at hSw); go_simp; try with_reducible rfl)
       try simp only [mz1, mz2, mz3, Act.put, mz4, mz5, mz6]
       refine wtkq 7 ?v7 rfl (by kernel_rfl) (fun _ _ _ h => h) (by rfl) ?y7 HD.out ?z7
       case y7 => (intro w hSw; (try dsimp only at hSw); go_simp; try with_reducible rfl)
       try simp only [mz1, mz2, mz3, Act.put, mz4, mz5, mz6]
       refine wpAnyH_ready (rs := [8]) (by kernel_rfl) (by simp) ?_
       refine AllReadyH.cons rfl (fun K hK => ?_) AllReadyH.nil
       go_simp
       refine (HAt.out wr.drew (Below.refl _ _).drew).mono ?_; rintro e w8 ⟨rfl, hb8⟩; have HD8 : Hid (w8.cell? ⟨w1.heap.size, 0, none⟩ = some (.int .i64 (r : Int)) ∧ w8.cell? ⟨w1.heap.size, 1, none⟩ = some (.int .i64 (c : Int)) ∧ w8.cell? ⟨w1.heap.size, 2, none⟩ = some (.slice s n d) ∧ w8.cell? ⟨px, po + i, none⟩ = some (.int .i64 (pi : Int))) := ⟨keepc hb8 HD.out.1, keepc hb8 HD.out.2.1, keepc hb8 HD.out.2.2.1, keepc hb8 HD.out.2.2.2⟩; have HB8 : Hid (Below wr.heap.size wr w8) := qa0 (Below.refl _ _).drew hb8; clear hb8
       refine hK.out _ _ HD8.out (fun _ => ?_)
       clear hK K
       try simp only [mz1, mz2, mz3, Act.put, mz4, mz5, mz6]
       refine wtkq 9 ?v9 rfl (by kernel_rfl) (fun _ _ _ h => h) (by rfl) ?y9 HD8.out ?z9
       case y9 => (intro w hSw; (try dsimp only at hSw); go_simp; try with_reducible rfl)
       try simp only [mz1, mz2, mz3, Act.put, mz4, mz5, mz6]
       refine wpAnyH_done (by kernel_rfl) ?_ _
       have hcl := (HRow.out.later HB8.out).cell pi hpi
       have hfl := (HRow.out.later HB8.out).free pi
       refine qdi rfl (fun K hK => ?_)
       go_simp
       refine hK.out _ _ ?_
       clear hK K
       try simp only [mz1, mz2, mz3, Act.put, mz4, mz5, mz6]
       go_wp2
       exact ⟨⟨i + 1, by omega, by go_num, ((HRow.out.later HB8.out).set pi y).congr (fun l _ => by rw [← HPI.out, ← HYm.out]; exact qgf HRd.out.up hlt2 (qg2 hpv hlt2) l), (HI.out.later HB8.out).kept (qa2 _ _ _ _) (by omega) (by omega) (by omega) N1.out N2.out N3.out⟩, by simp [intOf]; omega⟩
      ·have HIT : Hid (i = top) := Nat.le_antisymm hit (by omega)
       obtain ⟨u, HU⟩ : ∃ x, Hid (cnt (fre p top) j = x) := ⟨_, rfl⟩
       obtain ⟨N, HN⟩ : ∃ x, Hid (u * c = x) := ⟨_, rfl⟩
       have hfr : fre p top j = true := by simp [fre, hpv]
       have hu1 : u + 1 ≤ c := by rw [← HU.out]; have h1 := cnt_lt (P := fre p top) hlt hfr; have h2 := qeb (fre p top) c; omega
       have hN : N + c ≤ 4096 := by rw [← HN.out]; have h1 := Nat.mul_le_mul hu1 hc; rw [Nat.add_mul, Nat.one_mul] at h1; omega
       have o0 := I.vo.c0
       have o1 := I.vo.c1
       have of0 := I.vo.free 0
       rw [HU.out] at o0
       obtain ⟨W7, HW7⟩ : ∃ W, Hid (W = wr.setCell ⟨w1.heap.size + 1, 0, none⟩ (.int .i64 ((u : Int) + 1))) := ⟨_, rfl⟩
       have gW7 : wr.grownBy W7 (some (w1.heap.size + 1)) := by rw [HW7.out]; exact qa2 _ _ _ _
       have HV7 : Hid (Vr W7 (w1.heap.size + 1) (.int .i64 ((u : Int) + 1)) (.int .i64 (c : Int)) (.slice so N dd)) := by
        have h1 := I.vo.set0 (.int .i64 ((u : Int) + 1))
        rw [HU.out, HN.out] at h1
        rw [HW7.out]; exact h1
       have HO7 : Hid (Ob W7 w1.heap.size (.slice so N dd) N H) := by
        have h1 := I.out.kept gW7 (.inr (qaa I.out I.vo))
        rw [HU.out, HN.out] at h1
        exact h1
       have HR7 : Hid (RowAt W7 g 5 c (kvp M p j top)) := by have h1 := HRow.out.kept gW7 (by omega); rw [HIT.out] at h1; exact h1
       have hsz7 : w1.heap.size ≤ W7.heap.size := by have := HV7.out.lt; omega
       have o2 := HV7.out.c2
       have of2 := HV7.out.free 2
       rw [HW7.out] at o2 of2
       have wu : IntKind.i64.wrap ((u : Int) + 1) = (u : Int) + 1 := by rw [IntKind.wrap_i64]; omega
       have hml3 : N + c ≤ maxLen := by unfold maxLen; omega
       have HM2 : Hid (El2 M) := by rw [← HM.out]; exact qan HGb.out HR.out
       have HL7 : Hid (Sl W7 (some ⟨g, 0, none⟩) c (kvp M p j top)) := HR7.out.sl (fun l _ => qiw HM2.out p j top l)
       clear I gW7
       go_wp2_with (at_builtin; rw [← HW7.out]; refine wpList_append_own _ rfl _ _ 22 rfl w1.heap.size 5 b0 (.int .u8 0) 1 1 Try.underlying22 hb0 hbz0 hbz1 hbz2 rfl (by decide) _ N _ rfl HO7.out ⟨g, 0, none⟩ c c (row c (kvp M p j top)).toList rfl (by simp [qa4]) (qaz HL7.out (Below.refl _ _)) (qb0 _ _) hml3 (by omega) hsz7 ?_; intro v' w9 hown' hgrow' _; obtain ⟨so2, dd2, e9, _, _⟩ := qca hown'; subst e9; have HO9 : Hid (w9.ownsRow w1.heap.size 5 1 (.slice so2 (N + c) dd2) (N + c) ((row N H).toList ++ (row c (kvp M p j top)).toList)) := hown'; have HG9 : Hid (W7.grownBy w9 (Value.slice so N dd).ownBlock) := hgrow'; have HV9 : Hid (Vr w9 (w1.heap.size + 1) (.int .i64 ((u : Int) + 1)) (.int .i64 (c : Int)) (.slice so N dd)) := HV7.out.grown HG9.out (qaa HO7.out HV7.out); have q2 := HV9.out.c2; have qf2 := HV9.out.free 2; clear hown' hgrow')
       have hcy := qbq (P := fre p top) hfr
       have hcn := qe0 (P := pvt p top) hpv
       have HMo : NuInv w (w9.setCell ⟨w1.heap.size + 1, 2, none⟩ (.slice so2 (N + c) dd2)) w1.heap.size w1.heap.size (w1.heap.size + 1) r c n k top (j + 1) p a s d (.slice (some ⟨px, po, none⟩) top pd) so2 dd2 G (stf H (kvp (m2 G r c) p j top) (cnt (fre p top) j * c)) := by
        refine NuInv.more HI.out (by rw [HM.out]; exact HM2.out) hfr hlt (w1 := W7) (w2 := w9) ?_ ?_ ?_ ?_
        ·rw [hcy, HU.out, HW7.out]; rfl
        ·rw [HU.out, HN.out, HM.out]; exact HO9.out
        ·rw [HU.out, HN.out]; exact HG9.out
        ·rw [HU.out, HN.out]
       exact ⟨⟨j + 1, so2, dd2, _, by omega, by rw [hcn, HAT.out], by go_num, HMo⟩, by simp [intOf]; omega⟩
    ·clear I
     obtain ⟨b0, hb0, hbz0, hbz1, hbz2⟩ := info_parts qdx
     have hml : c ≤ maxLen := by unfold maxLen; omega
     have k0 : w1.heap.size + 1 < wr.heap.size := HI.out.vo.lt
     go_wp2_with (at_make; refine wpList_make_full _ rfl _ _ 22 rfl wr.heap.size 5 b0 (.int .u8 0) 1 Try.underlying22 hb0 hbz0 hbz1 .i64 .i64 _ _ c rfl rfl rfl rfl (by rw [hbz2]; omega) hml (Nat.le_refl _) ?_; intro w5 hown hgrow; have HR5 : Hid (RowAt w5 wr.heap.size 5 c (fun _ => 0)) := qcq hown; have HI5 : Hid (NuInv w w5 w1.heap.size w1.heap.size (w1.heap.size + 1) r c n k top j p a s d (.slice ps top pd) so dd G H) := HI.out.later (qa8.mp hgrow); have hc5 := HR5.out.cell j hlt; have hf5 := HR5.out.free j; clear hown hgrow)
     obtain ⟨g, HG⟩ : ∃ g, Hid (wr.heap.size = g) := ⟨_, rfl⟩
     have N1 : Hid ((Value.slice s n d).ownBlock ≠ some g) := fun e => by have := (HI.out.data.base e).2; rw [HG.out] at this; omega
     have N2 : Hid ((Value.slice ps top pd).ownBlock ≠ some g) := fun e => by have := (HI.out.piv.base e).2; rw [HG.out] at this; omega
     have N3 : Hid ((Value.slice so (cnt (fre p top) j * c) dd).ownBlock ≠ some g) := fun e => by have := (HI.out.out.base e).2; rw [HG.out] at this; omega
     have k1 : w1.heap.size + 1 < g := by rw [← HG.out]; exact k0
     have k2 : w.heap.size + 1 < w1.heap.size := HI.out.low
     have HR6 : Hid (RowAt (w5.setCell ⟨g, j, none⟩ (.int .u8 (1 : Int))) g 5 c (kvp M p j 0)) := by
      have h1 := HR5.out.set j 1
      rw [HG.out] at h1
      exact h1.congr (fun l _ => rfl)
     have HI6 : Hid (NuInv w (w5.setCell ⟨g, j, none⟩ (.int .u8 (1 : Int))) w1.heap.size w1.heap.size (w1.heap.size + 1) r c n k top j p a s d (.slice ps top pd) so dd G H) := HI5.out.kept (qa2 _ _ _ _) (by omega) (by omega) (by omega) N1.out N2.out N3.out
     rw [HG.out]
     clear HR5 HI5 hc5 hf5 HI c0 c1 c2 k0
     go_loopw [11] (fun si wi => ∃ i : Nat, i ≤ top ∧ si = .int .i64 (i : Int) ∧ RowAt wi g 5 c (kvp M p j i) ∧ NuInv w wi w1.heap.size w1.heap.size (w1.heap.size + 1) r c n k top j p a s d (.slice ps top pd) so dd G H) (fun si _ => top - (intOf si).toNat)
     case atStart => exact ⟨0, by omega, rfl, HR6.out, HI6.out⟩
     case round =>
      clear HR6 HI6
      obtain ⟨i, hit, rfl, hRow, I⟩ := hrel
      have HI : Hid (NuInv w wr w1.heap.size w1.heap.size (w1.heap.size + 1) r c n k top j p a s d (.slice ps top pd) so dd G H) := I
      have HRow : Hid (RowAt wr g 5 c (kvp M p j i)) := hRow
      clear hRow
      by_cases hlt2 : i < top
      ·obtain ⟨qx, qo, eps, hpc⟩ := I.piv.il i hlt2
       obtain ⟨pi, HPI⟩ : ∃ x, Hid (p i = x) := ⟨_, rfl⟩
       dsimp only at hpc
       rw [HPI.out] at hpc
       cases eps
       have hpi : pi < c := by rw [← HPI.out]; exact HPc.out i hlt2
       obtain ⟨y, HY⟩ : ∃ x, Hid (G (i * c + j) = x) := ⟨_, rfl⟩
       have hir : i < r := Nat.lt_of_lt_of_le hlt2 HRd.out.kr
       have HYm : Hid (M i j = y) := by rw [← HM.out, qap _ hir hlt]; exact HY
       have HAt : Hid (∀ w', Below wr.heap.size wr w' → Calls Try.prog 41 #[.agg #[.int .i64 (r : Int), .int .i64 (c : Int), .slice s n d], .int .i64 (i : Int), .int .i64 (j : Int)] w' fun e w'' => e = .returned (.int .u8 (y : Int)) ∧ Below w'.heap.size w' w'') := fun w' h' => qc9 w' _ c i j n d y s G ((HI.out.data.later h').sl HGb.out) (HR.out.at hir hlt) hn HY
       have p0 : (0 : Int) ≤ (i : Int) := by omega
       have p1 : (i : Int) < (top : Int) := by omega
       have p2 : (0 : Int) ≤ (pi : Int) := by omega
       have p3 : (pi : Int) < (c : Int) := by omega
       have HD : Hid (wr.drew.cell? ⟨w1.heap.size, 0, none⟩ = some (.int .i64 (r : Int)) ∧ wr.drew.cell? ⟨w1.heap.size, 1, none⟩ = some (.int .i64 (c : Int)) ∧ wr.drew.cell? ⟨w1.heap.size, 2, none⟩ = some (.slice s n d) ∧ wr.drew.cell? ⟨qx, qo + i, none⟩ = some (.int .i64 (pi : Int))) := ⟨I.vr.c0, I.vr.c1, I.vr.c2, hpc⟩
       clear I
       go_wp2
       refine qb7 (k := 10) (n := 10) (fun w' => w'.cell? ⟨w1.heap.size, 0, none⟩ = some (.int .i64 (r : Int)) ∧ w'.cell? ⟨w1.heap.size, 1, none⟩ = some (.int .i64 (c : Int)) ∧ w'.cell? ⟨w1.heap.size, 2, none⟩ = some (.slice s n d) ∧ w'.cell? ⟨qx, qo + i, none⟩ = some (.int .i64 (pi : Int))) (by kernel_rfl) (by kernel_rfl) (by decide) (by rfl) ?_
       refine wtkq 0 ?vb0 rfl (by kernel_rfl) (fun _ _ _ h => h) (by rfl) ?yb0 HD.out ?zb0
       case yb0 => (intro w hSw; (try dsimp only at hSw); go_simp; try with_reducible rfl)
       try simp only [mz1, mz3, Act.put, mz4, mz5, mz6]
       refine wtkq 1 ?vb1 rfl (by kernel_rfl) (fun _ _ _ h => h) (by rfl) ?yb1 HD.out ?zb1
       case yb1 => (intro w hSw; (try dsimp only at hSw); go_simp; try with_reducible rfl)
       try simp only [mz1, mz2, mz3, Act.put, mz4, mz5, mz6]
       refine wtkq 2 ?vb2 rfl (by kernel_rfl) (fun _ _ _ h => h) (by rfl) ?yb2 HD.out ?zb2
       case yb2 => (intro w hSw; (try dsimp only at hSw); go_simp; try with_reducible rfl)
       try simp only [mz1, mz2, mz3, Act.put, mz4, mz5, mz6]
       refine wtkq 3 ?vb3 rfl (by kernel_rfl) (fun _ _ _ h => h) (by rfl) ?yb3 HD.out ?zb3
       case yb3 => (intro w hSw; (try dsimp only at hSw); go_simp; try with_reducible rfl)
       try simp only [mz1, mz2, mz3, Act.put, mz4, mz5, mz6]
       refine wtkq 4 ?vb4 rfl (by kernel_rfl) (fun _ _ _ h => h) (by rfl) ?yb4 HD.out ?zb4
       case yb4 => (intro w hSw; (try dsimp only at hSw); go_simp; try with_reducible rfl)
       try simp only [mz1, mz2, mz3, Act.put, mz4, mz5, mz6]
       refine wtkq 5 ?vb5 rfl (by kernel_rfl) (fun _ _ _ h => h) (by rfl) ?yb5 HD.out ?zb5
       case yb5 => (intro w hSw; (try dsimp only at hSw); go_simp; try with_reducible rfl)
       try simp only [mz1, mz2, mz3, Act.put, mz4, mz5, mz6]
       refine wtkq 6 ?vb6 rfl (by kernel_rfl) (fun _ _ _ h => h) (by rfl) ?yb6 HD.out ?zb6
       case yb6 => (intro w hSw; (try dsimp only at hSw); go_simp; try with_reducible rfl)
       try simp only [mz1, mz2, mz3, Act.put, mz4, mz5, mz6]
       refine wtkq 7 ?vb7 rfl (by kernel_rfl) (fun _ _ _ h => h) (by rfl) ?yb7 HD.out ?zb7
       case yb7 => (intro w hSw; (try dsimp only at hSw); go_simp; try with_reducible rfl)
       try simp only [mz1, mz2, mz3, Act.put, mz4, mz5, mz6]
       refine wpAnyH_ready (rs := [8]) (by kernel_rfl) (by simp) ?_
       refine AllReadyH.cons rfl (fun K hK => ?_) AllReadyH.nil
       go_simp
       refine (HAt.out wr.drew (Below.refl _ _).drew).mono ?_; rintro e w8 ⟨rfl, hb8⟩; have HD8 : Hid (w8.cell? ⟨w1.heap.size, 0, none⟩ = some (.int .i64 (r : Int)) ∧ w8.cell? ⟨w1.heap.size, 1, none⟩ = some (.int .i64 (c : Int)) ∧ w8.cell? ⟨w1.heap.size, 2, none⟩ = some (.slice s n d) ∧ w8.cell? ⟨qx, qo + i, none⟩ = some (.int .i64 (pi : Int))) := ⟨keepc hb8 HD.out.1, keepc hb8 HD.out.2.1, keepc hb8 HD.out.2.2.1, keepc hb8 HD.out.2.2.2⟩; have HB8 : Hid (Below wr.heap.size wr w8) := qa0 (Below.refl _ _).drew hb8; clear hb8
       refine hK.out _ _ HD8.out (fun _ => ?_)
       clear hK K
       try simp only [mz1, mz2, mz3, Act.put, mz4, mz5, mz6]
       refine wtkq 9 ?vb9 rfl (by kernel_rfl) (fun _ _ _ h => h) (by rfl) ?yb9 HD8.out ?zb9
       case yb9 => (intro w hSw; (try dsimp only at hSw); go_simp; try with_reducible rfl)
       try simp only [mz1, mz2, mz3, Act.put, mz4, mz5, mz6]
       refine wpAnyH_done (by kernel_rfl) ?_ _
       have hcl := (HRow.out.later HB8.out).cell pi hpi
       have hfl := (HRow.out.later HB8.out).free pi
       refine qdi rfl (fun K hK => ?_)
       go_simp
       refine hK.out _ _ ?_
       clear hK K
       try simp only [mz1, mz2, mz3, Act.put, mz4, mz5, mz6]
       go_wp2
       exact ⟨⟨i + 1, by omega, by go_num, ((HRow.out.later HB8.out).set pi y).congr (fun l _ => by rw [← HPI.out, ← HYm.out]; exact qgf HRd.out.up hlt2 (qg2 hpv hlt2) l), (HI.out.later HB8.out).kept (qa2 _ _ _ _) (by omega) (by omega) (by omega) N1.out N2.out N3.out⟩, by simp [intOf]; omega⟩
      ·have HIT : Hid (i = top) := Nat.le_antisymm hit (by omega)
       obtain ⟨u, HU⟩ : ∃ x, Hid (cnt (fre p top) j = x) := ⟨_, rfl⟩
       obtain ⟨N, HN⟩ : ∃ x, Hid (u * c = x) := ⟨_, rfl⟩
       have hfr : fre p top j = true := by simp [fre, hpv]
       have hu1 : u + 1 ≤ c := by rw [← HU.out]; have h1 := cnt_lt (P := fre p top) hlt hfr; have h2 := qeb (fre p top) c; omega
       have hN : N + c ≤ 4096 := by rw [← HN.out]; have h1 := Nat.mul_le_mul hu1 hc; rw [Nat.add_mul, Nat.one_mul] at h1; omega
       have o0 := I.vo.c0
       have o1 := I.vo.c1
       have of0 := I.vo.free 0
       rw [HU.out] at o0
       obtain ⟨W7, HW7⟩ : ∃ W, Hid (W = wr.setCell ⟨w1.heap.size + 1, 0, none⟩ (.int .i64 ((u : Int) + 1))) := ⟨_, rfl⟩
       have gW7 : wr.grownBy W7 (some (w1.heap.size + 1)) := by rw [HW7.out]; exact qa2 _ _ _ _
       have HV7 : Hid (Vr W7 (w1.heap.size + 1) (.int .i64 ((u : Int) + 1)) (.int .i64 (c : Int)) (.slice so N dd)) := by
        have h1 := I.vo.set0 (.int .i64 ((u : Int) + 1))
        rw [HU.out, HN.out] at h1
        rw [HW7.out]; exact h1
       have HO7 : Hid (Ob W7 w1.heap.size (.slice so N dd) N H) := by
        have h1 := I.out.kept gW7 (.inr (qaa I.out I.vo))
        rw [HU.out, HN.out] at h1
        exact h1
       have HR7 : Hid (RowAt W7 g 5 c (kvp M p j top)) := by have h1 := HRow.out.kept gW7 (by omega); rw [HIT.out] at h1; exact h1
       have hsz7 : w1.heap.size ≤ W7.heap.size := by have := HV7.out.lt; omega
       have o2 := HV7.out.c2
       have of2 := HV7.out.free 2
       rw [HW7.out] at o2 of2
       have wu : IntKind.i64.wrap ((u : Int) + 1) = (u : Int) + 1 := by rw [IntKind.wrap_i64]; omega
       have hml3 : N + c ≤ maxLen := by unfold maxLen; omega
       have HM2 : Hid (El2 M) := by rw [← HM.out]; exact qan HGb.out HR.out
       have HL7 : Hid (Sl W7 (some ⟨g, 0, none⟩) c (kvp M p j top)) := HR7.out.sl (fun l _ => qiw HM2.out p j top l)
       clear I gW7
       go_wp2_with (at_builtin; rw [← HW7.out]; refine wpList_append_own _ rfl _ _ 22 rfl w1.heap.size 5 b0 (.int .u8 0) 1 1 Try.underlying22 hb0 hbz0 hbz1 hbz2 rfl (by decide) _ N _ rfl HO7.out ⟨g, 0, none⟩ c c (row c (kvp M p j top)).toList rfl (by simp [qa4]) (qaz HL7.out (Below.refl _ _)) (qb0 _ _) hml3 (by omega) hsz7 ?_; intro v' w9 hown' hgrow' _; obtain ⟨so2, dd2, e9, _, _⟩ := qca hown'; subst e9; have HO9 : Hid (w9.ownsRow w1.heap.size 5 1 (.slice so2 (N + c) dd2) (N + c) ((row N H).toList ++ (row c (kvp M p j top)).toList)) := hown'; have HG9 : Hid (W7.grownBy w9 (Value.slice so N dd).ownBlock) := hgrow'; have HV9 : Hid (Vr w9 (w1.heap.size + 1) (.int .i64 ((u : Int) + 1)) (.int .i64 (c : Int)) (.slice so N dd)) := HV7.out.grown HG9.out (qaa HO7.out HV7.out); have q2 := HV9.out.c2; have qf2 := HV9.out.free 2; clear hown' hgrow')
       have hcy := qbq (P := fre p top) hfr
       have hcn := qe0 (P := pvt p top) hpv
       have HMo : NuInv w (w9.setCell ⟨w1.heap.size + 1, 2, none⟩ (.slice so2 (N + c) dd2)) w1.heap.size w1.heap.size (w1.heap.size + 1) r c n k top (j + 1) p a s d (.slice ps top pd) so2 dd2 G (stf H (kvp (m2 G r c) p j top) (cnt (fre p top) j * c)) := by
        refine NuInv.more HI.out (by rw [HM.out]; exact HM2.out) hfr hlt (w1 := W7) (w2 := w9) ?_ ?_ ?_ ?_
        ·rw [hcy, HU.out, HW7.out]; rfl
        ·rw [HU.out, HN.out, HM.out]; exact HO9.out
        ·rw [HU.out, HN.out]; exact HG9.out
        ·rw [HU.out, HN.out]
       exact ⟨⟨j + 1, so2, dd2, _, by omega, by rw [hcn, HAT.out], by go_num, HMo⟩, by simp [intOf]; omega⟩
  ·have HJC : Hid (j = c) := Nat.le_antisymm hjc (by omega)
   have HVz : Hid (Vr wr (w.heap.size + 1) (.int .i64 0) (.int .i64 0) (.slice none 0 0)) := I.vz
   obtain ⟨u, HU⟩ : ∃ x, Hid (cnt (fre p top) j = x) := ⟨_, rfl⟩
   obtain ⟨N, HN⟩ : ∃ x, Hid (u * c = x) := ⟨_, rfl⟩
   have o0 := I.vo.c0
   have o1 := I.vo.c1
   have o2 := I.vo.c2
   rw [HU.out] at o0 o2
   rw [HN.out] at o2
   clear I
   go_wp2_with (refine qa3 rfl _ _ rfl (w.heap.size + 1) _ _ _ (.int .i64 (u : Int)) (.int .i64 (c : Int)) (.slice so N dd) rfl rfl HVz.out rfl rfl rfl ?_; intro w4 HV4 HG4)
   have d0 := HV4.out.c0
   have d1 := HV4.out.c1
   have d2 := HV4.out.c2
   refine bodyPost_ret (v := .tuple #[mv u c so N dd, .int .i64 0]) (by simp [results, Try.results21, go_sem, d0, d1, d2, mv]) rfl ?_
   have J := HI.out
   have ej := HJC.out
   subst ej
   have ho := J.out.kept HG4.out (.inr (qaa J.out J.vz))
   rw [HU.out] at ho
   have hB := J.hB
   refine ⟨so, dd, u, top, p, G, H, by rw [HN.out], ho.mono (by omega), HGb.out, HRd.out, HSp.out, HPc.out, HU.out.symm, fun v l hv hl => J.rows v l (by rw [HU.out]; exact hv) hl, fun q hq => J.lt q (by rw [HU.out]; exact hq), qa5 J.below HG4.out (by omega)⟩
end Go.Proofs.Ytokdejhbjoglcaa
