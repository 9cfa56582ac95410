/-
  Contract of the tree's reference: LikeShape.
-/
import Derived.Test.YtnjcpmkfghcogaaGreatDoorQbbks00
import Derived.Test.YtnjcpmkfghcogaaGreatDoorQbbks48
set_option maxRecDepth 100000
set_option maxHeartbeats 16000000
namespace Go.Proofs.YtnjcpmkfghcogaaGreatDoor
open Go.RowKit
theorem rls_one (w : World) (k na ca np cp nr cr k2 na2 ca2 np2 cp2 nr2 cr2 : Nat) (ln cl ln2 cl2 : Int) (nm nm2 : ByteArray) (aa pa ra aa2 pa2 ra2 : Option Addr) (r1 : Bool) (B Q : Nat → Bool) (FP GP : Nat → St) (l1 l2 : Nat → Nat) (FR GR : Nat → Nat → Xt)
    (hnp : np ≤ 140737488351232) (_ : np2 ≤ 140737488351232) (_ : nr ≤ 140737488351232) (hnr2 : nr2 ≤ 140737488351232)
    (HCa : Hid (∀ w' : World, Below w.heap.size w w' → Calls Tryz.prog 36 #[.slice aa na ca, .slice aa2 na2 ca2] w' fun e w'' => e = .returned (.bool r1) ∧ Below w'.heap.size w' w''))
    (HP1 : Hid (∀ d, SL d w pa np FP)) (HP2 : Hid (∀ d, SL d w pa2 np2 GP)) (HR1 : Hid (XR w ra nr l1 FR)) (HR2 : Hid (XR w ra2 nr2 l2 GR))
    (HCp : Hid (∀ i, i < np → i < np2 → ∀ (w' : World) (v u : Value), Below w.heap.size w w' → SV w v (FP i) → SV w u (GP i) → Calls Tryz.prog 20 #[v, u] w' fun e w'' => e = .returned (.bool (B i)) ∧ Below w'.heap.size w' w''))
    (HCr : Hid (∀ i, i < nr → i < nr2 → ∀ (w' : World) (x x' : Option Addr) (c c' : Nat), Below w.heap.size w w' → (∀ d, XL d w x (l1 i) (FR i)) → (∀ d, XL d w x' (l2 i) (GR i)) → Calls Tryz.prog 36 #[.slice x (l1 i) c, .slice x' (l2 i) c'] w' fun e w'' => e = .returned (.bool (Q i)) ∧ Below w'.heap.size w' w'')) :
    Calls Tryz.prog 20 #[.agg #[.int .u8 (k : Int), .string nm, .slice aa na ca, .slice pa np cp, .slice ra nr cr, .int .i64 ln, .int .i64 cl], .agg #[.int .u8 (k2 : Int), .string nm2, .slice aa2 na2 ca2, .slice pa2 np2 cp2, .slice ra2 nr2 cr2, .int .i64 ln2, .int .i64 cl2]] w fun e w' => e = .returned (.bool (decide (k = k2) && (decide (nm = nm2) && (r1 && ((decide (np = np2) && alB B np) && (decide (nr = nr2) && alB Q nr)))))) ∧ Below w.heap.size w w' := by
  have e3 := tl_eq (x := nm) (y := nm2)
  have e1 : ((k : Int) == (k2 : Int)) = decide (k = k2) := by by_cases h : k = k2 <;> simp [h]; omega
  have e5 : ((np : Int) == (np2 : Int)) = decide (np = np2) := by by_cases h : np = np2 <;> simp [h]; omega
  have e6 : ((nr : Int) == (nr2 : Int)) = decide (nr = nr2) := by by_cases h : nr = nr2 <;> simp [h]; omega
  have f1 : ((k : Int) != (k2 : Int)) = !decide (k = k2) := by rw [bne, e1]
  have f5 : ((np : Int) != (np2 : Int)) = !decide (np = np2) := by rw [bne, e5]
  have f6 : ((nr : Int) != (nr2 : Int)) = !decide (nr = nr2) := by rw [bne, e6]
  clear e1 e5 e6
  have HQ5 : Hid (decide (np = np2) = true → np = np2) := fun h => of_decide_eq_true h
  have HQ6 : Hid (decide (nr = nr2) = true → nr = nr2) := fun h => of_decide_eq_true h
  generalize decide (k = k2) = b1 at *
  generalize decide (nm = nm2) = b3 at *
  generalize decide (np = np2) = b5 at *
  generalize decide (nr = nr2) = b6 at *
  have HV1 := qa0 ((Vn.new w 44 #[.int .u8 (k : Int), .string nm, .slice aa na ca, .slice pa np cp, .slice ra nr cr, .int .i64 ln, .int .i64 cl]).later (jlow _ (.cells #[.int .u8 (k2 : Int), .string nm2, .slice aa2 na2 ca2, .slice pa2 np2 cp2, .slice ra2 nr2 cr2, .int .i64 ln2, .int .i64 cl2] 44)))
  have HV2 := qa0 (Vn.new (w.alloc (.cells #[.int .u8 (k : Int), .string nm, .slice aa na ca, .slice pa np cp, .slice ra nr cr, .int .i64 ln, .int .i64 cl] 44)) 44 #[.int .u8 (k2 : Int), .string nm2, .slice aa2 na2 ca2, .slice pa2 np2 cp2, .slice ra2 nr2 cr2, .int .i64 ln2, .int .i64 cl2])
  rw [qak] at HV2
  have HB := qa0 (jtwo (jlow w (.cells #[.int .u8 (k : Int), .string nm, .slice aa na ca, .slice pa np cp, .slice ra nr cr, .int .i64 ln, .int .i64 cl] 44)) (jlow _ (.cells #[.int .u8 (k2 : Int), .string nm2, .slice aa2 na2 ca2, .slice pa2 np2 cp2, .slice ra2 nr2 cr2, .int .i64 ln2, .int .i64 cl2] 44)))
  have c0 := HV1.out.cell 0 _ rfl
  have d0 := HV2.out.cell 0 _ rfl
  have c1 := HV1.out.cell 1 _ rfl
  have d1 := HV2.out.cell 1 _ rfl
  have c2 := HV1.out.cell 2 _ rfl
  have d2 := HV2.out.cell 2 _ rfl
  have c3 := HV1.out.cell 3 _ rfl
  have d3 := HV2.out.cell 3 _ rfl
  have c4 := HV1.out.cell 4 _ rfl
  have d4 := HV2.out.cell 4 _ rfl
  have c5 := HV1.out.cell 5 _ rfl
  have d5 := HV2.out.cell 5 _ rfl
  have c6 := HV1.out.cell 6 _ rfl
  have d6 := HV2.out.cell 6 _ rfl
  cases b1 with
  | false =>
    show Calls _ _ _ _ fun e w' => e = .returned (.bool false) ∧ _
    go_enter Tryz.func20, Tryz.ntmps20
    go_wp2
    go_ret
    exact ⟨rfl, HB.out⟩
  | true =>
   cases b3 with
   | false =>
    show Calls _ _ _ _ fun e w' => e = .returned (.bool false) ∧ _
    go_enter Tryz.func20, Tryz.ntmps20
    go_wp2
    go_ret
    exact ⟨rfl, HB.out⟩
   | true =>
    cases r1 with
    | false =>
      show Calls _ _ _ _ fun e w' => e = .returned (.bool false) ∧ _
      go_enter Tryz.func20, Tryz.ntmps20
      go_wp2_with (go_at_call 36; refine (HCa.out _ HB.out).mono ?_; rintro e w1 ⟨rfl, hb1⟩; have HB1 := qa0 (jtwo HB.out hb1); have HU1 := qa0 (HV1.out.later hb1); have HT1 := qa0 (HV2.out.later hb1); clear hb1; have f3 := HU1.out.cell 3 _ rfl; have f4 := HU1.out.cell 4 _ rfl; have g3 := HT1.out.cell 3 _ rfl; have g4 := HT1.out.cell 4 _ rfl)
      go_ret
      exact ⟨rfl, HB1.out⟩
    | true =>
     cases b5 with
     | false =>
       show Calls _ _ _ _ fun e w' => e = .returned (.bool false) ∧ _
       go_enter Tryz.func20, Tryz.ntmps20
       go_wp2_with (go_at_call 36; refine (HCa.out _ HB.out).mono ?_; rintro e w1 ⟨rfl, hb1⟩; have HB1 := qa0 (jtwo HB.out hb1); have HU1 := qa0 (HV1.out.later hb1); have HT1 := qa0 (HV2.out.later hb1); clear hb1; have f3 := HU1.out.cell 3 _ rfl; have f4 := HU1.out.cell 4 _ rfl; have g3 := HT1.out.cell 3 _ rfl; have g4 := HT1.out.cell 4 _ rfl)
       go_ret
       exact ⟨rfl, HB1.out⟩
     | true =>
      cases b6 with
      | false =>
       have HD : Hid ((true && (true && (true && ((true && alB B np) && (false && alB Q nr))))) = false) := by show _ = _; simp
       rw [HD.out]
       show Calls _ _ _ _ fun e w' => e = .returned (.bool false) ∧ _
       go_enter Tryz.func20, Tryz.ntmps20
       go_wp2_with (go_at_call 36; refine (HCa.out _ HB.out).mono ?_; rintro e w1 ⟨rfl, hb1⟩; have HB1 := qa0 (jtwo HB.out hb1); have HU1 := qa0 (HV1.out.later hb1); have HT1 := qa0 (HV2.out.later hb1); clear hb1; have f3 := HU1.out.cell 3 _ rfl; have f4 := HU1.out.cell 4 _ rfl; have g3 := HT1.out.cell 3 _ rfl; have g4 := HT1.out.cell 4 _ rfl)
       go_ret
       exact ⟨rfl, HB1.out⟩
      | true =>
       have H5 : ∃ _ : Unit, np = np2 := ⟨(), HQ5.out rfl⟩
       have H6 : ∃ _ : Unit, nr = nr2 := ⟨(), HQ6.out rfl⟩
       have HD : Hid ((true && (true && (true && ((true && alB B np) && (true && alB Q nr))))) = (alB B np && alB Q nr)) := by show _ = _; simp
       rw [HD.out]
       clear HD HQ5 HQ6
       go_enter Tryz.func20, Tryz.ntmps20
       go_wp2_with (go_at_call 36; refine (HCa.out _ HB.out).mono ?_; rintro e w1 ⟨rfl, hb1⟩; have HB1 := qa0 (jtwo HB.out hb1); have HU1 := qa0 (HV1.out.later hb1); have HT1 := qa0 (HV2.out.later hb1); clear hb1; have f3 := HU1.out.cell 3 _ rfl; have f4 := HU1.out.cell 4 _ rfl; have g3 := HT1.out.cell 3 _ rfl; have g4 := HT1.out.cell 4 _ rfl)
       go_loopw [5] (fun vi wr => ∃ i : Nat, i ≤ np ∧ vi = .int .i64 (i : Int) ∧ Hid (alB B i = true) ∧ Vn wr w.heap.size 44 #[.int .u8 (k : Int), .string nm, .slice aa na ca, .slice pa np cp, .slice ra nr cr, .int .i64 ln, .int .i64 cl] ∧ Vn wr (w.heap.size + 1) 44 #[.int .u8 (k2 : Int), .string nm2, .slice aa2 na2 ca2, .slice pa2 np2 cp2, .slice ra2 nr2 cr2, .int .i64 ln2, .int .i64 cl2] ∧ Below w.heap.size w wr) (fun vi _ => np - (intOf vi).toNat)
       case atStart => exact ⟨0, by omega, rfl, rfl, HU1.out, HT1.out, HB1.out⟩
       case round =>
        obtain ⟨i, hi, rfl, HA, hu, ht, hb⟩ := hrel
        have HBr := qa0 hb
        have HU := qa0 hu
        have HT := qa0 ht
        have n3 := hu.cell 3 _ rfl
        have n4 := hu.cell 4 _ rfl
        clear hu ht
        by_cases hlt : i < np
        · have hlt2 : i < np2 := by obtain ⟨_, h⟩ := H5; omega
          have p0 : (0 : Int) ≤ (i : Int) := by omega
          have p1 : (i : Int) < (np : Int) := by omega
          have p2 : (i : Int) < (np2 : Int) := by omega
          obtain ⟨b, o, kk, na1, np1, nr1, ll, cc, nx, aa1, pa1, ra1, ca1, cp1, cr1, rfl, hkid, hcl⟩ := SL.at_ HP1.out (i := i) hlt
          obtain ⟨b2, o2, kk2, na3, np3, nr3, ll2, cc2, nx2, aa3, pa3, ra3, ca3, cp3, cr3, rfl, hkid2, hcl2⟩ := SL.at_ HP2.out (i := i) hlt2
          have HSa : Hid (∀ w' : World, Below w.heap.size w w' → Vn w' w.heap.size 44 #[.int .u8 (k : Int), .string nm, .slice aa na ca, .slice (some ⟨b, o, none⟩) np cp, .slice ra nr cr, .int .i64 ln, .int .i64 cl] → Vn w' (w.heap.size + 1) 44 #[.int .u8 (k2 : Int), .string nm2, .slice aa2 na2 ca2, .slice (some ⟨b2, o2, none⟩) np2 cp2, .slice ra2 nr2 cr2, .int .i64 ln2, .int .i64 cl2] → (fun w' => w'.cell? ⟨w.heap.size, 3, none⟩ = some (.slice (some ⟨b, o, none⟩) np cp) ∧ w'.cell? ⟨w.heap.size + 1, 3, none⟩ = some (.slice (some ⟨b2, o2, none⟩) np2 cp2) ∧ w'.cell? ⟨b, o + i * 7, none⟩ = some (.int .u8 (kk : Int)) ∧ w'.cell? ⟨b, o + i * 7 + 1, none⟩ = some (.string nx) ∧ w'.cell? ⟨b, o + i * 7 + 2, none⟩ = some (.slice aa1 na1 ca1) ∧ w'.cell? ⟨b, o + i * 7 + 3, none⟩ = some (.slice pa1 np1 cp1) ∧ w'.cell? ⟨b, o + i * 7 + 4, none⟩ = some (.slice ra1 nr1 cr1) ∧ w'.cell? ⟨b, o + i * 7 + 5, none⟩ = some (.int .i64 ll) ∧ w'.cell? ⟨b, o + i * 7 + 6, none⟩ = some (.int .i64 cc) ∧ w'.cell? ⟨b2, o2 + i * 7, none⟩ = some (.int .u8 (kk2 : Int)) ∧ w'.cell? ⟨b2, o2 + i * 7 + 1, none⟩ = some (.string nx2) ∧ w'.cell? ⟨b2, o2 + i * 7 + 2, none⟩ = some (.slice aa3 na3 ca3) ∧ w'.cell? ⟨b2, o2 + i * 7 + 3, none⟩ = some (.slice pa3 np3 cp3) ∧ w'.cell? ⟨b2, o2 + i * 7 + 4, none⟩ = some (.slice ra3 nr3 cr3) ∧ w'.cell? ⟨b2, o2 + i * 7 + 5, none⟩ = some (.int .i64 ll2) ∧ w'.cell? ⟨b2, o2 + i * 7 + 6, none⟩ = some (.int .i64 cc2)) w') := fun w' hb h1 h2 => by
            obtain ⟨k0, k1, k2, k3, k4, k5, k6⟩ := hcl w' hb
            obtain ⟨m0, m1, m2, m3, m4, m5, m6⟩ := hcl2 w' hb
            exact ⟨h1.cell 3 _ rfl, h2.cell 3 _ rfl, k0, k1, k2, k3, k4, k5, k6, m0, m1, m2, m3, m4, m5, m6⟩
          have HCi := qa0 (fun w' hb => HCp.out i hlt hlt2 w' _ _ hb hkid hkid2)
          have HAs : Hid (alB B (i + 1) = B i) := by show (alB B i && B i) = B i; rw [HA.out, Bool.true_and]
          have HAf : Hid (alB B (i + 1) = false → alB B np = false) := fun h => qe4 h hlt
          generalize B i = bi at *
          clear hkid hcl hkid2 hcl2 hb HP1 HP2 HCp
          cases bi with
          | true =>
            go_wp2
            refine wp_region_held (S := fun w' => w'.cell? ⟨w.heap.size, 3, none⟩ = some (.slice (some ⟨b, o, none⟩) np cp) ∧ w'.cell? ⟨w.heap.size + 1, 3, none⟩ = some (.slice (some ⟨b2, o2, none⟩) np2 cp2) ∧ w'.cell? ⟨b, o + i * 7, none⟩ = some (.int .u8 (kk : Int)) ∧ w'.cell? ⟨b, o + i * 7 + 1, none⟩ = some (.string nx) ∧ w'.cell? ⟨b, o + i * 7 + 2, none⟩ = some (.slice aa1 na1 ca1) ∧ w'.cell? ⟨b, o + i * 7 + 3, none⟩ = some (.slice pa1 np1 cp1) ∧ w'.cell? ⟨b, o + i * 7 + 4, none⟩ = some (.slice ra1 nr1 cr1) ∧ w'.cell? ⟨b, o + i * 7 + 5, none⟩ = some (.int .i64 ll) ∧ w'.cell? ⟨b, o + i * 7 + 6, none⟩ = some (.int .i64 cc) ∧ w'.cell? ⟨b2, o2 + i * 7, none⟩ = some (.int .u8 (kk2 : Int)) ∧ w'.cell? ⟨b2, o2 + i * 7 + 1, none⟩ = some (.string nx2) ∧ w'.cell? ⟨b2, o2 + i * 7 + 2, none⟩ = some (.slice aa3 na3 ca3) ∧ w'.cell? ⟨b2, o2 + i * 7 + 3, none⟩ = some (.slice pa3 np3 cp3) ∧ w'.cell? ⟨b2, o2 + i * 7 + 4, none⟩ = some (.slice ra3 nr3 cr3) ∧ w'.cell? ⟨b2, o2 + i * 7 + 5, none⟩ = some (.int .i64 ll2) ∧ w'.cell? ⟨b2, o2 + i * 7 + 6, none⟩ = some (.int .i64 cc2)) (by kernel_rfl) ?_
            change wpAnyH _ _ _ _ _ _ _ _ (World.drew _)
            obtain ⟨W0, HW0⟩ : ∃ W0, Hid (wr.drew = W0) := ⟨_, rfl⟩
            have HB0 : Hid (Below w.heap.size w W0) := by show Below _ _ _; rw [← HW0.out]; exact HBr.out.drew
            have HU0 : Hid (Vn W0 w.heap.size 44 #[.int .u8 (k : Int), .string nm, .slice aa na ca, .slice (some ⟨b, o, none⟩) np cp, .slice ra nr cr, .int .i64 ln, .int .i64 cl]) := by show Vn _ _ _ _; rw [← HW0.out]; exact HU.out.later (qai _)
            have HT0 : Hid (Vn W0 (w.heap.size + 1) 44 #[.int .u8 (k2 : Int), .string nm2, .slice aa2 na2 ca2, .slice (some ⟨b2, o2, none⟩) np2 cp2, .slice ra2 nr2 cr2, .int .i64 ln2, .int .i64 cl2]) := by show Vn _ _ _ _; rw [← HW0.out]; exact HT.out.later (qai _)
            rw [HW0.out]
            clear HW0
            refine wtkq 0 ?va0 rfl (by kernel_rfl) (fun _ _ _ h => h) (by rfl) ?ya0 (HSa.out _ HB0.out HU0.out HT0.out) ?za0
            case ya0 => (intro w hSw; (try dsimp only at hSw); go_simp; try with_reducible rfl)
            try simp only [mz1, mz3, Act.put, mz4, mz5, mz6]
            refine wtkq 1 ?va1 rfl (by kernel_rfl) (fun _ _ _ h => h) (by rfl) ?ya1 (HSa.out _ HB0.out HU0.out HT0.out) ?za1
            case ya1 => (intro w hSw; (try dsimp only at hSw); go_simp; try with_reducible rfl)
            try simp only [mz1, mz2, mz3, Act.put, mz4, mz5, mz6]
            refine wtkq 2 ?va2 rfl (by kernel_rfl) (fun _ _ _ h => h) (by rfl) ?ya2 (HSa.out _ HB0.out HU0.out HT0.out) ?za2
            case ya2 => (intro w hSw; (try dsimp only at hSw); go_simp; try with_reducible rfl)
            try simp only [mz1, mz2, mz3, Act.put, mz4, mz5, mz6]
            refine wtkq 3 ?va3 rfl (by kernel_rfl) (fun _ _ _ h => h) (by rfl) ?ya3 (HSa.out _ HB0.out HU0.out HT0.out) ?za3
            case ya3 => (intro w hSw; (try dsimp only at hSw); go_simp; try with_reducible rfl)
            try simp only [mz1, mz2, mz3, Act.put, mz4, mz5, mz6]
            refine wtkq 4 ?va4 rfl (by kernel_rfl) (fun _ _ _ h => h) (by rfl) ?ya4 (HSa.out _ HB0.out HU0.out HT0.out) ?za4
            case ya4 => (intro w hSw; (try dsimp only at hSw); go_simp; try with_reducible rfl)
            try simp only [mz1, mz2, mz3, Act.put, mz4, mz5, mz6]
            refine wtkq 5 ?va5 rfl (by kernel_rfl) (fun _ _ _ h => h) (by rfl) ?ya5 (HSa.out _ HB0.out HU0.out HT0.out) ?za5
            case ya5 => (intro w hSw; (try dsimp only at hSw); go_simp; try with_reducible rfl)
            try simp only [mz1, mz2, mz3, Act.put, mz4, mz5, mz6]
            refine wtkq 6 ?va6 rfl (by kernel_rfl) (fun _ _ _ h => h) (by rfl) ?ya6 (HSa.out _ HB0.out HU0.out HT0.out) ?za6
            case ya6 => (intro w hSw; (try dsimp only at hSw); go_simp; try with_reducible rfl)
            try simp only [mz1, mz2, mz3, Act.put, mz4, mz5, mz6]
            refine wtkq 7 ?va7 rfl (by kernel_rfl) (fun _ _ _ h => h) (by rfl) ?ya7 (HSa.out _ HB0.out HU0.out HT0.out) ?za7
            case ya7 => (intro w hSw; (try dsimp only at hSw); go_simp; try with_reducible rfl)
            try simp only [mz1, mz2, mz3, Act.put, mz4, mz5, mz6]
            refine wtkq 8 ?va8 rfl (by kernel_rfl) (fun _ _ _ h => h) (by rfl) ?ya8 (HSa.out _ HB0.out HU0.out HT0.out) ?za8
            case ya8 => (intro w hSw; (try dsimp only at hSw); go_simp; try with_reducible rfl)
            try simp only [mz1, mz2, mz3, Act.put, mz4, mz5, mz6]
            refine wtkq 9 ?va9 rfl (by kernel_rfl) (fun _ _ _ h => h) (by rfl) ?ya9 (HSa.out _ HB0.out HU0.out HT0.out) ?za9
            case ya9 => (intro w hSw; (try dsimp only at hSw); go_simp; try with_reducible rfl)
            try simp only [mz1, mz2, mz3, Act.put, mz4, mz5, mz6]
            refine wpAnyH_ready (rs := [10]) (by kernel_rfl) (by simp) ?_
            refine AllReadyH.cons rfl (fun KK hKK => ?_) AllReadyH.nil
            go_simp
            refine (HCi.out _ HB0.out).mono ?_; rintro e w3 ⟨rfl, hb3⟩; have HB3 := qa0 (jtwo HB0.out hb3); have HU3 := qa0 (HU0.out.later hb3); have HT3 := qa0 (HT0.out.later hb3); clear hb3
            refine hKK.out _ _ (HSa.out _ HB3.out HU3.out HT3.out) (fun _ => ?_)
            clear hKK KK
            try simp only [mz1, mz2, mz3, Act.put, mz4, mz5, mz6]
            refine wtkq 11 ?va11 rfl (by kernel_rfl) (fun _ _ _ h => h) (by rfl) ?ya11 (HSa.out _ HB3.out HU3.out HT3.out) ?za11
            case ya11 => (intro w hSw; (try dsimp only at hSw); go_simp; try with_reducible rfl)
            try simp only [mz1, mz2, mz3, Act.put, mz4, mz5, mz6]
            refine wpAnyH_done (by kernel_rfl) ?_ _
            go_wp2
            exact ⟨⟨i + 1, by omega, by go_num, HAs, HU3.out, HT3.out, HB3.out⟩, by simp [intOf]; omega⟩
          | false =>
            have HF : Hid (alB B np = false) := HAf.out HAs.out
            go_wp2
            refine wp_region_held (S := fun w' => w'.cell? ⟨w.heap.size, 3, none⟩ = some (.slice (some ⟨b, o, none⟩) np cp) ∧ w'.cell? ⟨w.heap.size + 1, 3, none⟩ = some (.slice (some ⟨b2, o2, none⟩) np2 cp2) ∧ w'.cell? ⟨b, o + i * 7, none⟩ = some (.int .u8 (kk : Int)) ∧ w'.cell? ⟨b, o + i * 7 + 1, none⟩ = some (.string nx) ∧ w'.cell? ⟨b, o + i * 7 + 2, none⟩ = some (.slice aa1 na1 ca1) ∧ w'.cell? ⟨b, o + i * 7 + 3, none⟩ = some (.slice pa1 np1 cp1) ∧ w'.cell? ⟨b, o + i * 7 + 4, none⟩ = some (.slice ra1 nr1 cr1) ∧ w'.cell? ⟨b, o + i * 7 + 5, none⟩ = some (.int .i64 ll) ∧ w'.cell? ⟨b, o + i * 7 + 6, none⟩ = some (.int .i64 cc) ∧ w'.cell? ⟨b2, o2 + i * 7, none⟩ = some (.int .u8 (kk2 : Int)) ∧ w'.cell? ⟨b2, o2 + i * 7 + 1, none⟩ = some (.string nx2) ∧ w'.cell? ⟨b2, o2 + i * 7 + 2, none⟩ = some (.slice aa3 na3 ca3) ∧ w'.cell? ⟨b2, o2 + i * 7 + 3, none⟩ = some (.slice pa3 np3 cp3) ∧ w'.cell? ⟨b2, o2 + i * 7 + 4, none⟩ = some (.slice ra3 nr3 cr3) ∧ w'.cell? ⟨b2, o2 + i * 7 + 5, none⟩ = some (.int .i64 ll2) ∧ w'.cell? ⟨b2, o2 + i * 7 + 6, none⟩ = some (.int .i64 cc2)) (by kernel_rfl) ?_
            change wpAnyH _ _ _ _ _ _ _ _ (World.drew _)
            obtain ⟨W0, HW0⟩ : ∃ W0, Hid (wr.drew = W0) := ⟨_, rfl⟩
            have HB0 : Hid (Below w.heap.size w W0) := by show Below _ _ _; rw [← HW0.out]; exact HBr.out.drew
            have HU0 : Hid (Vn W0 w.heap.size 44 #[.int .u8 (k : Int), .string nm, .slice aa na ca, .slice (some ⟨b, o, none⟩) np cp, .slice ra nr cr, .int .i64 ln, .int .i64 cl]) := by show Vn _ _ _ _; rw [← HW0.out]; exact HU.out.later (qai _)
            have HT0 : Hid (Vn W0 (w.heap.size + 1) 44 #[.int .u8 (k2 : Int), .string nm2, .slice aa2 na2 ca2, .slice (some ⟨b2, o2, none⟩) np2 cp2, .slice ra2 nr2 cr2, .int .i64 ln2, .int .i64 cl2]) := by show Vn _ _ _ _; rw [← HW0.out]; exact HT.out.later (qai _)
            rw [HW0.out]
            clear HW0
            refine wtkq 0 ?vb0 rfl (by kernel_rfl) (fun _ _ _ h => h) (by rfl) ?yb0 (HSa.out _ HB0.out HU0.out HT0.out) ?zb0
            case yb0 => (intro w hSw; (try dsimp only at hSw); go_simp; try with_reducible rfl)
            try simp only [mz1, mz3, Act.put, mz4, mz5, mz6]
            refine wtkq 1 ?vb1 rfl (by kernel_rfl) (fun _ _ _ h => h) (by rfl) ?yb1 (HSa.out _ HB0.out HU0.out HT0.out) ?zb1
            case yb1 => (intro w hSw; (try dsimp only at hSw); go_simp; try with_reducible rfl)
            try simp only [mz1, mz2, mz3, Act.put, mz4, mz5, mz6]
            refine wtkq 2 ?vb2 rfl (by kernel_rfl) (fun _ _ _ h => h) (by rfl) ?yb2 (HSa.out _ HB0.out HU0.out HT0.out) ?zb2
            case yb2 => (intro w hSw; (try dsimp only at hSw); go_simp; try with_reducible rfl)
            try simp only [mz1, mz2, mz3, Act.put, mz4, mz5, mz6]
            refine wtkq 3 ?vb3 rfl (by kernel_rfl) (fun _ _ _ h => h) (by rfl) ?yb3 (HSa.out _ HB0.out HU0.out HT0.out) ?zb3
            case yb3 => (intro w hSw; (try dsimp only at hSw); go_simp; try with_reducible rfl)
            try simp only [mz1, mz2, mz3, Act.put, mz4, mz5, mz6]
            refine wtkq 4 ?vb4 rfl (by kernel_rfl) (fun _ _ _ h => h) (by rfl) ?yb4 (HSa.out _ HB0.out HU0.out HT0.out) ?zb4
            case yb4 => (intro w hSw; (try dsimp only at hSw); go_simp; try with_reducible rfl)
            try simp only [mz1, mz2, mz3, Act.put, mz4, mz5, mz6]
            refine wtkq 5 ?vb5 rfl (by kernel_rfl) (fun _ _ _ h => h) (by rfl) ?yb5 (HSa.out _ HB0.out HU0.out HT0.out) ?zb5
            case yb5 => (intro w hSw; (try dsimp only at hSw); go_simp; try with_reducible rfl)
            try simp only [mz1, mz2, mz3, Act.put, mz4, mz5, mz6]
            refine wtkq 6 ?vb6 rfl (by kernel_rfl) (fun _ _ _ h => h) (by rfl) ?yb6 (HSa.out _ HB0.out HU0.out HT0.out) ?zb6
            case yb6 => (intro w hSw; (try dsimp only at hSw); go_simp; try with_reducible rfl)
            try simp only [mz1, mz2, mz3, Act.put, mz4, mz5, mz6]
            refine wtkq 7 ?vb7 rfl (by kernel_rfl) (fun _ _ _ h => h) (by rfl) ?yb7 (HSa.out _ HB0.out HU0.out HT0.out) ?zb7
            case yb7 => (intro w hSw; (try dsimp only at hSw); go_simp; try with_reducible rfl)
            try simp only [mz1, mz2, mz3, Act.put, mz4, mz5, mz6]
            refine wtkq 8 ?vb8 rfl (by kernel_rfl) (fun _ _ _ h => h) (by rfl) ?yb8 (HSa.out _ HB0.out HU0.out HT0.out) ?zb8
            case yb8 => (intro w hSw; (try dsimp only at hSw); go_simp; try with_reducible rfl)
            try simp only [mz1, mz2, mz3, Act.put, mz4, mz5, mz6]
            refine wtkq 9 ?vb9 rfl (by kernel_rfl) (fun _ _ _ h => h) (by rfl) ?yb9 (HSa.out _ HB0.out HU0.out HT0.out) ?zb9
            case yb9 => (intro w hSw; (try dsimp only at hSw); go_simp; try with_reducible rfl)
            try simp only [mz1, mz2, mz3, Act.put, mz4, mz5, mz6]
            refine wpAnyH_ready (rs := [10]) (by kernel_rfl) (by simp) ?_
            refine AllReadyH.cons rfl (fun KK hKK => ?_) AllReadyH.nil
            go_simp
            refine (HCi.out _ HB0.out).mono ?_; rintro e w3 ⟨rfl, hb3⟩; have HB3 := qa0 (jtwo HB0.out hb3); have HU3 := qa0 (HU0.out.later hb3); have HT3 := qa0 (HT0.out.later hb3); clear hb3
            refine hKK.out _ _ (HSa.out _ HB3.out HU3.out HT3.out) (fun _ => ?_)
            clear hKK KK
            try simp only [mz1, mz2, mz3, Act.put, mz4, mz5, mz6]
            refine wtkq 11 ?vb11 rfl (by kernel_rfl) (fun _ _ _ h => h) (by rfl) ?yb11 (HSa.out _ HB3.out HU3.out HT3.out) ?zb11
            case yb11 => (intro w hSw; (try dsimp only at hSw); go_simp; try with_reducible rfl)
            try simp only [mz1, mz2, mz3, Act.put, mz4, mz5, mz6]
            refine wpAnyH_done (by kernel_rfl) ?_ _
            go_wp2
            go_ret
            exact ⟨by rw [HF.out]; rfl, HB3.out⟩
        · obtain rfl : np = i := by omega
          clear hb
          go_wp2
          go_loopw [6] (fun vi wr => ∃ i : Nat, i ≤ nr ∧ vi = .int .i64 (i : Int) ∧ Hid (alB Q i = true) ∧ Vn wr w.heap.size 44 #[.int .u8 (k : Int), .string nm, .slice aa na ca, .slice pa np cp, .slice ra nr cr, .int .i64 ln, .int .i64 cl] ∧ Vn wr (w.heap.size + 1) 44 #[.int .u8 (k2 : Int), .string nm2, .slice aa2 na2 ca2, .slice pa2 np2 cp2, .slice ra2 nr2 cr2, .int .i64 ln2, .int .i64 cl2] ∧ Below w.heap.size w wr) (fun vi _ => nr - (intOf vi).toNat)
          case atStart => exact ⟨0, by omega, rfl, rfl, HU.out, HT.out, HBr.out⟩
          case round =>
            clear HU HT HBr n3 n4
            obtain ⟨i, hi, rfl, HA2, hu, ht, hb⟩ := hrel
            have HBr := qa0 hb
            have HU := qa0 hu
            have HT := qa0 ht
            have n4 := hu.cell 4 _ rfl
            clear hu ht
            by_cases hlt : i < nr
            · have hlt2 : i < nr2 := by obtain ⟨_, h⟩ := H6; omega
              have p0 : (0 : Int) ≤ (i : Int) := by omega
              have p1 : (i : Int) < (nr : Int) := by omega
              have p2 : (i : Int) < (nr2 : Int) := by omega
              obtain ⟨b, o, x1, cq1, rfl, hc1, hx1⟩ := HR1.out i hlt
              obtain ⟨b2, o2, x2, cq2, rfl, hc2, hx2⟩ := HR2.out i hlt2
              have HCi := qa0 (fun w' hb => HCr.out i hlt hlt2 w' x1 x2 cq1 cq2 hb hx1 hx2)
              generalize l1 i = z1 at *
              generalize l2 i = z2 at *
              have HSa : Hid (∀ w' : World, Below w.heap.size w w' → Vn w' w.heap.size 44 #[.int .u8 (k : Int), .string nm, .slice aa na ca, .slice pa np cp, .slice (some ⟨b, o, none⟩) nr cr, .int .i64 ln, .int .i64 cl] → Vn w' (w.heap.size + 1) 44 #[.int .u8 (k2 : Int), .string nm2, .slice aa2 na2 ca2, .slice pa2 np2 cp2, .slice (some ⟨b2, o2, none⟩) nr2 cr2, .int .i64 ln2, .int .i64 cl2] → (fun w' => w'.cell? ⟨w.heap.size, 4, none⟩ = some (.slice (some ⟨b, o, none⟩) nr cr) ∧ w'.cell? ⟨w.heap.size + 1, 4, none⟩ = some (.slice (some ⟨b2, o2, none⟩) nr2 cr2) ∧ w'.cell? ⟨b, o + i, none⟩ = some (.slice x1 z1 cq1) ∧ w'.cell? ⟨b2, o2 + i, none⟩ = some (.slice x2 z2 cq2)) w') := fun w' hb h1 h2 => ⟨h1.cell 4 _ rfl, h2.cell 4 _ rfl, cell_kept hc1 hb, cell_kept hc2 hb⟩
              have HAs : Hid (alB Q (i + 1) = Q i) := by show (alB Q i && Q i) = Q i; rw [HA2.out, Bool.true_and]
              have HAf : Hid (alB Q (i + 1) = false → alB Q nr = false) := fun h => qe4 h hlt
              generalize Q i = bi at *
              clear hc1 hc2 hx1 hx2 hb HR1 HR2 HCr
              cases bi with
              | true =>
                go_wp2
                refine wp_region_held (S := fun w' => w'.cell? ⟨w.heap.size, 4, none⟩ = some (.slice (some ⟨b, o, none⟩) nr cr) ∧ w'.cell? ⟨w.heap.size + 1, 4, none⟩ = some (.slice (some ⟨b2, o2, none⟩) nr2 cr2) ∧ w'.cell? ⟨b, o + i, none⟩ = some (.slice x1 z1 cq1) ∧ w'.cell? ⟨b2, o2 + i, none⟩ = some (.slice x2 z2 cq2)) (by kernel_rfl) ?_
                change wpAnyH _ _ _ _ _ _ _ _ (World.drew _)
                obtain ⟨W0, HW0⟩ : ∃ W0, Hid (wr.drew = W0) := ⟨_, rfl⟩
                have HB0 : Hid (Below w.heap.size w W0) := by show Below _ _ _; rw [← HW0.out]; exact HBr.out.drew
                have HU0 : Hid (Vn W0 w.heap.size 44 #[.int .u8 (k : Int), .string nm, .slice aa na ca, .slice pa np cp, .slice (some ⟨b, o, none⟩) nr cr, .int .i64 ln, .int .i64 cl]) := by show Vn _ _ _ _; rw [← HW0.out]; exact HU.out.later (qai _)
                have HT0 : Hid (Vn W0 (w.heap.size + 1) 44 #[.int .u8 (k2 : Int), .string nm2, .slice aa2 na2 ca2, .slice pa2 np2 cp2, .slice (some ⟨b2, o2, none⟩) nr2 cr2, .int .i64 ln2, .int .i64 cl2]) := by show Vn _ _ _ _; rw [← HW0.out]; exact HT.out.later (qai _)
                rw [HW0.out]
                clear HW0
                refine wtkq 0 ?vc0 rfl (by kernel_rfl) (fun _ _ _ h => h) (by rfl) ?yc0 (HSa.out _ HB0.out HU0.out HT0.out) ?zc0
                case yc0 => (intro w hSw; (try dsimp only at hSw); go_simp; try with_reducible rfl)
                try simp only [mz1, mz3, Act.put, mz4, mz5, mz6]
                refine wtkq 1 ?vc1 rfl (by kernel_rfl) (fun _ _ _ h => h) (by rfl) ?yc1 (HSa.out _ HB0.out HU0.out HT0.out) ?zc1
                case yc1 => (intro w hSw; (try dsimp only at hSw); go_simp; try with_reducible rfl)
                try simp only [mz1, mz2, mz3, Act.put, mz4, mz5, mz6]
                refine wtkq 2 ?vc2 rfl (by kernel_rfl) (fun _ _ _ h => h) (by rfl) ?yc2 (HSa.out _ HB0.out HU0.out HT0.out) ?zc2
                case yc2 => (intro w hSw; (try dsimp only at hSw); go_simp; try with_reducible rfl)
                try simp only [mz1, mz2, mz3, Act.put, mz4, mz5, mz6]
                refine wtkq 3 ?vc3 rfl (by kernel_rfl) (fun _ _ _ h => h) (by rfl) ?yc3 (HSa.out _ HB0.out HU0.out HT0.out) ?zc3
                case yc3 => (intro w hSw; (try dsimp only at hSw); go_simp; try with_reducible rfl)
                try simp only [mz1, mz2, mz3, Act.put, mz4, mz5, mz6]
                refine wtkq 4 ?vc4 rfl (by kernel_rfl) (fun _ _ _ h => h) (by rfl) ?yc4 (HSa.out _ HB0.out HU0.out HT0.out) ?zc4
                case yc4 => (intro w hSw; (try dsimp only at hSw); go_simp; try with_reducible rfl)
                try simp only [mz1, mz2, mz3, Act.put, mz4, mz5, mz6]
                refine wtkq 5 ?vc5 rfl (by kernel_rfl) (fun _ _ _ h => h) (by rfl) ?yc5 (HSa.out _ HB0.out HU0.out HT0.out) ?zc5
                case yc5 => (intro w hSw; (try dsimp only at hSw); go_simp; try with_reducible rfl)
                try simp only [mz1, mz2, mz3, Act.put, mz4, mz5, mz6]
                refine wtkq 6 ?vc6 rfl (by kernel_rfl) (fun _ _ _ h => h) (by rfl) ?yc6 (HSa.out _ HB0.out HU0.out HT0.out) ?zc6
                case yc6 => (intro w hSw; (try dsimp only at hSw); go_simp; try with_reducible rfl)
                try simp only [mz1, mz2, mz3, Act.put, mz4, mz5, mz6]
                refine wtkq 7 ?vc7 rfl (by kernel_rfl) (fun _ _ _ h => h) (by rfl) ?yc7 (HSa.out _ HB0.out HU0.out HT0.out) ?zc7
                case yc7 => (intro w hSw; (try dsimp only at hSw); go_simp; try with_reducible rfl)
                try simp only [mz1, mz2, mz3, Act.put, mz4, mz5, mz6]
                refine wtkq 8 ?vc8 rfl (by kernel_rfl) (fun _ _ _ h => h) (by rfl) ?yc8 (HSa.out _ HB0.out HU0.out HT0.out) ?zc8
                case yc8 => (intro w hSw; (try dsimp only at hSw); go_simp; try with_reducible rfl)
                try simp only [mz1, mz2, mz3, Act.put, mz4, mz5, mz6]
                refine wtkq 9 ?vc9 rfl (by kernel_rfl) (fun _ _ _ h => h) (by rfl) ?yc9 (HSa.out _ HB0.out HU0.out HT0.out) ?zc9
                case yc9 => (intro w hSw; (try dsimp only at hSw); go_simp; try with_reducible rfl)
                try simp only [mz1, mz2, mz3, Act.put, mz4, mz5, mz6]
                refine wpAnyH_ready (rs := [10]) (by kernel_rfl) (by simp) ?_
                refine AllReadyH.cons rfl (fun KK hKK => ?_) AllReadyH.nil
                go_simp
                refine (HCi.out _ HB0.out).mono ?_; rintro e w3 ⟨rfl, hb3⟩; have HB3 := qa0 (jtwo HB0.out hb3); have HU3 := qa0 (HU0.out.later hb3); have HT3 := qa0 (HT0.out.later hb3); clear hb3
                refine hKK.out _ _ (HSa.out _ HB3.out HU3.out HT3.out) (fun _ => ?_)
                clear hKK KK
                try simp only [mz1, mz2, mz3, Act.put, mz4, mz5, mz6]
                refine wtkq 11 ?vc11 rfl (by kernel_rfl) (fun _ _ _ h => h) (by rfl) ?yc11 (HSa.out _ HB3.out HU3.out HT3.out) ?zc11
                case yc11 => (intro w hSw; (try dsimp only at hSw); go_simp; try with_reducible rfl)
                try simp only [mz1, mz2, mz3, Act.put, mz4, mz5, mz6]
                refine wpAnyH_done (by kernel_rfl) ?_ _
                go_wp2
                exact ⟨⟨i + 1, by omega, by go_num, HAs, HU3.out, HT3.out, HB3.out⟩, by simp [intOf]; omega⟩
              | false =>
                have HF : Hid (alB Q nr = false) := HAf.out HAs.out
                go_wp2
                refine wp_region_held (S := fun w' => w'.cell? ⟨w.heap.size, 4, none⟩ = some (.slice (some ⟨b, o, none⟩) nr cr) ∧ w'.cell? ⟨w.heap.size + 1, 4, none⟩ = some (.slice (some ⟨b2, o2, none⟩) nr2 cr2) ∧ w'.cell? ⟨b, o + i, none⟩ = some (.slice x1 z1 cq1) ∧ w'.cell? ⟨b2, o2 + i, none⟩ = some (.slice x2 z2 cq2)) (by kernel_rfl) ?_
                change wpAnyH _ _ _ _ _ _ _ _ (World.drew _)
                obtain ⟨W0, HW0⟩ : ∃ W0, Hid (wr.drew = W0) := ⟨_, rfl⟩
                have HB0 : Hid (Below w.heap.size w W0) := by show Below _ _ _; rw [← HW0.out]; exact HBr.out.drew
                have HU0 : Hid (Vn W0 w.heap.size 44 #[.int .u8 (k : Int), .string nm, .slice aa na ca, .slice pa np cp, .slice (some ⟨b, o, none⟩) nr cr, .int .i64 ln, .int .i64 cl]) := by show Vn _ _ _ _; rw [← HW0.out]; exact HU.out.later (qai _)
                have HT0 : Hid (Vn W0 (w.heap.size + 1) 44 #[.int .u8 (k2 : Int), .string nm2, .slice aa2 na2 ca2, .slice pa2 np2 cp2, .slice (some ⟨b2, o2, none⟩) nr2 cr2, .int .i64 ln2, .int .i64 cl2]) := by show Vn _ _ _ _; rw [← HW0.out]; exact HT.out.later (qai _)
                rw [HW0.out]
                clear HW0
                refine wtkq 0 ?ve0 rfl (by kernel_rfl) (fun _ _ _ h => h) (by rfl) ?ye0 (HSa.out _ HB0.out HU0.out HT0.out) ?ze0
                case ye0 => (intro w hSw; (try dsimp only at hSw); go_simp; try with_reducible rfl)
                try simp only [mz1, mz3, Act.put, mz4, mz5, mz6]
                refine wtkq 1 ?ve1 rfl (by kernel_rfl) (fun _ _ _ h => h) (by rfl) ?ye1 (HSa.out _ HB0.out HU0.out HT0.out) ?ze1
                case ye1 => (intro w hSw; (try dsimp only at hSw); go_simp; try with_reducible rfl)
                try simp only [mz1, mz2, mz3, Act.put, mz4, mz5, mz6]
                refine wtkq 2 ?ve2 rfl (by kernel_rfl) (fun _ _ _ h => h) (by rfl) ?ye2 (HSa.out _ HB0.out HU0.out HT0.out) ?ze2
                case ye2 => (intro w hSw; (try dsimp only at hSw); go_simp; try with_reducible rfl)
                try simp only [mz1, mz2, mz3, Act.put, mz4, mz5, mz6]
                refine wtkq 3 ?ve3 rfl (by kernel_rfl) (fun _ _ _ h => h) (by rfl) ?ye3 (HSa.out _ HB0.out HU0.out HT0.out) ?ze3
                case ye3 => (intro w hSw; (try dsimp only at hSw); go_simp; try with_reducible rfl)
                try simp only [mz1, mz2, mz3, Act.put, mz4, mz5, mz6]
                refine wtkq 4 ?ve4 rfl (by kernel_rfl) (fun _ _ _ h => h) (by rfl) ?ye4 (HSa.out _ HB0.out HU0.out HT0.out) ?ze4
                case ye4 => (intro w hSw; (try dsimp only at hSw); go_simp; try with_reducible rfl)
                try simp only [mz1, mz2, mz3, Act.put, mz4, mz5, mz6]
                refine wtkq 5 ?ve5 rfl (by kernel_rfl) (fun _ _ _ h => h) (by rfl) ?ye5 (HSa.out _ HB0.out HU0.out HT0.out) ?ze5
                case ye5 => (intro w hSw; (try dsimp only at hSw); go_simp; try with_reducible rfl)
                try simp only [mz1, mz2, mz3, Act.put, mz4, mz5, mz6]
                refine wtkq 6 ?ve6 rfl (by kernel_rfl) (fun _ _ _ h => h) (by rfl) ?ye6 (HSa.out _ HB0.out HU0.out HT0.out) ?ze6
                case ye6 => (intro w hSw; (try dsimp only at hSw); go_simp; try with_reducible rfl)
                try simp only [mz1, mz2, mz3, Act.put, mz4, mz5, mz6]
                refine wtkq 7 ?ve7 rfl (by kernel_rfl) (fun _ _ _ h => h) (by rfl) ?ye7 (HSa.out _ HB0.out HU0.out HT0.out) ?ze7
                case ye7 => (intro w hSw; (try dsimp only at hSw); go_simp; try with_reducible rfl)
                try simp only [mz1, mz2, mz3, Act.put, mz4, mz5, mz6]
                refine wtkq 8 ?ve8 rfl (by kernel_rfl) (fun _ _ _ h => h) (by rfl) ?ye8 (HSa.out _ HB0.out HU0.out HT0.out) ?ze8
                case ye8 => (intro w hSw; (try dsimp only at hSw); go_simp; try with_reducible rfl)
                try simp only [mz1, mz2, mz3, Act.put, mz4, mz5, mz6]
                refine wtkq 9 ?ve9 rfl (by kernel_rfl) (fun _ _ _ h => h) (by rfl) ?ye9 (HSa.out _ HB0.out HU0.out HT0.out) ?ze9
                case ye9 => (intro w hSw; (try dsimp only at hSw); go_simp; try with_reducible rfl)
                try simp only [mz1, mz2, mz3, Act.put, mz4, mz5, mz6]
                refine wpAnyH_ready (rs := [10]) (by kernel_rfl) (by simp) ?_
                refine AllReadyH.cons rfl (fun KK hKK => ?_) AllReadyH.nil
                go_simp
                refine (HCi.out _ HB0.out).mono ?_; rintro e w3 ⟨rfl, hb3⟩; have HB3 := qa0 (jtwo HB0.out hb3); have HU3 := qa0 (HU0.out.later hb3); have HT3 := qa0 (HT0.out.later hb3); clear hb3
                refine hKK.out _ _ (HSa.out _ HB3.out HU3.out HT3.out) (fun _ => ?_)
                clear hKK KK
                try simp only [mz1, mz2, mz3, Act.put, mz4, mz5, mz6]
                refine wtkq 11 ?ve11 rfl (by kernel_rfl) (fun _ _ _ h => h) (by rfl) ?ye11 (HSa.out _ HB3.out HU3.out HT3.out) ?ze11
                case ye11 => (intro w hSw; (try dsimp only at hSw); go_simp; try with_reducible rfl)
                try simp only [mz1, mz2, mz3, Act.put, mz4, mz5, mz6]
                refine wpAnyH_done (by kernel_rfl) ?_ _
                go_wp2
                go_ret
                exact ⟨by rw [HF.out, Bool.and_false]; rfl, HB3.out⟩
            · obtain rfl : nr = i := by omega
              clear hb
              go_wp2
              go_ret
              exact ⟨by rw [HA.out, HA2.out]; rfl, HBr.out⟩
theorem rlikes : ∀ (d : Nat) (w : World) (S U : St) (v u : Value), FinS d S → SV w v S → SV w u U → Calls Tryz.prog 20 #[v, u] w fun e w' => e = .returned (.bool (lsB d S U)) ∧ Below w.heap.size w w' := by
 intro d
 induction d with
 | zero => intro w S U v u h; exact h.elim
 | succ d ih =>
  intro w S U v u hF hX hY
  obtain ⟨⟨aa, pa, ra, ca, cp, cr, rfl, ha, hr, hp⟩, ok1⟩ := hX
  obtain ⟨⟨aa2, pa2, ra2, ca2, cp2, cr2, rfl, ha2, hr2, hp2⟩, ok2⟩ := hY
  have h := rls_one w (S []).k (S []).na ca (S []).np cp (S []).nr cr (U []).k (U []).na ca2 (U []).np cp2 (U []).nr cr2 (S []).ln (S []).cl (U []).ln (U []).cl (S []).nm (U []).nm aa pa ra aa2 pa2 ra2 (llB (S []).args (U []).args 16 (S []).na (U []).na) (fun i => lsB d (part S i) (part U i)) (fun i => llB ((S []).rows i) ((U []).rows i) 16 ((S []).rl i) ((U []).rl i)) (part S) (part U) (S []).rl (U []).rl (S []).rows (U []).rows ok1.np47 ok2.np47 ok1.nr47 ok2.nr47
   (fun w' hb => rlikexs 16 (rlikex 16) w' aa aa2 _ _ ca ca2 _ _ hF.1 (fun e => (ha e).later hb) (fun e => (ha2 e).later hb) ok1.na47 ok2.na47)
   hp hp2 hr hr2
   (fun i hi _ w' v u hb hv hu => ih w' (part S i) (part U i) v u (hF.2.2 i hi) (hv.later hb) (hu.later hb))
   (fun i hi hi' w' x x' c c' hb hx hx' => rlikexs 16 (rlikex 16) w' x x' _ _ c c' _ _ (hF.2.1 i hi) (fun e => (hx e).later hb) (fun e => (hx' e).later hb) (ok1.rl47 i hi) (ok2.rl47 i hi'))
  exact h
end Go.Proofs.YtnjcpmkfghcogaaGreatDoor
