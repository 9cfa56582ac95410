/-
  Contracts of the program's tree: Text.
-/
import Derived.Test.YtdimkfcanegahabDoorDs
namespace Go.Proofs.YtdimkfcanegahabDoor
open Go.RowKit
/-- The variables that the program's tree reads. -/
structure Ev10 (w : World) : Prop where
  t0 : Tab9 w
  t1 : Wt9 w
  t2 : Xs10 w
  t3 : Sw10 w
  t4 : Iw10 w
  t5 : Pw10 w
theorem Ev10.later {w w' : World} (h : Ev10 w) (hb : Below w.heap.size w w') : Ev10 w' := ⟨h.t0.later hb, h.t1.later hb, h.t2.later hb, h.t3.later hb, h.t4.later hb, h.t5.later hb⟩
theorem str_ten (a : ByteArray) : Lib.strCells (a ++ ⟨#[10]⟩) = Lib.strCells a ++ [.int .u8 10] := by rw [str_two]; rfl
theorem mi_nl {I : It} (h : iwant I = true) : I.nl ≤ 64 := by
  unfold iwant at h
  split at h
  · simp only [Bool.and_eq_true, decide_eq_true_eq] at h; omega
  · split at h
    · simp only [Bool.and_eq_true, decide_eq_true_eq] at h; omega
    · split at h
      · simp only [Bool.and_eq_true, decide_eq_true_eq] at h; omega
      · simp only [Bool.and_eq_true] at h
        have h := h.2.2
        split at h
        · simp only [Bool.and_eq_true, decide_eq_true_eq] at h; omega
        · split at h
          · split at h
            · simp only [Bool.and_eq_true, decide_eq_true_eq] at h; omega
            · split at h
              · simp only [Bool.and_eq_true, decide_eq_true_eq] at h; omega
              · split at h
                · simp only [Bool.and_eq_true, decide_eq_true_eq] at h; omega
                · cases h
          · cases h
set_option maxRecDepth 20000 in
set_option maxHeartbeats 8000000 in
theorem ttext10 (w : World) (a : Option Addr) (n c : Nat) (F : Nat → It) (hI : Its w a n F) (hn : n ≤ 549755813888) (hv : Ev10 w) :
    Calls Tryd.prog 5 #[.slice a n c] w fun e w' => e = .returned (.tuple #[.string (dS F n), .int .i64 (dE F n : Nat)]) ∧ Below w.heap.size w w' := by
  have HI := jhid9 hI
  have HE := jhid9 hv
  have HMy := jhid9 (fun w' (hb : Below w.heap.size w w') => tmay10 w' a n c F (HI.out.later hb) hn (HE.out.later hb).t1)
  clear hI hv
  obtain ⟨R, HR⟩ : ∃ R, Hid (dS F n = R) := ⟨_, rfl⟩
  obtain ⟨E, HEr⟩ : ∃ E, Hid (dE F n = E) := ⟨_, rfl⟩
  rw [HR.out, HEr.out]
  cases hm : mayD F n with
  | false =>
    obtain rfl : E = 2 := by rw [← HEr.out]; unfold dE; rw [hm]; rfl
    obtain rfl : R = ⟨#[]⟩ := by rw [← HR.out]; unfold dS; rw [hm]; rfl
    rw [hm] at HMy
    clear HR HEr hm HI HE
    go_enter Tryd.func5, Tryd.ntmps5
    go_wp2_with (go_at_call 9; refine (HMy.out _ (Below.refl _ _)).mono ?_; rintro e w2 ⟨rfl, hb2⟩; have HB2 := jhid9 hb2; clear hb2)
    go_ret2
    exact ⟨rfl, HB2.out⟩
  | true =>
    have HM := jhid9 (mayD_mi hm)
    have HNl : Hid (∀ i, i < n → (F i).nl ≤ 64) := fun i hi => mi_nl (mayD_nl hm i hi)
    have HFin : Hid ((dby F n 0).length ≤ 65536 → R = ⟨(dby F n 0).toArray⟩ ∧ E = 0) := fun h => ⟨by rw [← HR.out]; unfold dS; rw [hm, if_neg (by simp), if_pos h], by rw [← HEr.out]; unfold dE; rw [hm, if_neg (by simp), if_pos h]⟩
    have HBig : Hid (∀ i, i < n → 65536 < (dby F (i + 1) 0).length → R = ⟨#[]⟩ ∧ E = 4) := fun i hi h => by
      have := dby_mono F (i + 1) (n - (i + 1))
      rw [show i + 1 + (n - (i + 1)) = n by omega] at this
      exact ⟨by rw [← HR.out]; unfold dS; rw [hm, if_neg (by simp), if_neg (by omega)], by rw [← HEr.out]; unfold dE; rw [hm, if_neg (by simp), if_neg (by omega)]⟩
    rw [hm] at HMy
    clear HR HEr hm
    obtain ⟨i0, hi0, hz0, hz1, hz2⟩ := info_parts infByte
    go_enter Tryd.func5, Tryd.ntmps5
    go_wp2_with (go_at_call 9; refine (HMy.out _ (Below.refl _ _)).mono ?_; rintro e w0 ⟨rfl, hb2⟩; have HB0 := jhid9 hb2; clear hb2)
    go_loopw [4, 16] (fun v vi wr => ∃ (i : Nat) (s : ByteArray) (av : Option Addr) (dv : Nat), i ≤ n ∧ vi = .int .i64 (i : Int) ∧ v = .slice av s.size dv ∧ s.size ≤ 65536 ∧ Hid (dby F i 0 = s.data.toList) ∧ Txt wr w.heap.size v s ∧ Below w.heap.size w wr) (fun _ vi _ => n - (intOf vi).toNat)
    case atStart => exact ⟨0, ⟨#[]⟩, none, 0, by omega, rfl, rfl, by decide, rfl, Txt.nil _ _, HB0.out⟩
    case round =>
      obtain ⟨i, s, av, dv, hi, rfl, rfl, hs65, HJ, htx, hb⟩ := hrel
      have HB := jhid9 hb
      have HTx := jhid9 htx
      clear htx
      by_cases hlt : i < n
      · have p0 : (0 : Int) ≤ (i : Int) := by omega
        have p1 : (i : Int) < (n : Int) := by omega
        obtain ⟨b, o, k, pl, nl, vk, vl, vc, sk, na, ca, np, cp, nr, cr, lc, nm, vm, sm, vn, vln, vcl, sln, scl, ln, cl, va, aa, pa, ra, la, T, S, G, rfl, hF, hT, hS, hG, k8, p8, hnm, hnl, hcl⟩ := HI.out.at_ hlt
        have hMi := HM.out.2 i hlt
        have h64 := HNl.out i hlt
        rw [hF] at hMi h64
        obtain ⟨bt, hbt, hib⟩ := itk_f hMi
        have hlen := itk_len hMi h64
        have HPi : Hid (∀ (w0 w' : World) (bc : Nat), Below w.heap.size w w0 → Lp w0 w' bc [] → Calls Tryd.prog 13 #[.func (.func 21) #[] #[.pointer (some ⟨bc, 0, none⟩)], .agg #[.int .u8 (k : Int), .string nm, .int .u8 (vk : Int), .int .i64 vn, .string vm, .slice va vl vc, .int .i64 vln, .int .i64 vcl, .int .u8 (sk : Int), .string sm, .slice aa na ca, .slice pa np cp, .slice ra nr cr, .int .i64 sln, .int .i64 scl, .int .u8 (pl : Int), .slice la nl lc, .int .i64 ln, .int .i64 cl]] w' fun e w'' => e = .returned (.tuple #[]) ∧ Lp w0 w'' bc (itk ⟨k, nm, T, S, pl, nl, G, ln, cl⟩) ∧ Gw bc w' w'') := fun w0 w' bc hb hl => tputi w0 w' bc k pl nl vk vl vc sk na ca np cp nr cr lc nm vm sm vn vln vcl sln scl ln cl va aa pa ra la T S G (hT.later hb) (hS.later hb) (fun d => (hG d).later hb) hMi h64 (HE.out.later hb).t2 (HE.out.later hb).t3 (HE.out.later hb).t4 (HE.out.later hb).t5 hl
        obtain ⟨Si, HSi⟩ : ∃ Si : ByteArray, Hid ((if bt.length ≤ 65536 then ⟨bt.toArray⟩ else ⟨#[]⟩) = Si) := ⟨_, rfl⟩
        obtain ⟨Ei, HEi⟩ : ∃ Ei : Nat, Hid ((if bt.length ≤ 65536 then 0 else 4 : Nat) = Ei) := ⟨_, rfl⟩
        have HTt : Hid (∀ (w0 w' : World) (bc : Nat), Below w.heap.size w w' → Lp w0 w' bc (itk ⟨k, nm, T, S, pl, nl, G, ln, cl⟩) → Calls Tryd.prog 22 #[.pointer (some ⟨bc, 0, none⟩)] w' fun e w'' => e = .returned (.tuple #[.string Si, .int .i64 (Ei : Int)]) ∧ Below w'.heap.size w' w'') := fun w0 w' bc hb hl => by
          have := ttext w0 w' bc _ bt hl hbt (by omega) (HE.out.later hb).t0 (HE.out.later hb).t1
          rw [HSi.out, HEi.out] at this
          exact this
        have HDn : Hid (dby F (i + 1) 0 = s.data.toList ++ (bt ++ [10])) := by show _ = _; rw [dby_snoc, HJ.out, Nat.zero_add, hF, hib]
        have hSi : Si.size ≤ 65536 := by
          rw [← HSi.out]
          split
          · rename_i h; show bt.toArray.size ≤ _; rw [List.size_toArray]; exact h
          · show 0 ≤ _; omega
        obtain ⟨s2, HS2⟩ : ∃ s2 : ByteArray, Hid (s ++ Si = s2) := ⟨_, rfl⟩
        obtain ⟨s3, HS3⟩ : ∃ s3 : ByteArray, Hid (s2 ++ ⟨#[10]⟩ = s3) := ⟨_, rfl⟩
        have hz2s : s.size + Si.size = s2.size := by rw [← HS2.out, ByteArray.size_append]
        have hz3s : s2.size + 1 = s3.size := by rw [← HS3.out, ByteArray.size_append]; rfl
        have HC2 : Hid (Lib.strCells s ++ Lib.strCells Si = Lib.strCells s2) := by show _ = _; rw [← HS2.out, str_two]
        have HC3 : Hid (Lib.strCells s2 ++ [.int .u8 10] = Lib.strCells s3) := by show _ = _; rw [← HS3.out, str_ten]
        have HRg := jhid9 (hcl _ hb)
        have g1 : ¬ 9223372036854775807 < s3.size := by omega
        by_cases hbl : bt.length ≤ 65536
        · obtain rfl : Ei = 0 := by rw [← HEi.out, if_pos hbl]
          have HDs : Hid (dby F (i + 1) 0 = s3.data.toList) := by show _ = _; rw [HDn.out, ← HS3.out, ← HS2.out, app_by, app_by, ← HSi.out, if_pos hbl, List.append_assoc]
          have hl3 : (dby F (i + 1) 0).length = s3.size := by rw [HDs.out, Array.length_toList]; rfl
          have HBg : Hid (65536 < s3.size → R = ⟨#[]⟩ ∧ E = 4) := fun h => HBig.out i hlt (by rw [hl3]; exact h)
          clear hcl hT hS hG hF hb hMi hbt hib HSi HEi HDn HS2 HS3 hl3
          by_cases hbig : 65536 < s3.size
          · obtain ⟨rfl, rfl⟩ := HBg.out hbig
            have g2 : decide ((65536 : Int) < (s3.size : Int)) = true := decide_eq_true (by omega)
            have g3 : decide (65536 < s3.size) = true := decide_eq_true hbig
            have M1 : True := trivial
            have M2 : True := trivial
            have M3 : True := trivial
            have M4 : True := trivial
            have M5 : True := trivial
            go_wp2_with (first
              | (clear M1; refine wpList_load_mid rfl 41 _ rfl b _ rfl [.int .u8 (k : Int), .string nm, .int .u8 (vk : Int), .int .i64 vn, .string vm, .slice va vl vc, .int .i64 vln, .int .i64 vcl, .int .u8 (sk : Int), .string sm, .slice aa na ca, .slice pa np cp, .slice ra nr cr, .int .i64 sln, .int .i64 scl, .int .u8 (pl : Int), .slice la nl lc, .int .i64 ln, .int .i64 cl] _ HRg.out Tryd.underlying41 rfl sizeI ?_)
              | (clear M3; refine wpList_store_vn rfl 41 _ _ rfl wr.heap.size _ #[.int .u8 (k : Int), .string nm, .int .u8 (vk : Int), .int .i64 vn, .string vm, .slice va vl vc, .int .i64 vln, .int .i64 vcl, .int .u8 (sk : Int), .string sm, .slice aa na ca, .slice pa np cp, .slice ra nr cr, .int .i64 sln, .int .i64 scl, .int .u8 (pl : Int), .slice la nl lc, .int .i64 ln, .int .i64 cl] rfl rfl (Vn.new wr _ _) sizeI rfl (all19 rfl rfl rfl rfl rfl rfl rfl rfl rfl rfl rfl rfl rfl rfl rfl rfl rfl rfl rfl) ?_; intro w1 HV1 hg1; have hb1 : Below wr.heap.size wr w1 := (jlow _ _).trans (jbelow hg1.out (jlow _ _).size (fun g e => by cases e; exact Nat.le_refl _)); have HB1 := jhid9 (jtwo HB.out hb1); have HT1 := jhid9 (HTx.out.later hb1); have hs1 := hb1.size; clear hg1 hb1)
              | (go_at_call 12; refine (tline _).mono ?_; rintro e w2 ⟨bc, rfl, hl2, hb2⟩; have HL2 := jhid9 hl2; have HB2 := jhid9 (jtwo HB1.out hb2); have HV2 := jhid9 (HV1.out.later hb2); have HT2 := jhid9 (HT1.out.later hb2); have hlo := hl2.low; clear hl2 hb2)
              | (clear M2; refine wpList_load_rowg (by rfl) 41 _ rfl wr.heap.size rfl 41 #[.int .u8 (k : Int), .string nm, .int .u8 (vk : Int), .int .i64 vn, .string vm, .slice va vl vc, .int .i64 vln, .int .i64 vcl, .int .u8 (sk : Int), .string sm, .slice aa na ca, .slice pa np cp, .slice ra nr cr, .int .i64 sln, .int .i64 scl, .int .u8 (pl : Int), .slice la nl lc, .int .i64 ln, .int .i64 cl] (0, 0) _ HV2.out Tryd.underlying41 rfl sizeI ?_)
              | (go_at_call 13; refine (HPi.out _ _ bc HB1.out HL2.out).mono ?_; rintro e w3 ⟨rfl, hl3, hg3⟩; have HL3 := jhid9 hl3; have HB3 := jhid9 (HB1.out.trans (hl3.below.mono HB1.out.size)); have HT3 := jhid9 (HT2.out.gw hg3 (fun q hq => by have := HTx.out.below hq; omega)); clear hl3 hg3)
              | (go_at_call 22; refine (HTt.out _ _ bc HB3.out HL3.out).mono ?_; rintro e w4 ⟨rfl, hb4⟩; have HB4 := jhid9 (jtwo HB3.out hb4); have HT4 := jhid9 (HT3.out.later hb4); clear hb4)
              | (clear M4; at_builtin; refine Lib.wpList_append_own_string _ rfl _ _ 47 9 rfl w.heap.size 5 i0 Tryd.underlying47 Tryd.underlying9 hi0 hz0 hz1 hz2 _ _ _ rfl HT4.out Si rfl (by unfold maxLen; omega) (by omega) HB4.out.size ?_; intro v6 w6 hown6 hgrow6 _; have HT6 : Hid (Txt w6 w.heap.size v6 s2) := (by have h := hown6; rw [hz2s, HC2.out] at h; exact h); have HB6 : Hid (Below w.heap.size w w6) := HB4.out.trans (jbelow hgrow6 HB4.out.size (fun g hg => HT4.out.base hg)); clear hown6 hgrow6; obtain ⟨a6, d6, rfl⟩ := HT6.out.form)
              | (clear M5; at_builtin; refine wpList_append_own _ rfl _ _ 47 rfl w.heap.size 5 i0 (.int .u8 0) 1 1 Tryd.underlying47 hi0 hz0 hz1 hz2 rfl (by decide) _ _ _ rfl (HT6.out.later (jlow _ _)) ⟨w6.heap.size, 0, none⟩ 1 1 [.int .u8 10] rfl rfl (one_newj _ _ _) (by intro u hu; simp at hu; rcases hu with rfl; rfl) (by unfold maxLen; omega) (by omega) (by have := HB6.out.size; simp; omega) ?_; intro v7 w7 hown7 hgrow7 _; have HT7 : Hid (Txt w7 w.heap.size v7 s3) := (by have h := hown7; rw [hz3s, HC3.out] at h; exact h); have HB7 : Hid (Below w.heap.size w w7) := (jtwo HB6.out (jlow _ _)).trans (jbelow hgrow7 (by have := HB6.out.size; simp; omega) (fun g hg => HT6.out.base hg)); clear hown7 hgrow7; obtain ⟨a7, d7, rfl⟩ := HT7.out.form))
            go_ret2
            exact ⟨rfl, HB7.out⟩
          · have g2 : decide ((65536 : Int) < (s3.size : Int)) = false := decide_eq_false (by omega)
            have g3 : decide (65536 < s3.size) = false := decide_eq_false hbig
            have M1 : True := trivial
            have M2 : True := trivial
            have M3 : True := trivial
            have M4 : True := trivial
            have M5 : True := trivial
            go_wp2_with (first
              | (clear M1; refine wpList_load_mid rfl 41 _ rfl b _ rfl [.int .u8 (k : Int), .string nm, .int .u8 (vk : Int), .int .i64 vn, .string vm, .slice va vl vc, .int .i64 vln, .int .i64 vcl, .int .u8 (sk : Int), .string sm, .slice aa na ca, .slice pa np cp, .slice ra nr cr, .int .i64 sln, .int .i64 scl, .int .u8 (pl : Int), .slice la nl lc, .int .i64 ln, .int .i64 cl] _ HRg.out Tryd.underlying41 rfl sizeI ?_)
              | (clear M3; refine wpList_store_vn rfl 41 _ _ rfl wr.heap.size _ #[.int .u8 (k : Int), .string nm, .int .u8 (vk : Int), .int .i64 vn, .string vm, .slice va vl vc, .int .i64 vln, .int .i64 vcl, .int .u8 (sk : Int), .string sm, .slice aa na ca, .slice pa np cp, .slice ra nr cr, .int .i64 sln, .int .i64 scl, .int .u8 (pl : Int), .slice la nl lc, .int .i64 ln, .int .i64 cl] rfl rfl (Vn.new wr _ _) sizeI rfl (all19 rfl rfl rfl rfl rfl rfl rfl rfl rfl rfl rfl rfl rfl rfl rfl rfl rfl rfl rfl) ?_; intro w1 HV1 hg1; have hb1 : Below wr.heap.size wr w1 := (jlow _ _).trans (jbelow hg1.out (jlow _ _).size (fun g e => by cases e; exact Nat.le_refl _)); have HB1 := jhid9 (jtwo HB.out hb1); have HT1 := jhid9 (HTx.out.later hb1); have hs1 := hb1.size; clear hg1 hb1)
              | (go_at_call 12; refine (tline _).mono ?_; rintro e w2 ⟨bc, rfl, hl2, hb2⟩; have HL2 := jhid9 hl2; have HB2 := jhid9 (jtwo HB1.out hb2); have HV2 := jhid9 (HV1.out.later hb2); have HT2 := jhid9 (HT1.out.later hb2); have hlo := hl2.low; clear hl2 hb2)
              | (clear M2; refine wpList_load_rowg (by rfl) 41 _ rfl wr.heap.size rfl 41 #[.int .u8 (k : Int), .string nm, .int .u8 (vk : Int), .int .i64 vn, .string vm, .slice va vl vc, .int .i64 vln, .int .i64 vcl, .int .u8 (sk : Int), .string sm, .slice aa na ca, .slice pa np cp, .slice ra nr cr, .int .i64 sln, .int .i64 scl, .int .u8 (pl : Int), .slice la nl lc, .int .i64 ln, .int .i64 cl] (0, 0) _ HV2.out Tryd.underlying41 rfl sizeI ?_)
              | (go_at_call 13; refine (HPi.out _ _ bc HB1.out HL2.out).mono ?_; rintro e w3 ⟨rfl, hl3, hg3⟩; have HL3 := jhid9 hl3; have HB3 := jhid9 (HB1.out.trans (hl3.below.mono HB1.out.size)); have HT3 := jhid9 (HT2.out.gw hg3 (fun q hq => by have := HTx.out.below hq; omega)); clear hl3 hg3)
              | (go_at_call 22; refine (HTt.out _ _ bc HB3.out HL3.out).mono ?_; rintro e w4 ⟨rfl, hb4⟩; have HB4 := jhid9 (jtwo HB3.out hb4); have HT4 := jhid9 (HT3.out.later hb4); clear hb4)
              | (clear M4; at_builtin; refine Lib.wpList_append_own_string _ rfl _ _ 47 9 rfl w.heap.size 5 i0 Tryd.underlying47 Tryd.underlying9 hi0 hz0 hz1 hz2 _ _ _ rfl HT4.out Si rfl (by unfold maxLen; omega) (by omega) HB4.out.size ?_; intro v6 w6 hown6 hgrow6 _; have HT6 : Hid (Txt w6 w.heap.size v6 s2) := (by have h := hown6; rw [hz2s, HC2.out] at h; exact h); have HB6 : Hid (Below w.heap.size w w6) := HB4.out.trans (jbelow hgrow6 HB4.out.size (fun g hg => HT4.out.base hg)); clear hown6 hgrow6; obtain ⟨a6, d6, rfl⟩ := HT6.out.form)
              | (clear M5; at_builtin; refine wpList_append_own _ rfl _ _ 47 rfl w.heap.size 5 i0 (.int .u8 0) 1 1 Tryd.underlying47 hi0 hz0 hz1 hz2 rfl (by decide) _ _ _ rfl (HT6.out.later (jlow _ _)) ⟨w6.heap.size, 0, none⟩ 1 1 [.int .u8 10] rfl rfl (one_newj _ _ _) (by intro u hu; simp at hu; rcases hu with rfl; rfl) (by unfold maxLen; omega) (by omega) (by have := HB6.out.size; simp; omega) ?_; intro v7 w7 hown7 hgrow7 _; have HT7 : Hid (Txt w7 w.heap.size v7 s3) := (by have h := hown7; rw [hz3s, HC3.out] at h; exact h); have HB7 : Hid (Below w.heap.size w w7) := (jtwo HB6.out (jlow _ _)).trans (jbelow hgrow7 (by have := HB6.out.size; simp; omega) (fun g hg => HT6.out.base hg)); clear hown7 hgrow7; obtain ⟨a7, d7, rfl⟩ := HT7.out.form))
            exact ⟨⟨i + 1, s3, a7, d7, by omega, by go_num, rfl, by omega, HDs, HT7.out, HB7.out⟩, by simp [intOf]; omega⟩
        · obtain rfl : Ei = 4 := by rw [← HEi.out, if_neg hbl]
          obtain ⟨rfl, rfl⟩ : R = ⟨#[]⟩ ∧ E = 4 := HBig.out i hlt (by rw [HDn.out]; simp only [List.length_append]; omega)
          clear hcl hT hS hG hF hb hMi hbt hib HSi HEi HDn HS2 HS3
          have M1 : True := trivial
          have M2 : True := trivial
          have M3 : True := trivial
          have M4 : True := trivial
          have M5 : True := trivial
          go_wp2_with (first
            | (clear M1; refine wpList_load_mid rfl 41 _ rfl b _ rfl [.int .u8 (k : Int), .string nm, .int .u8 (vk : Int), .int .i64 vn, .string vm, .slice va vl vc, .int .i64 vln, .int .i64 vcl, .int .u8 (sk : Int), .string sm, .slice aa na ca, .slice pa np cp, .slice ra nr cr, .int .i64 sln, .int .i64 scl, .int .u8 (pl : Int), .slice la nl lc, .int .i64 ln, .int .i64 cl] _ HRg.out Tryd.underlying41 rfl sizeI ?_)
            | (clear M3; refine wpList_store_vn rfl 41 _ _ rfl wr.heap.size _ #[.int .u8 (k : Int), .string nm, .int .u8 (vk : Int), .int .i64 vn, .string vm, .slice va vl vc, .int .i64 vln, .int .i64 vcl, .int .u8 (sk : Int), .string sm, .slice aa na ca, .slice pa np cp, .slice ra nr cr, .int .i64 sln, .int .i64 scl, .int .u8 (pl : Int), .slice la nl lc, .int .i64 ln, .int .i64 cl] rfl rfl (Vn.new wr _ _) sizeI rfl (all19 rfl rfl rfl rfl rfl rfl rfl rfl rfl rfl rfl rfl rfl rfl rfl rfl rfl rfl rfl) ?_; intro w1 HV1 hg1; have hb1 : Below wr.heap.size wr w1 := (jlow _ _).trans (jbelow hg1.out (jlow _ _).size (fun g e => by cases e; exact Nat.le_refl _)); have HB1 := jhid9 (jtwo HB.out hb1); have HT1 := jhid9 (HTx.out.later hb1); have hs1 := hb1.size; clear hg1 hb1)
            | (go_at_call 12; refine (tline _).mono ?_; rintro e w2 ⟨bc, rfl, hl2, hb2⟩; have HL2 := jhid9 hl2; have HB2 := jhid9 (jtwo HB1.out hb2); have HV2 := jhid9 (HV1.out.later hb2); have HT2 := jhid9 (HT1.out.later hb2); have hlo := hl2.low; clear hl2 hb2)
            | (clear M2; refine wpList_load_rowg (by rfl) 41 _ rfl wr.heap.size rfl 41 #[.int .u8 (k : Int), .string nm, .int .u8 (vk : Int), .int .i64 vn, .string vm, .slice va vl vc, .int .i64 vln, .int .i64 vcl, .int .u8 (sk : Int), .string sm, .slice aa na ca, .slice pa np cp, .slice ra nr cr, .int .i64 sln, .int .i64 scl, .int .u8 (pl : Int), .slice la nl lc, .int .i64 ln, .int .i64 cl] (0, 0) _ HV2.out Tryd.underlying41 rfl sizeI ?_)
            | (go_at_call 13; refine (HPi.out _ _ bc HB1.out HL2.out).mono ?_; rintro e w3 ⟨rfl, hl3, hg3⟩; have HL3 := jhid9 hl3; have HB3 := jhid9 (HB1.out.trans (hl3.below.mono HB1.out.size)); have HT3 := jhid9 (HT2.out.gw hg3 (fun q hq => by have := HTx.out.below hq; omega)); clear hl3 hg3)
            | (go_at_call 22; refine (HTt.out _ _ bc HB3.out HL3.out).mono ?_; rintro e w4 ⟨rfl, hb4⟩; have HB4 := jhid9 (jtwo HB3.out hb4); have HT4 := jhid9 (HT3.out.later hb4); clear hb4)
            | (clear M4; at_builtin; refine Lib.wpList_append_own_string _ rfl _ _ 47 9 rfl w.heap.size 5 i0 Tryd.underlying47 Tryd.underlying9 hi0 hz0 hz1 hz2 _ _ _ rfl HT4.out Si rfl (by unfold maxLen; omega) (by omega) HB4.out.size ?_; intro v6 w6 hown6 hgrow6 _; have HT6 : Hid (Txt w6 w.heap.size v6 s2) := (by have h := hown6; rw [hz2s, HC2.out] at h; exact h); have HB6 : Hid (Below w.heap.size w w6) := HB4.out.trans (jbelow hgrow6 HB4.out.size (fun g hg => HT4.out.base hg)); clear hown6 hgrow6; obtain ⟨a6, d6, rfl⟩ := HT6.out.form)
            | (clear M5; at_builtin; refine wpList_append_own _ rfl _ _ 47 rfl w.heap.size 5 i0 (.int .u8 0) 1 1 Tryd.underlying47 hi0 hz0 hz1 hz2 rfl (by decide) _ _ _ rfl (HT6.out.later (jlow _ _)) ⟨w6.heap.size, 0, none⟩ 1 1 [.int .u8 10] rfl rfl (one_newj _ _ _) (by intro u hu; simp at hu; rcases hu with rfl; rfl) (by unfold maxLen; omega) (by omega) (by have := HB6.out.size; simp; omega) ?_; intro v7 w7 hown7 hgrow7 _; have HT7 : Hid (Txt w7 w.heap.size v7 s3) := (by have h := hown7; rw [hz3s, HC3.out] at h; exact h); have HB7 : Hid (Below w.heap.size w w7) := (jtwo HB6.out (jlow _ _)).trans (jbelow hgrow7 (by have := HB6.out.size; simp; omega) (fun g hg => HT6.out.base hg)); clear hown7 hgrow7; obtain ⟨a7, d7, rfl⟩ := HT7.out.form))
          go_ret2
          exact ⟨rfl, HB7.out⟩
      · obtain rfl : i = n := by omega
        obtain ⟨hR, rfl⟩ := HFin.out (by rw [HJ.out, Array.length_toList]; exact hs65)
        have HRs : Hid (R = s) := by
          show R = s
          rw [hR, HJ.out, Array.toArray_toList]
        have hcv := HTx.out.read
        clear hR hb
        go_wp2
        go_ret2
        exact ⟨by rw [HRs.out]; rfl, HB.out⟩
end Go.Proofs.YtdimkfcanegahabDoor
