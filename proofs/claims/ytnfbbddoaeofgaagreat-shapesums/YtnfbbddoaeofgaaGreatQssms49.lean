/-
  math/bits.Len at this program.
  slices.Sorted and slices.Compact of a list of one set.
  Groups that hang together: hang.
  A code with one group: allHang, isGenerator, May; the laws' anchor.
-/
import Derived.Test.YtnfbbddoaeofgaaGreatQssms00
import Derived.Shelf.Small.Bits
import Derived.Shelf.Bits.Mul64
import Derived.Test.YtnfbbddoaeofgaaGreatQssms47
import Derived.Test.YtnfbbddoaeofgaaGreatQssms48
import Derived.Test.YtnfbbddoaeofgaaGreatQssms46
set_option maxRecDepth 100000
set_option maxHeartbeats 16000000
namespace Go.Proofs.YtnfbbddoaeofgaaGreat
open Go.RowKit Go.Shelf
def renLen : Go.Shelf.Ren := ⟨fun | 125 => 156 | 128 => 184 | 129 => 185 | n => n, fun | 46 => 79 | 3 => 3 | 51 => 140 | 53 => 53 | 4 => 4 | 5 => 5 | 9 => 9 | n => n, fun | n => n⟩
theorem layLen : Go.Proofs.Lays.n125 Tryz.prog renLen := {
 mixed := by kernel_rfl
 f125 := Tryz.func156.trans (congrArg some (by kernel_rfl))
 f128 := Tryz.func184.trans (congrArg some (by kernel_rfl))
 f129 := Tryz.func185.trans (congrArg some (by kernel_rfl))
 t3 := Tryz.underlying3
 a3 := Tryz.isAgg3
 z3 := Tryz.sizeOf3
 v3 := Tryz.zeroValue3
 t4 := Tryz.underlying4
 a4 := Tryz.isAgg4
 z4 := Tryz.sizeOf4
 v4 := Tryz.zeroValue4
 t5 := Tryz.underlying5
 a5 := Tryz.isAgg5
 z5 := Tryz.sizeOf5
 v5 := Tryz.zeroValue5
 t9 := Tryz.underlying9
 a9 := Tryz.isAgg9
 z9 := Tryz.sizeOf9
 v9 := Tryz.zeroValue9
 t46 := Tryz.underlying79
 a46 := Tryz.isAgg79
 z46 := Tryz.sizeOf79
 v46 := Tryz.zeroValue79
 t51 := Tryz.underlying140
 a51 := Tryz.isAgg140
 z51 := Tryz.sizeOf140
 v51 := Tryz.zeroValue140
 t53 := Tryz.underlying53
 a53 := Tryz.isAgg53
 z53 := Tryz.sizeOf53
 v53 := Tryz.zeroValue53 }
theorem len16 (w : World) (x : Int) (h0 : 0 ≤ x) (h1 : x ≤ 18446744073709551615) : ∃ L : Int, Calls Tryz.prog 156 #[.int .u64 x] w fun e w' => e = .returned (.int .i64 L) ∧ w = w' := ⟨_, (Any.bits_Len layLen x w h0 h1).mono (fun _ _ h => ⟨h.1, h.2.symm⟩)⟩
open Go.RowKit
theorem ins1 (w : World) (a : Option Addr) (n k : Nat) : Calls Tryz.prog 175 #[.slice a n k, .int .i64 0, .int .i64 1] w fun e w' => e = .returned (.tuple #[]) ∧ w = w' := by
 go_enter Tryz.func175, Tryz.ntmps175
 go_wp2
 go_loopw [6] (fun vi wr => vi = .int .i64 1 ∧ w = wr) (fun _ _ => 0)
 case atStart => exact ⟨rfl, rfl⟩
 case round =>
  obtain ⟨rfl, rfl⟩ := hrel
  go_wp2
  go_end0
  exact ⟨rfl, rfl⟩
theorem pdq1 (w : World) (a : Option Addr) (n k : Nat) (L : Int) : Calls Tryz.prog 155 #[.slice a n k, .int .i64 0, .int .i64 1, .int .i64 L] w fun e w' => e = .returned (.tuple #[]) ∧ w = w' := by
 go_enter Tryz.func155, Tryz.ntmps155
 go_wp2
 refine wp_loop_rounds 1 ?_
 rw [rounds_succ]
 go_wp2_with (go_at_call 175; refine (ins1 _ _ _ _).mono ?_; rintro e w' ⟨rfl, rfl⟩)
 refine bodyPost_ret (v := .tuple #[]) (by simp [results, Tryz.results155, go_sem]) rfl ?_
 exact ⟨rfl, rfl⟩
theorem sort1 (w : World) (a : Option Addr) (k : Nat) : Calls Tryz.prog 133 #[.slice a 1 k] w fun e w' => e = .returned (.tuple #[]) ∧ w = w' := by
 obtain ⟨L, hL⟩ := len16 w 1 (by omega) (by omega)
 have HL : Hid (Calls Tryz.prog 156 #[.int .u64 1] w fun e w' => e = .returned (.int .i64 L) ∧ w = w') := hL
 clear hL
 go_enter Tryz.func133, Tryz.ntmps133
 go_wp2_with (first
  | (go_at_call 156; refine HL.out.mono ?_; rintro e w' ⟨rfl, rfl⟩)
  | (go_at_call 155; refine (pdq1 _ _ _ _ _).mono ?_; rintro e w' ⟨rfl, rfl⟩))
 go_end0
 exact ⟨rfl, rfl⟩
theorem sorted1 (w : World) (a : Option Addr) (k bv q : Nat) (hv : w.cell? ⟨bv, 0, none⟩ = some (.slice a 1 k)) (hj : Jl w a .u64 1 (fun _ => (q : Int))) :
  Calls Tryz.prog 103 #[.func (.func 134) #[] #[.pointer (some ⟨bv, 0, none⟩)]] w fun e w' => ∃ s d, e = .returned (.slice s 1 d) ∧ Jo w' w.heap.size 54 .u64 (.slice s 1 d) 1 (fun _ => q) ∧ Below w.heap.size w w' := by
 have HC := jhidv (qji w a 1 k bv (fun _ => q) (by omega) hv hj)
 clear hv hj
 go_enter Tryz.func103, Tryz.ntmps103
 go_wp2_with (first
  | (go_at_call 132; refine HC.out.mono ?_; rintro e w1 ⟨s, d, rfl, ho, hb⟩; have HO : Hid (Jo w1 w.heap.size 54 .u64 (.slice s 1 d) 1 (fun _ => q)) := ho; have HB : Hid (Below w.heap.size w w1) := hb; clear ho hb)
  | (go_at_call 133; refine (sort1 _ _ _).mono ?_; rintro e w' ⟨rfl, rfl⟩))
 go_ret
 exact ⟨s, d, rfl, HO.out, HB.out⟩
theorem compact1 (w : World) (a : Option Addr) (k : Nat) : Calls Tryz.prog 102 #[.slice a 1 k] w fun e w' => e = .returned (.slice a 1 k) ∧ w = w' := by
 go_enter Tryz.func102, Tryz.ntmps102
 go_wp2
 go_ret
 exact ⟨rfl, rfl⟩
open Go.RowKit
theorem qjl {s r : Nat} (hr : r ≤ 64) (hs : s < 18446744073709551616) (h : ¬ s < 2 ^ r) : cn s r < cn s 64 ∧ r ≤ lf s 64 (cn s r) ∧ ∀ i, i < cn s r → lf s 64 i < r := by
 have h1 : cn s r < cn s 64 := by
  have hm := qbn (s := s) hr
  rcases Nat.lt_or_ge (cn s r) (cn s 64) with x | x
  ·exact x
  ·exfalso
   have e := mod_same hr (show cn s r = cn s 64 by omega)
   rw [Nat.mod_eq_of_lt (show s < 2 ^ 64 from hs)] at e
   exact h (by rw [← e]; exact Nat.mod_lt _ (Nat.pow_pos (by omega)))
 obtain ⟨a1, a2, a3⟩ := qb1 h1
 refine ⟨h1, ?_, fun i hi => ?_⟩
 ·rcases Nat.lt_or_ge (lf s 64 (cn s r)) r with x | x
  ·exfalso
   have := qbn (s := s) (show lf s 64 (cn s r) + 1 ≤ r by omega)
   rw [qaz, a2, a3] at this
   omega
  ·exact x
 ·obtain ⟨b1, b2, b3⟩ := qb1 (s := s) (i := 64) (t := i) (by omega)
  rcases Nat.lt_or_ge (lf s 64 i) r with x | x
  ·exact x
  ·have := qbn (s := s) x
   omega
theorem bool_of (p : Prop) : ∃ b : Bool, b = true ↔ p := by
 by_cases h : p
 ·exact ⟨true, ⟨fun _ => h, fun _ => rfl⟩⟩
 ·exact ⟨false, ⟨(fun x => by cases x), fun x => absurd x h⟩⟩
theorem hang_out (w : World) (r c n k s : Nat) (a : Option Addr) (R : Rt r c n) (hs : s < 18446744073709551616) (h : ¬ s < 2 ^ r) :
  Calls Tryz.prog 105 #[mv r c a n k, .int .u64 (s : Int)] w fun e w' => e = .returned (.bool false) ∧ Below w.heap.size w w' := by
 obtain ⟨wb, HW⟩ : ∃ wb, Hid (w.alloc (.cells #[.int .i64 (r : Int), .int .i64 (c : Int), .slice a n k] 68) = wb) := ⟨_, rfl⟩
 have HB0 : Hid (Below w.heap.size w wb) := by rw [← HW.out]; exact qa1 _ _
 have HV : Hid (Vq wb w.heap.size 68 #[.int .i64 (r : Int), .int .i64 (c : Int), .slice a n k]) := by rw [← HW.out]; exact Vq.new w _ _
 obtain ⟨h1, h2, h3⟩ := qjl R.r64 hs h
 obtain ⟨m, HM⟩ : ∃ m, Hid (cn s 64 = m) := ⟨_, rfl⟩
 obtain ⟨L, HL⟩ : ∃ L : Nat → Nat, Hid (lf s 64 = L) := ⟨_, rfl⟩
 have hm64 : m ≤ 64 := by rw [← HM.out]; exact qb7 64 s
 have HLi : Hid (∀ w, Calls Tryz.prog 97 #[.int .u64 (s : Int)] w fun e w' => ∃ v, e = .returned v ∧ Jo w' w.heap.size 3 .i64 v m L ∧ Below w.heap.size w w') := fun w => by rw [← HM.out, ← HL.out]; exact qec s w hs
 obtain ⟨t, HT⟩ : ∃ t, Hid (cn s r = t) := ⟨_, rfl⟩
 rw [HM.out, HT.out] at h1
 rw [HL.out, HT.out] at h2 h3
 have HPk : Hid (∀ (w : World) (b : Option Addr) (d : Nat), Jl w b .i64 m (fun i => (L i : Int)) → Calls Tryz.prog 111 #[mv r c a n k, .slice b m d] w fun e w' => e = .returned (.tuple #[mv 0 0 none 0 0, .int .i64 2]) ∧ Below w.heap.size w w') := fun w b d hj => qiz w r c n k m d t a b (fun i => (L i : Int)) R (by omega) hj h1 (fun i hi => by have := h3 i hi; omega) (by omega)
 clear R h h1 h2 h3 HM HL HT
 go_enter Tryz.func105, Tryz.ntmps105
 go_wp2_with (first
  | (go_at_call 97; rw [HW.out]; refine (HLi.out _).mono ?_; rintro e w1 ⟨v, rfl, ho1, hb1⟩; obtain ⟨sl, d, rfl, hnil⟩ := ho1.form; have HJ1 : Hid (Jl w1 sl .i64 m (fun i => (L i : Int))) := ho1.jl; have HB1 : Hid (Below w.heap.size w w1) := qa2 HB0.out hb1; have v0 := (HV.out.later hb1).cell 0 _ rfl; have v1 := (HV.out.later hb1).cell 1 _ rfl; have v2 := (HV.out.later hb1).cell 2 _ rfl; clear ho1 hb1 hnil)
  | (go_at_call 111; refine (HPk.out _ _ _ HJ1.out).mono ?_; rintro e w2 ⟨rfl, hb2⟩; have HB2 : Hid (Below w.heap.size w w2) := qa2 HB1.out hb2; clear hb2))
 go_ret
 exact ⟨rfl, qa2 HB2.out (qa1 _ _)⟩
theorem hang_yes (w : World) (r c n k s : Nat) (a : Option Addr) (F : Nat → Nat) (ha : Mt w a n k F) (R : Rt r c n) (hs : s < 18446744073709551616) (h : s < 2 ^ r) (b : Bool) (hb : b = true ↔ HangP F r c s) :
  Calls Tryz.prog 105 #[mv r c a n k, .int .u64 (s : Int)] w fun e w' => e = .returned (.bool b) ∧ Below w.heap.size w w' := by
 obtain ⟨wb, HW⟩ : ∃ wb, Hid (w.alloc (.cells #[.int .i64 (r : Int), .int .i64 (c : Int), .slice a n k] 68) = wb) := ⟨_, rfl⟩
 have HB0 : Hid (Below w.heap.size w wb) := by rw [← HW.out]; exact qa1 _ _
 have HV : Hid (Vq wb w.heap.size 68 #[.int .i64 (r : Int), .int .i64 (c : Int), .slice a n k]) := by rw [← HW.out]; exact Vq.new w _ _
 have HA : Hid (Mt w a n k F) := ha
 have hr64 := R.r64
 have hc64 := R.c64
 have hlh := qfi (s := s) (i := r) (64 - r) h
 rw [show r + (64 - r) = 64 by omega] at hlh
 obtain ⟨m, HM⟩ : ∃ m, Hid (cn s r = m) := ⟨_, rfl⟩
 obtain ⟨L, HL⟩ : ∃ L : Nat → Nat, Hid (lf s r = L) := ⟨_, rfl⟩
 have hm64 : m ≤ 64 := by rw [← HM.out]; exact Nat.le_trans (qb7 r s) hr64
 have HLi : Hid (∀ w, Calls Tryz.prog 97 #[.int .u64 (s : Int)] w fun e w' => ∃ v, e = .returned v ∧ Jo w' w.heap.size 3 .i64 v m L ∧ Below w.heap.size w w') := fun w => by
  have := qec s w hs
  rw [hlh.1, HM.out, show lf s 64 = L from funext fun t => by rw [hlh.2 t, HL.out]] at this
  exact this
 obtain ⟨N, HN⟩ : ∃ N, Hid (m * c = N) := ⟨_, rfl⟩
 have HRP : Hid (Rt m c N) := ⟨hm64, hc64, HN.out⟩
 have HPk : Hid (∀ (w : World) (b : Option Addr) (d : Nat), Mt w a n k F → Jl w b .i64 m (fun i => (L i : Int)) → Calls Tryz.prog 111 #[mv r c a n k, .slice b m d] w fun e w' => ∃ g, e = .returned (.tuple #[mv m c (some ⟨g, 0, none⟩) N N, .int .i64 0]) ∧ RowAt w' g 5 N (pkf F L c) ∧ w.heap.size ≤ g ∧ Below w.heap.size w w') := fun w b d h1 hj => qcv w r c n k m d N a b F L h1 R hj (fun i hi => by rw [← HL.out]; exact (qb1 (by rw [HM.out]; exact hi)).1) hm64 HN
 have HPl : Hid (∀ q, q < N → pkf F L c q < 256) := fun q hq => by
  rw [← HN.out] at hq
  exact pkf_lt ha.sl.1 R (fun i hi => by rw [← HL.out]; exact (qb1 (by rw [HM.out]; exact hi)).1) q hq
 obtain ⟨PF, HPF⟩ : ∃ PF : Nat → Nat, Hid (pkf F L c = PF) := ⟨_, rfl⟩
 rw [HPF.out] at HPk HPl
 obtain ⟨TF, HTF⟩ : ∃ TF : Nat → Nat, Hid (trf PF m c = TF) := ⟨_, rfl⟩
 have HTr : Hid (∀ (w : World) (g : Nat), RowAt w g 5 N PF → Calls Tryz.prog 135 #[mv m c (some ⟨g, 0, none⟩) N N] w fun e w' => ∃ g, e = .returned (.tuple #[mv c m (some ⟨g, 0, none⟩) N N, .int .i64 0]) ∧ RowAt w' g 5 N TF ∧ w.heap.size ≤ g ∧ Below w.heap.size w w') := fun w g h => by rw [← HTF.out]; exact qiy w m c N N _ PF (h.mt HPl.out) HRP.out
 have HTl : Hid (∀ q, q < N → TF q < 256) := by rw [← HTF.out]; exact trf_all HPl.out HRP.out
 have HHa : Hid (∀ (G H p : Nat → Nat) (kr top : Nat), Rdf (m2 G c m) c top p → SpEq (m2 G c m) c (m2 TF c m) c → (∀ i, i < top → p i < m) → kr = cnt (fre p top) m → (∀ u l, u < kr → l < m → H (u * m + l) = kv (m2 G c m) p top (nth (fre p top) m u) l) → (b = true ↔ ∀ t, t < m → ¬ ∀ u, u < kr → H (u * m + t) = 0)) := fun G H p kr top h1 h2 h3 h4 h5 => by
  rw [hb]
  rw [← HTF.out, ← HPF.out, ← HL.out, ← HM.out] at *
  exact hang_in ha.sl.1 R h h1 h2 h3 h4 h5
 clear ha R h hlh HM HL HPF HTF hb
 go_enter Tryz.func105, Tryz.ntmps105
 go_wp2_with (first
  | (go_at_call 97; rw [HW.out]; refine (HLi.out _).mono ?_; rintro e w1 ⟨v, rfl, ho1, hb1⟩; obtain ⟨sl, d, rfl, hnil⟩ := ho1.form; have HJ1 : Hid (Jl w1 sl .i64 m (fun i => (L i : Int))) := ho1.jl; have HB1 : Hid (Below w.heap.size w w1) := qa2 HB0.out hb1; have v0 := (HV.out.later hb1).cell 0 _ rfl; have v1 := (HV.out.later hb1).cell 1 _ rfl; have v2 := (HV.out.later hb1).cell 2 _ rfl; clear ho1 hb1 hnil)
  | (go_at_call 111; refine (HPk.out _ _ _ (HA.out.later HB1.out) HJ1.out).mono ?_; rintro e w2 ⟨g2, rfl, hr2, hg2, hb2⟩; have HB2 : Hid (Below w.heap.size w (w2.alloc (.cells #[.int .i64 (m : Int), .int .i64 (c : Int), .slice (some ⟨g2, 0, none⟩) N N] 24))) := qa2 (qa2 HB1.out hb2) (qa1 _ _); have HR2 : Hid (RowAt (w2.alloc (.cells #[.int .i64 (m : Int), .int .i64 (c : Int), .slice (some ⟨g2, 0, none⟩) N N] 24)) g2 5 N PF) := hr2.later (qa1 _ _); have HV2 : Hid (Vq (w2.alloc (.cells #[.int .i64 (m : Int), .int .i64 (c : Int), .slice (some ⟨g2, 0, none⟩) N N] 24)) w2.heap.size 24 #[.int .i64 (m : Int), .int .i64 (c : Int), .slice (some ⟨g2, 0, none⟩) N N]) := Vq.new w2 _ _; have p0 := HV2.out.cell 0 _ rfl; have p1 := HV2.out.cell 1 _ rfl; have p2 := HV2.out.cell 2 _ rfl; clear hr2 hg2 hb2)
  | (go_at_call 135; refine (HTr.out _ _ HR2.out).mono ?_; rintro e w3 ⟨g3, rfl, hr3, hg3, hb3⟩; have HB3 : Hid (Below w.heap.size w (w3.alloc (.cells #[.int .i64 (c : Int), .int .i64 (m : Int), .slice (some ⟨g3, 0, none⟩) N N] 24))) := qa2 (qa2 HB2.out hb3) (qa1 _ _); have HM3 : Hid (Mt (w3.alloc (.cells #[.int .i64 (c : Int), .int .i64 (m : Int), .slice (some ⟨g3, 0, none⟩) N N] 24)) (some ⟨g3, 0, none⟩) N N TF) := (hr3.later (qa1 _ _)).mt HTl.out; have HV3 : Hid (Vq (w3.alloc (.cells #[.int .i64 (c : Int), .int .i64 (m : Int), .slice (some ⟨g3, 0, none⟩) N N] 24)) w3.heap.size 24 #[.int .i64 (c : Int), .int .i64 (m : Int), .slice (some ⟨g3, 0, none⟩) N N]) := Vq.new w3 _ _; have q0 := HV3.out.cell 0 _ rfl; have q1 := HV3.out.cell 1 _ rfl; have q2 := HV3.out.cell 2 _ rfl; clear hr3 hg3 hb3)
  | (go_at_call 136; refine (gker_ok _ c m N N _ TF HM3.out HRP.out.turn).mono ?_; rintro e w4 ⟨s4, d4, kr, top, p, G, H, rfl, hm4, hd4, hsp4, hp4, hk4, hH4, hb4⟩; obtain ⟨K4, HK4⟩ : ∃ K4, Hid (kr * m = K4) := ⟨_, rfl⟩; rw [HK4.out] at hm4 ⊢; have HB4 : Hid (Below w.heap.size w ((w4.alloc (.cells #[.int .i64 (kr : Int), .int .i64 (m : Int), .slice s4 K4 d4] 24)).alloc (.cells #[.int .i64 (kr : Int), .int .i64 (m : Int), .slice s4 K4 d4] 68))) := qa2 (qa2 (qa2 HB3.out hb4) (qa1 _ _)) (qa1 _ _); have HM4 : Hid (Mt ((w4.alloc (.cells #[.int .i64 (kr : Int), .int .i64 (m : Int), .slice s4 K4 d4] 24)).alloc (.cells #[.int .i64 (kr : Int), .int .i64 (m : Int), .slice s4 K4 d4] 68)) s4 K4 d4 H) := (hm4.later (qa1 _ _)).later (qa1 _ _); have HV4 : Hid (Vq (w4.alloc (.cells #[.int .i64 (kr : Int), .int .i64 (m : Int), .slice s4 K4 d4] 24)) w4.heap.size 24 #[.int .i64 (kr : Int), .int .i64 (m : Int), .slice s4 K4 d4]) := Vq.new w4 _ _; have HV5 : Hid (Vq ((w4.alloc (.cells #[.int .i64 (kr : Int), .int .i64 (m : Int), .slice s4 K4 d4] 24)).alloc (.cells #[.int .i64 (kr : Int), .int .i64 (m : Int), .slice s4 K4 d4] 68)) (w4.heap.size + 1) 68 #[.int .i64 (kr : Int), .int .i64 (m : Int), .slice s4 K4 d4]) := Vq.new1 _ _ _ _; have HHb := jhidv (HHa.out G H p kr top hd4 hsp4 hp4 hk4 hH4); have hkm : kr ≤ m := (by rw [hk4]; have := qe4 (fre p top) m; omega); have r0 := HV4.out.cell 0 _ rfl; have r1 := HV4.out.cell 1 _ rfl; have r2 := HV4.out.cell 2 _ rfl; clear hm4 hd4 hsp4 hp4 hk4 hH4 hb4))
 have HRK : Hid (Rt kr m K4) := ⟨by omega, hm64, HK4.out⟩
 obtain ⟨wl, HWl⟩ : ∃ wl, Hid (((w4.alloc (.cells #[.int .i64 (kr : Int), .int .i64 (m : Int), .slice s4 K4 d4] 24)).alloc (.cells #[.int .i64 (kr : Int), .int .i64 (m : Int), .slice s4 K4 d4] 68)) = wl) := ⟨_, rfl⟩
 rw [HWl.out] at HB4 HM4 HV5
 rw [HWl.out]
 go_loopw [13, 39] (fun _ vi wr => ∃ j : Nat, j ≤ m ∧ vi = .int .i64 (j : Int) ∧ (∀ t, t < j → ¬ ∀ u, u < kr → H (u * m + t) = 0) ∧ Below wl.heap.size wl wr) (fun _ vi _ => m - (intOf vi).toNat)
 case atStart => exact ⟨0, by omega, rfl, fun t ht => by omega, Below.refl _ _⟩
 case round =>
  obtain ⟨j, hj, rfl, h0, hbr⟩ := hrel
  have H0 : Hid (∀ t, t < j → ¬ ∀ u, u < kr → H (u * m + t) = 0) := h0
  have HB : Hid (Below wl.heap.size wl wr) := hbr
  have z0 := (HV5.out.later hbr).cell 0 _ rfl
  have z1 := (HV5.out.later hbr).cell 1 _ rfl
  have z2 := (HV5.out.later hbr).cell 2 _ rfl
  have HMr : Hid (Mt wr s4 K4 d4 H) := HM4.out.later hbr
  clear h0 hbr
  by_cases hlt : j < m
  ·obtain ⟨bj, hbj⟩ := bool_of (∀ u, u < kr → H (u * m + j) = 0)
   have HBj : Hid (bj = true ↔ ∀ u, u < kr → H (u * m + j) = 0) := hbj
   have HC : Hid (Calls Tryz.prog 137 #[mv kr m s4 K4 d4, .int .i64 (j : Int)] wr fun e w' => e = .returned (.bool bj) ∧ Below wr.heap.size wr w') := qhe wr kr m K4 d4 j s4 H HMr.out HRK.out hlt bj hbj
   clear hbj
   cases bj with
   | true =>
    obtain rfl : b = false := by
     cases b with
     | false => rfl
     | true => exact absurd (HBj.out.1 rfl) (HHb.out.1 rfl j hlt)
    clear HBj HHb HHa
    go_wp2_with (go_at_call 137; refine HC.out.mono ?_; rintro e w6 ⟨rfl, hb6⟩; have HB6 : Hid (Below wl.heap.size wl w6) := qa2 HB.out hb6; clear hb6)
    go_ret
    exact ⟨rfl, qa2 HB4.out HB6.out⟩
   | false =>
    have HN2 : Hid (∀ t, t < j + 1 → ¬ ∀ u, u < kr → H (u * m + t) = 0) := fun t ht hz => by
     by_cases e : t = j
     ·subst e; have := HBj.out.2 hz; cases this
     ·exact H0.out t (by omega) hz
    clear HBj
    go_wp2_with (go_at_call 137; refine HC.out.mono ?_; rintro e w6 ⟨rfl, hb6⟩; have HB6 : Hid (Below wl.heap.size wl w6) := qa2 HB.out hb6; clear hb6)
    exact ⟨⟨j + 1, by omega, by go_num, HN2.out, HB6.out⟩, by simp [intOf]; omega⟩
  ·obtain rfl : j = m := by omega
   obtain rfl : b = true := HHb.out.2 H0.out
   clear HHb HHa
   go_wp2
   go_ret
   exact ⟨rfl, qa2 HB4.out HB.out⟩
theorem hang16 (w : World) (r c n k s : Nat) (a : Option Addr) (F : Nat → Nat) (ha : Mt w a n k F) (R : Rt r c n) (hs : s < 18446744073709551616) (b : Bool) (hb : b = true ↔ HangP F r c s) :
  Calls Tryz.prog 105 #[mv r c a n k, .int .u64 (s : Int)] w fun e w' => e = .returned (.bool b) ∧ Below w.heap.size w w' := by
 by_cases h : s < 2 ^ r
 ·exact hang_yes w r c n k s a F ha R hs h b hb
 ·obtain rfl : b = false := by
   cases b with
   | false => rfl
   | true => exact absurd (hb.1 rfl).1 h
  exact hang_out w r c n k s a R hs h
open Go.RowKit
theorem allhang1 (w : World) (r c n k d q : Nat) (a b : Option Addr) (F : Nat → Nat) (ha : Mt w a n k F) (hb : Jl w b .u64 1 (fun _ => (q : Int))) (R : Rt r c n) (hq : q < 18446744073709551616) (h : HangP F r c q) :
  Calls Tryz.prog 64 #[mv r c a n k, .slice b 1 d] w fun e w' => e = .returned (.bool true) ∧ Below w.heap.size w w' := by
 obtain ⟨wb, HW⟩ : ∃ wb, Hid (w.alloc (.cells #[.int .i64 (r : Int), .int .i64 (c : Int), .slice a n k] 68) = wb) := ⟨_, rfl⟩
 have HB0 : Hid (Below w.heap.size w wb) := by rw [← HW.out]; exact qa1 _ _
 have HV : Hid (Vq wb w.heap.size 68 #[.int .i64 (r : Int), .int .i64 (c : Int), .slice a n k]) := by rw [← HW.out]; exact Vq.new w _ _
 have HA : Hid (Mt w a n k F) := ha
 have HJ : Hid (Jl wb b .u64 1 (fun _ => (q : Int))) := hb.later HB0.out
 have HHg : Hid (∀ w, Mt w a n k F → Calls Tryz.prog 105 #[mv r c a n k, .int .u64 (q : Int)] w fun e w' => e = .returned (.bool true) ∧ Below w.heap.size w w') := fun w hw => hang16 w r c n k q a F hw R hq true ⟨fun _ => h, fun _ => rfl⟩
 clear ha hb R h
 go_enter Tryz.func64, Tryz.ntmps64
 go_wp2_with (first
  | (go_at_call 104; rw [HW.out]; refine (values16 _ _ _ _).mono ?_; rintro e w1 ⟨rfl, hw1⟩; have HB1 : Hid (Below wb.heap.size wb w1) := (by rw [← hw1]; exact qa1 _ _); have hcv : w1.cell? ⟨wb.heap.size, 0, none⟩ = some (.slice b 1 d) := (by rw [← hw1]; exact (Vq.new wb _ _).cell 0 _ rfl); clear hw1)
  | (go_at_call 103; refine (sorted1 _ b d wb.heap.size q hcv (HJ.out.later HB1.out)).mono ?_; rintro e w2 ⟨s2, d2, rfl, ho2, hb2⟩; have HO2 : Hid (Jo w2 w1.heap.size 54 .u64 (.slice s2 1 d2) 1 (fun _ => q)) := ho2; have HB2 : Hid (Below wb.heap.size wb w2) := qa2 HB1.out hb2; clear ho2 hb2 hcv)
  | (go_at_call 102; refine (compact1 _ _ _).mono ?_; rintro e w' ⟨rfl, rfl⟩))
 obtain ⟨g, rfl, hgB, hgw⟩ := HO2.out.addr (by omega)
 have hc0 : w2.cell? ⟨g, 0, none⟩ = some (.int .u64 (q : Int)) := HO2.out.cell 0 (by omega)
 go_loopw [7, 14] (fun _ vi wr => ∃ i : Nat, i ≤ 1 ∧ vi = .int .i64 (i : Int) ∧ Below w2.heap.size w2 wr) (fun _ vi _ => 1 - (intOf vi).toNat)
 case atStart => exact ⟨0, by omega, rfl, Below.refl _ _⟩
 case round =>
  obtain ⟨i, hi, rfl, hbr⟩ := hrel
  have HB : Hid (Below w2.heap.size w2 wr) := hbr
  have v0 := ((HV.out.later HB2.out).later hbr).cell 0 _ rfl
  have v1 := ((HV.out.later HB2.out).later hbr).cell 1 _ rfl
  have v2 := ((HV.out.later HB2.out).later hbr).cell 2 _ rfl
  have hcr := keepc hbr hc0
  have HMr : Hid (Mt wr a n k F) := HA.out.later (qa2 (qa2 HB0.out HB2.out) hbr)
  clear hbr
  rcases (by omega : i = 0 ∨ i = 1) with rfl | rfl
  ·go_wp2_with (go_at_call 105; refine (HHg.out _ HMr.out).mono ?_; rintro e w3 ⟨rfl, hb3⟩; have HB3 : Hid (Below w2.heap.size w2 w3) := qa2 HB.out hb3; clear hb3)
   exact ⟨⟨1, by omega, by go_num, HB3.out⟩, by simp [intOf]⟩
  ·go_wp2
   go_ret
   exact ⟨rfl, qa2 (qa2 HB0.out HB2.out) HB.out⟩
theorem gen_yes (w : World) (r c n k : Nat) (a : Option Addr) (R : Rt r c n) (hc : 1 ≤ c) (hr : c ≤ r) :
  Calls Tryz.prog 60 #[mv r c a n k] w fun e w' => e = .returned (.bool true) ∧ Below w.heap.size w w' := by
 have HP : Hid (RightP r c n) := R.p
 obtain ⟨wb, HW⟩ : ∃ wb, Hid (w.alloc (.cells #[.int .i64 (r : Int), .int .i64 (c : Int), .slice a n k] 24) = wb) := ⟨_, rfl⟩
 have HB0 : Hid (Below w.heap.size w wb) := by rw [← HW.out]; exact qa1 _ _
 have HV : Hid (Vq wb w.heap.size 24 #[.int .i64 (r : Int), .int .i64 (c : Int), .slice a n k]) := by rw [← HW.out]; exact Vq.new w _ _
 have g1 : decide ((1 : Int) ≤ (c : Int)) = true := by simp; omega
 have g2 : decide ((c : Int) ≤ (r : Int)) = true := by simp; omega
 have g3 : decide (c ≤ r) = true := by simpa using hr
 clear R
 go_enter Tryz.func60, Tryz.ntmps60
 go_wp2_with (go_at_call 90; rw [HW.out]; refine (qah _ _ _ _ _ _ HP.out).mono ?_; rintro e w1 ⟨rfl, hb1⟩; have HB1 : Hid (Below wb.heap.size wb w1) := hb1; have v0 := (HV.out.later hb1).cell 0 _ rfl; have v1 := (HV.out.later hb1).cell 1 _ rfl; clear hb1)
 go_ret
 exact ⟨rfl, qa2 HB0.out HB1.out⟩
theorem may1 (w : World) (r c n k d q : Nat) (a b : Option Addr) (F : Nat → Nat) (ha : Mt w a n k F) (hb : Jl w b .u64 1 (fun _ => (q : Int))) (R : Rt r c n) (hc : 1 ≤ c) (hr : c ≤ r) (hq : q < 18446744073709551616) (h : HangP F r c q) :
  Calls Tryz.prog 24 #[cv r c a n k b 1 d] w fun e w' => e = .returned (.bool true) ∧ Below w.heap.size w w' := by
 obtain ⟨wb, HW⟩ : ∃ wb, Hid (w.alloc (.cells #[.int .i64 (r : Int), .int .i64 (c : Int), .slice a n k, .slice b 1 d] 27) = wb) := ⟨_, rfl⟩
 have HB0 : Hid (Below w.heap.size w wb) := by rw [← HW.out]; exact qa1 _ _
 have HV : Hid (Vq wb w.heap.size 27 #[.int .i64 (r : Int), .int .i64 (c : Int), .slice a n k, .slice b 1 d]) := by rw [← HW.out]; exact Vq.new w _ _
 have HG : Hid (∀ w, Calls Tryz.prog 60 #[mv r c a n k] w fun e w' => e = .returned (.bool true) ∧ Below w.heap.size w w') := fun w => gen_yes w r c n k a R hc hr
 have HH : Hid (∀ w', Below w.heap.size w w' → Calls Tryz.prog 64 #[mv r c a n k, .slice b 1 d] w' fun e w'' => e = .returned (.bool true) ∧ Below w'.heap.size w' w'') := fun w' hw => allhang1 w' r c n k d q a b F (ha.later hw) (hb.later hw) R hq h
 clear ha hb R h
 go_enter Tryz.func24, Tryz.ntmps24
 go_wp2_with (first
  | (go_at_call 60; rw [HW.out]; refine (HG.out _).mono ?_; rintro e w1 ⟨rfl, hb1⟩; have HB1 : Hid (Below w.heap.size w w1) := qa2 HB0.out hb1; have v0 := (HV.out.later hb1).cell 0 _ rfl; have v1 := (HV.out.later hb1).cell 1 _ rfl; have v2 := (HV.out.later hb1).cell 2 _ rfl; have v3 := (HV.out.later hb1).cell 3 _ rfl; clear hb1)
  | (go_at_call 64; refine (HH.out _ HB1.out).mono ?_; rintro e w2 ⟨rfl, hb2⟩; have HB2 : Hid (Below w.heap.size w w2) := qa2 HB1.out hb2; clear hb2))
 go_ret
 exact ⟨rfl, HB2.out⟩
end Go.Proofs.YtnfbbddoaeofgaaGreat
