/-
  Contracts of the program's matrices: Of.
-/
import Derived.Test.YtaoehildaenbnaaMj
namespace Go.Proofs.Ytaoehildaenbnaa
open Go.RowKit
set_option maxRecDepth 20000 in
set_option maxHeartbeats 1000000 in
theorem mof_zero (w : World) (d : Nat) (b : Option Addr) (G : Nat → Nat) :
    Calls Try.prog 16 #[.slice b 0 d] w fun e w' => ∃ g, e = .returned (.tuple #[mv 0 0 (some ⟨g, 0, none⟩) 0 0, .int .i64 0]) ∧ RowAt w' g 5 0 G ∧ w.heap.size ≤ g ∧ Below w.heap.size w w' := by
  have HVw : Hid (Vr (w.alloc (.cells #[.int .i64 0, .int .i64 0, .slice none 0 0] 24)) w.heap.size (.int .i64 0) (.int .i64 0) (.slice none 0 0)) := Vr.new w _ _ _
  go_enter Try.func16, Try.ntmps16
  go_wp2_with (first
    | (go_at_call 38; refine (nought_any _ 0 0 0 (by omega) (by omega) rfl).mono ?_; rintro e w3 ⟨gd, rfl, hr3, hg3, hb3⟩; have HR3 : Hid (RowAt w3 gd 5 0 (fun _ => 0)) := hr3; have HB3 : Hid (Below w.heap.size w w3) := two_below (alloc_low _ _) hb3; have HV3 : Hid (Vr w3 w.heap.size (.int .i64 0) (.int .i64 0) (.slice none 0 0)) := HVw.out.later hb3; have hg4 : w.heap.size + 1 ≤ gd := by { have := hg3; simpa using this }; clear hr3 hb3 hg3)
    | (refine wpList_store_var rfl _ _ rfl w.heap.size _ _ _ (.int .i64 0) (.int .i64 0) (.slice (some ⟨gd, 0, none⟩) 0 0) rfl rfl HV3.out rfl rfl rfl ?_; intro w8 HV8 HG8))
  have d0 := HV8.out.c0
  have d1 := HV8.out.c1
  have d2 := HV8.out.c2
  refine bodyPost_ret (v := .tuple #[mv 0 0 (some ⟨gd, 0, none⟩) 0 0, .int .i64 0]) (by simp [results, Try.results16, go_sem, d0, d1, d2, mv]) rfl ?_
  exact ⟨gd, rfl, (HR3.out.kept HG8.out (by omega)).congr (fun p hp => by omega), by omega, below_row HB3.out HG8.out (Nat.le_refl _)⟩
set_option maxRecDepth 20000 in
set_option maxHeartbeats 4000000 in
theorem mof_pos (w : World) (m c d N : Nat) (b : Option Addr) (A : Nat → Option Addr) (L C : Nat → Nat) (f : Nat → Nat → Nat) (hb : Rl w b m A L C f) (hL : ∀ i, i < m → L i = c) (hm : m ≤ 64) (hc : c ≤ 64) (h0 : 0 < m) (HN : Hid (m * c = N)) :
    Calls Try.prog 16 #[.slice b m d] w fun e w' => ∃ g, e = .returned (.tuple #[mv m c (some ⟨g, 0, none⟩) N N, .int .i64 0]) ∧ RowAt w' g 5 N (off f c) ∧ w.heap.size ≤ g ∧ Below w.heap.size w w' := by
  have g0 : ((m : Int) == 0) = false := by simp; omega
  obtain ⟨x, o, eb, hc0⟩ := hb.at' 0 (by omega)
  rw [hL 0 h0] at hc0
  obtain ⟨sz, HSz⟩ : ∃ s, Hid (A 0 = s) := ⟨_, rfl⟩
  obtain ⟨cz, HCz⟩ : ∃ s, Hid (C 0 = s) := ⟨_, rfl⟩
  rw [HSz.out, HCz.out, Nat.add_zero] at hc0
  obtain ⟨wb, HW⟩ : ∃ wb, Hid (wb = w.alloc (.cells #[.int .i64 0, .int .i64 0, .slice none 0 0] 24)) := ⟨_, rfl⟩
  have HVb : Hid (Vr wb w.heap.size (.int .i64 0) (.int .i64 0) (.slice none 0 0)) := by rw [HW.out]; exact Vr.new w _ _ _
  have HBb : Hid (Below w.heap.size w wb) := by rw [HW.out]; exact alloc_low _ _
  have hcb := keepc HBb.out hc0
  rw [HW.out] at hcb
  have h0m : (0 : Int) < (m : Int) := by omega
  have HRl : Hid (Rl w b m A L C f) := hb
  have HL : Hid (∀ i, i < m → L i = c) := hL
  clear hb hL hc0
  subst eb
  go_enter Try.func16, Try.ntmps16
  go_wp2
  go_loopw [6, 17] (fun _ j wr => ∃ t' : Nat, t' ≤ m ∧ j = .int .i64 (t' : Int) ∧ wb = wr) (fun _ j _ => m - (intOf j).toNat)
  case atStart => exact ⟨0, by omega, rfl, HW.out⟩
  case round =>
    obtain ⟨i, hi, rfl, rfl⟩ := hrel
    by_cases hlt : i < m
    · obtain ⟨x', o', eb, hci⟩ := HRl.out.at' i (by omega)
      cases eb
      have hcw := keepc HBb.out hci
      rw [HL.out i (by omega)] at hcw
      have i1 : (i : Int) < (m : Int) := by omega
      clear hci
      go_wp2
      exact ⟨⟨i + 1, by omega, by go_num, trivial⟩, by simp [intOf]; omega⟩
    · obtain rfl : m = i := by omega
      go_wp2_with (first
        | (go_at_call 37; refine (side_yes _ _ ⟨by omega, by omega⟩).mono ?_; rintro e w' ⟨rfl, rfl⟩)
        | (go_at_call 41; refine (ofrows_any _ m c d N _ A L C f (HRl.out.later HBb.out) HL.out hm hc HN).mono ?_; rintro e w3 ⟨gd, rfl, hr3, hg3, hb3⟩; have HR3 : Hid (RowAt w3 gd 5 N (off f c)) := hr3; have HB3 : Hid (Below w.heap.size w w3) := two_below HBb.out hb3; have HV3 : Hid (Vr w3 w.heap.size (.int .i64 0) (.int .i64 0) (.slice none 0 0)) := HVb.out.later hb3; have lv := HVb.out.lt; have hg4 : w.heap.size + 1 ≤ gd := (by omega); clear hr3 hb3 hg3)
        | (refine wpList_store_var rfl _ _ rfl w.heap.size _ _ _ (.int .i64 (m : Int)) (.int .i64 (c : Int)) (.slice (some ⟨gd, 0, none⟩) N N) rfl rfl HV3.out rfl rfl rfl ?_; intro w8 HV8 HG8))
      have d0 := HV8.out.c0
      have d1 := HV8.out.c1
      have d2 := HV8.out.c2
      refine bodyPost_ret (v := .tuple #[mv m c (some ⟨gd, 0, none⟩) N N, .int .i64 0]) (by simp [results, Try.results16, go_sem, d0, d1, d2, mv]) rfl ?_
      exact ⟨gd, rfl, HR3.out.kept HG8.out (by omega), by omega, below_row HB3.out HG8.out (Nat.le_refl _)⟩
set_option maxRecDepth 20000 in
set_option maxHeartbeats 4000000 in
theorem mof_limit (w : World) (m c d : Nat) (b : Option Addr) (A : Nat → Option Addr) (L C : Nat → Nat) (f : Nat → Nat → Nat) (hb : Rl w b m A L C f) (hL : ∀ i, i < m → L i = c) (hm : m ≤ 140737488351232) (hc : c ≤ 140737488351232) (h0 : 0 < m) (h8 : 64 < m ∨ 64 < c) :
    Calls Try.prog 16 #[.slice b m d] w fun e w' => e = .returned (.tuple #[mv 0 0 none 0 0, .int .i64 4]) ∧ Below w.heap.size w w' := by
  have g0 : ((m : Int) == 0) = false := by simp; omega
  obtain ⟨x, o, eb, hc0⟩ := hb.at' 0 (by omega)
  rw [hL 0 h0] at hc0
  obtain ⟨sz, HSz⟩ : ∃ s, Hid (A 0 = s) := ⟨_, rfl⟩
  obtain ⟨cz, HCz⟩ : ∃ s, Hid (C 0 = s) := ⟨_, rfl⟩
  rw [HSz.out, HCz.out, Nat.add_zero] at hc0
  obtain ⟨wb, HW⟩ : ∃ wb, Hid (wb = w.alloc (.cells #[.int .i64 0, .int .i64 0, .slice none 0 0] 24)) := ⟨_, rfl⟩
  have HVb : Hid (Vr wb w.heap.size (.int .i64 0) (.int .i64 0) (.slice none 0 0)) := by rw [HW.out]; exact Vr.new w _ _ _
  have HBb : Hid (Below w.heap.size w wb) := by rw [HW.out]; exact alloc_low _ _
  have hcb := keepc HBb.out hc0
  rw [HW.out] at hcb
  have h0m : (0 : Int) < (m : Int) := by omega
  have HRl : Hid (Rl w b m A L C f) := hb
  have HL : Hid (∀ i, i < m → L i = c) := hL
  clear hb hL hc0
  subst eb
  go_enter Try.func16, Try.ntmps16
  go_wp2
  go_loopw [6, 17] (fun _ j wr => ∃ t' : Nat, t' ≤ m ∧ j = .int .i64 (t' : Int) ∧ wb = wr) (fun _ j _ => m - (intOf j).toNat)
  case atStart => exact ⟨0, by omega, rfl, HW.out⟩
  case round =>
    obtain ⟨i, hi, rfl, rfl⟩ := hrel
    by_cases hlt : i < m
    · obtain ⟨x', o', eb, hci⟩ := HRl.out.at' i (by omega)
      cases eb
      have hcw := keepc HBb.out hci
      rw [HL.out i (by omega)] at hcw
      have i1 : (i : Int) < (m : Int) := by omega
      clear hci
      go_wp2
      exact ⟨⟨i + 1, by omega, by go_num, trivial⟩, by simp [intOf]; omega⟩
    · obtain rfl : m = i := by omega
      have HV2 : Hid (Vr wb w.heap.size (.int .i64 0) (.int .i64 0) (.slice none 0 0)) := HVb.out
      have HBw : Hid (Below w.heap.size w wb) := HBb.out
      by_cases h9 : 64 < m
      · go_wp2_with (first
          | (go_at_call 37; refine (side_no _ _ (by omega)).mono ?_; rintro e w' ⟨rfl, rfl⟩)
          | (refine wpList_store_var rfl _ _ rfl w.heap.size _ _ _ (.int .i64 0) (.int .i64 0) (.slice none 0 0) rfl rfl HV2.out rfl rfl rfl ?_; intro w8 HV8 HG8))
        have d0 := HV8.out.c0
        have d1 := HV8.out.c1
        have d2 := HV8.out.c2
        refine bodyPost_ret (v := .tuple #[mv 0 0 none 0 0, .int .i64 4]) (by simp [results, Try.results16, go_sem, d0, d1, d2, mv]) rfl ?_
        exact ⟨rfl, below_row HBw.out HG8.out (Nat.le_refl _)⟩
      · go_wp2_with (first
          | (go_at_call 37; refine (side_yes _ _ ⟨by omega, by omega⟩).mono ?_; rintro e w' ⟨rfl, rfl⟩)
          | (go_at_call 37; refine (side_no _ _ (by omega)).mono ?_; rintro e w' ⟨rfl, rfl⟩)
          | (refine wpList_store_var rfl _ _ rfl w.heap.size _ _ _ (.int .i64 0) (.int .i64 0) (.slice none 0 0) rfl rfl HV2.out rfl rfl rfl ?_; intro w8 HV8 HG8))
        have d0 := HV8.out.c0
        have d1 := HV8.out.c1
        have d2 := HV8.out.c2
        refine bodyPost_ret (v := .tuple #[mv 0 0 none 0 0, .int .i64 4]) (by simp [results, Try.results16, go_sem, d0, d1, d2, mv]) rfl ?_
        exact ⟨rfl, below_row HBw.out HG8.out (Nat.le_refl _)⟩
set_option maxRecDepth 20000 in
set_option maxHeartbeats 4000000 in
theorem mof_shape (w : World) (m d t : Nat) (b : Option Addr) (A : Nat → Option Addr) (L C : Nat → Nat) (f : Nat → Nat → Nat) (hb : Rl w b m A L C f) (hm : m ≤ 140737488351232) (_ : ∀ i, i < m → L i ≤ 140737488351232) (ht : t < m) (hin : ∀ i, i < t → L i = L 0) (hbad : L t ≠ L 0) :
    Calls Try.prog 16 #[.slice b m d] w fun e w' => e = .returned (.tuple #[mv 0 0 none 0 0, .int .i64 3]) ∧ Below w.heap.size w w' := by
  have h0 : 0 < m := by omega
  obtain ⟨c, HC⟩ : ∃ c, Hid (L 0 = c) := ⟨_, rfl⟩
  have g0 : ((m : Int) == 0) = false := by simp; omega
  obtain ⟨x, o, eb, hc0⟩ := hb.at' 0 (by omega)
  rw [HC.out] at hc0
  obtain ⟨sz, HSz⟩ : ∃ s, Hid (A 0 = s) := ⟨_, rfl⟩
  obtain ⟨cz, HCz⟩ : ∃ s, Hid (C 0 = s) := ⟨_, rfl⟩
  rw [HSz.out, HCz.out, Nat.add_zero] at hc0
  obtain ⟨wb, HW⟩ : ∃ wb, Hid (wb = w.alloc (.cells #[.int .i64 0, .int .i64 0, .slice none 0 0] 24)) := ⟨_, rfl⟩
  have HVb : Hid (Vr wb w.heap.size (.int .i64 0) (.int .i64 0) (.slice none 0 0)) := by rw [HW.out]; exact Vr.new w _ _ _
  have HBb : Hid (Below w.heap.size w wb) := by rw [HW.out]; exact alloc_low _ _
  have hcb := keepc HBb.out hc0
  rw [HW.out] at hcb
  have h0m : (0 : Int) < (m : Int) := by omega
  have HRl : Hid (Rl w b m A L C f) := hb
  have HL : Hid (∀ i, i < t → L i = c) := fun i hi => by rw [hin i hi]; exact HC.out
  obtain ⟨c2, HC2⟩ : ∃ c, Hid (L t = c) := ⟨_, rfl⟩
  have g2 : ((c2 : Int) == (c : Int)) = false := by
    rw [← HC.out, ← HC2.out]
    simp
    omega
  clear hb hc0 hin hbad
  subst eb
  go_enter Try.func16, Try.ntmps16
  go_wp2
  go_loopw [6, 17] (fun _ j wr => ∃ t' : Nat, t' ≤ t ∧ j = .int .i64 (t' : Int) ∧ wb = wr) (fun _ j _ => m - (intOf j).toNat)
  case atStart => exact ⟨0, by omega, rfl, HW.out⟩
  case round =>
    obtain ⟨i, hi, rfl, rfl⟩ := hrel
    by_cases hlt : i < t
    · obtain ⟨x', o', eb, hci⟩ := HRl.out.at' i (by omega)
      cases eb
      have hcw := keepc HBb.out hci
      rw [HL.out i (by omega)] at hcw
      have i1 : (i : Int) < (m : Int) := by omega
      clear hci
      go_wp2
      exact ⟨⟨i + 1, by omega, by go_num, trivial⟩, by simp [intOf]; omega⟩
    · obtain rfl : t = i := by omega
      obtain ⟨x', o', eb, hci⟩ := HRl.out.at' t ht
      cases eb
      have hcw := keepc HBb.out hci
      rw [HC2.out] at hcw
      have i1 : (t : Int) < (m : Int) := by omega
      have HV2 : Hid (Vr wb w.heap.size (.int .i64 0) (.int .i64 0) (.slice none 0 0)) := HVb.out
      have HBw : Hid (Below w.heap.size w wb) := HBb.out
      clear hci
      go_wp2_with (refine wpList_store_var rfl _ _ rfl w.heap.size _ _ _ (.int .i64 0) (.int .i64 0) (.slice none 0 0) rfl rfl HV2.out rfl rfl rfl ?_; intro w8 HV8 HG8)
      have d0 := HV8.out.c0
      have d1 := HV8.out.c1
      have d2 := HV8.out.c2
      refine bodyPost_ret (v := .tuple #[mv 0 0 none 0 0, .int .i64 3]) (by simp [results, Try.results16, go_sem, d0, d1, d2, mv]) rfl ?_
      exact ⟨rfl, below_row HBw.out HG8.out (Nat.le_refl _)⟩
end Go.Proofs.Ytaoehildaenbnaa
