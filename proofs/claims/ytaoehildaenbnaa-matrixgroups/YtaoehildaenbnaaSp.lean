/-
  Contracts of the matrices' reference: Of without rows; what fails in Of.
-/
import Derived.Test.YtaoehildaenbnaaSo
namespace Go.Proofs.Ytaoehildaenbnaa
open Go.RowKit
set_option maxRecDepth 20000 in
set_option maxHeartbeats 2000000 in
theorem rof_zero (w : World) (d : Nat) (b : Option Addr) (G : Nat → Nat) :
    Calls Try.prog 17 #[.slice b 0 d] w fun e w' => ∃ s d, e = .returned (.tuple #[mv 0 0 s 0 d, .int .i64 0]) ∧ w'.ownsRow w.heap.size 5 1 (.slice s 0 d) 0 (row 0 G).toList ∧ Below w.heap.size w w' := by
  obtain ⟨wb, HW⟩ : ∃ wb, Hid (wb = (w.alloc (.cells #[.int .i64 0, .int .i64 0, .slice none 0 0] 24)).alloc (.cells #[.int .i64 0, .int .i64 0, .slice none 0 0] 24)) := ⟨_, rfl⟩
  have HVr : Hid (Vr wb w.heap.size (.int .i64 0) (.int .i64 0) (.slice none 0 0)) := by rw [HW.out]; exact (Vr.new w _ _ _).later (alloc_low _ _)
  have HVt : Hid (Vr wb (w.heap.size + 1) (.int .i64 0) (.int .i64 0) (.slice none 0 0)) := by show Vr _ _ _ _ _; rw [HW.out]; have := Vr.new (w.alloc (.cells #[.int .i64 0, .int .i64 0, .slice none 0 0] 24)) (.int .i64 0) (.int .i64 0) (.slice none 0 0); simpa using this
  have HB0 : Hid (Below w.heap.size w wb) := by rw [HW.out]; exact two_below (alloc_low _ _) (alloc_low _ _)
  go_enter Try.func17, Try.ntmps17
  go_wp2
  rw [← HW.out]
  clear HW
  have v0 := HVt.out.c0
  have v1 := HVt.out.c1
  have v2 := HVt.out.c2
  go_loopw [5] (fun j wr => j = .int .i64 0 ∧ wr = wb) (fun _ _ => 0)
  case atStart => exact ⟨rfl, rfl⟩
  case round =>
    obtain ⟨rfl, rfl⟩ := hrel
    go_wp2
    go_loopw [6] (fun j w2 => j = .int .i64 0 ∧ w2 = wr) (fun _ _ => 0)
    case atStart => exact ⟨rfl, rfl⟩
    case round =>
      obtain ⟨rfl, rfl⟩ := hrel
      go_wp2_with (refine wpList_store_var rfl _ _ rfl w.heap.size _ _ _ (.int .i64 0) (.int .i64 0) (.slice none 0 0) rfl rfl HVr.out rfl rfl rfl ?_; intro w4 HV4 HG4)
      have d0 := HV4.out.c0
      have d1 := HV4.out.c1
      have d2 := HV4.out.c2
      refine bodyPost_ret (v := .tuple #[mv 0 0 none 0 0, .int .i64 0]) (by simp [results, Try.results17, go_sem, d0, d1, d2, mv]) rfl ?_
      exact ⟨none, 0, rfl, by rw [row_empty]; exact World.ownsRow_nil _ _ _ _, below_row HB0.out HG4.out (by omega)⟩
set_option maxRecDepth 20000 in
set_option maxHeartbeats 2000000 in
theorem rof_shape (w : World) (m d t : Nat) (b : Option Addr) (A : Nat → Option Addr) (L C : Nat → Nat) (f : Nat → Nat → Nat) (hb : Rl w b m A L C f) (hm : m ≤ 140737488351232) (hL8 : ∀ i, i < m → L i ≤ 140737488351232) (ht : t < m) (hin : ∀ i, i < t → L i = L 0) (hbad : L t ≠ L 0) :
    Calls Try.prog 17 #[.slice b m d] w fun e w' => e = .returned (.tuple #[mv 0 0 none 0 0, .int .i64 3]) ∧ Below w.heap.size w w' := by
  have HSb : Hid (Rl w b m A L C f) := hb
  have HL : Hid (∀ i, i < t → L i = L 0) := hin
  have HY : Hid (L t ≠ L 0) := hbad
  have H8 : Hid (∀ i, i < m → L i ≤ 140737488351232) := hL8
  obtain ⟨wb, HW⟩ : ∃ wb, Hid (wb = (w.alloc (.cells #[.int .i64 0, .int .i64 0, .slice none 0 0] 24)).alloc (.cells #[.int .i64 (m : Int), .int .i64 0, .slice none 0 0] 24)) := ⟨_, rfl⟩
  have HVr : Hid (Vr wb w.heap.size (.int .i64 0) (.int .i64 0) (.slice none 0 0)) := by rw [HW.out]; exact (Vr.new w _ _ _).later (alloc_low _ _)
  have HVt : Hid (Vr wb (w.heap.size + 1) (.int .i64 (m : Int)) (.int .i64 0) (.slice none 0 0)) := by show Vr _ _ _ _ _; rw [HW.out]; have := Vr.new (w.alloc (.cells #[.int .i64 0, .int .i64 0, .slice none 0 0] 24)) (.int .i64 (m : Int)) (.int .i64 0) (.slice none 0 0); simpa using this
  have HB0 : Hid (Below w.heap.size w wb) := by rw [HW.out]; exact two_below (alloc_low _ _) (alloc_low _ _)
  clear hb hin hbad hL8
  go_enter Try.func17, Try.ntmps17
  go_wp2
  rw [← HW.out]
  clear HW
  go_loopw [5] (fun j wr => ∃ q : Nat, q ≤ t ∧ j = .int .i64 (q : Int) ∧ Below wb.heap.size wb wr) (fun j _ => t - (intOf j).toNat)
  case atStart => exact ⟨0, by omega, rfl, Below.refl _ _⟩
  case round =>
    obtain ⟨q, hq, rfl, hbr⟩ := hrel
    have HB : Hid (Below wb.heap.size wb wr) := hbr
    clear hbr
    have hm0 : 0 < m := by omega
    have hqm : q < m := by omega
    have HS := HSb.out.later (two_below HB0.out HB.out)
    obtain ⟨x, o, eb, hcell⟩ := HS.at' q hqm
    obtain ⟨x', o', eb', hcell'⟩ := HS.at' 0 hm0
    rw [eb] at eb'
    simp only [Option.some.injEq, Addr.mk.injEq, and_true] at eb'
    obtain ⟨rfl, rfl⟩ := eb'
    rw [Nat.add_zero] at hcell'
    obtain ⟨c, HC⟩ : ∃ c, Hid (L 0 = c) := ⟨_, rfl⟩
    rw [HC.out] at hcell'
    have hc8 := H8.out 0 hm0
    rw [HC.out] at hc8
    subst eb
    clear HS
    by_cases hlt : q < t
    · rw [HL.out q hlt, HC.out] at hcell
      go_wp2
      go_region
      go_wp2
      exact ⟨⟨q + 1, by omega, by go_num, by first | exact HB.out | exact HB.out.drew⟩, by simp [intOf]; omega⟩
    · obtain rfl : q = t := by omega
      obtain ⟨e, HE⟩ : ∃ e, Hid (L q = e) := ⟨_, rfl⟩
      rw [HE.out] at hcell
      have he8 := H8.out q hqm
      rw [HE.out] at he8
      have g1 : ((e : Int) != (c : Int)) = true := by have := HY.out; rw [HE.out, HC.out] at this; simp; omega
      have HVq : Hid (Vr wr w.heap.size (.int .i64 0) (.int .i64 0) (.slice none 0 0)) := HVr.out.later HB.out
      have HVd : Hid (Vr wr.drew w.heap.size (.int .i64 0) (.int .i64 0) (.slice none 0 0)) := HVq.out
      have HBw : Hid (Below w.heap.size w wr) := two_below HB0.out HB.out
      have HBd : Hid (Below w.heap.size w wr.drew) := HBw.out.drew
      go_wp2
      go_region
      go_wp2_with (refine wpList_store_var rfl _ _ rfl w.heap.size _ _ _ (.int .i64 0) (.int .i64 0) (.slice none 0 0) rfl rfl (by first | exact HVq.out | exact HVd.out) rfl rfl rfl ?_; intro w4 HV4 HG4)
      have c0 := HV4.out.c0
      have c1 := HV4.out.c1
      have c2 := HV4.out.c2
      refine bodyPost_ret (v := .tuple #[mv 0 0 none 0 0, .int .i64 3]) (by simp [results, Try.results17, go_sem, c0, c1, c2, mv]) rfl ?_
      exact ⟨rfl, below_row (by first | exact HBw.out | exact HBd.out) HG4.out (by omega)⟩
set_option maxRecDepth 20000 in
set_option maxHeartbeats 2000000 in
theorem rof_limit (w : World) (m c d : Nat) (b : Option Addr) (A : Nat → Option Addr) (L C : Nat → Nat) (f : Nat → Nat → Nat) (hb : Rl w b m A L C f) (hL : ∀ i, i < m → L i = c) (hm : m ≤ 140737488351232) (hc : c ≤ 140737488351232) (h0 : 0 < m) (h8 : 64 < m ∨ 64 < c) :
    Calls Try.prog 17 #[.slice b m d] w fun e w' => e = .returned (.tuple #[mv 0 0 none 0 0, .int .i64 4]) ∧ Below w.heap.size w w' := by
  have HSb : Hid (Rl w b m A L C f) := hb
  have HL : Hid (∀ i, i < m → L i = c) := hL
  have H8 : Hid (64 < m ∨ 64 < c) := h8
  obtain ⟨wb, HW⟩ : ∃ wb, Hid (wb = (w.alloc (.cells #[.int .i64 0, .int .i64 0, .slice none 0 0] 24)).alloc (.cells #[.int .i64 (m : Int), .int .i64 0, .slice none 0 0] 24)) := ⟨_, rfl⟩
  have HVr : Hid (Vr wb w.heap.size (.int .i64 0) (.int .i64 0) (.slice none 0 0)) := by rw [HW.out]; exact (Vr.new w _ _ _).later (alloc_low _ _)
  have HVt : Hid (Vr wb (w.heap.size + 1) (.int .i64 (m : Int)) (.int .i64 0) (.slice none 0 0)) := by show Vr _ _ _ _ _; rw [HW.out]; have := Vr.new (w.alloc (.cells #[.int .i64 0, .int .i64 0, .slice none 0 0] 24)) (.int .i64 (m : Int)) (.int .i64 0) (.slice none 0 0); simpa using this
  have HB0 : Hid (Below w.heap.size w wb) := by rw [HW.out]; exact two_below (alloc_low _ _) (alloc_low _ _)
  clear hb hL h8
  go_enter Try.func17, Try.ntmps17
  go_wp2
  rw [← HW.out]
  clear HW
  go_loopw [5] (fun j wr => ∃ q : Nat, q ≤ m ∧ j = .int .i64 (q : Int) ∧ Below wb.heap.size wb wr) (fun j _ => m - (intOf j).toNat)
  case atStart => exact ⟨0, by omega, rfl, Below.refl _ _⟩
  case round =>
    obtain ⟨q, hq, rfl, hbr⟩ := hrel
    have HB : Hid (Below wb.heap.size wb wr) := hbr
    clear hbr
    by_cases hlt : q < m
    · have hm0 := h0
      have HS := HSb.out.later (two_below HB0.out HB.out)
      obtain ⟨x, o, eb, hcell⟩ := HS.at' q hlt
      obtain ⟨x', o', eb', hcell'⟩ := HS.at' 0 hm0
      rw [HL.out q hlt] at hcell
      rw [HL.out 0 hm0] at hcell'
      rw [eb] at eb'
      simp only [Option.some.injEq, Addr.mk.injEq, and_true] at eb'
      obtain ⟨rfl, rfl⟩ := eb'
      rw [Nat.add_zero] at hcell'
      subst eb
      clear HS
      go_wp2
      go_region
      go_wp2
      exact ⟨⟨q + 1, by omega, by go_num, by first | exact HB.out | exact HB.out.drew⟩, by simp [intOf]; omega⟩
    · obtain rfl : q = m := by omega
      have HS := HSb.out.later (two_below HB0.out HB.out)
      obtain ⟨x, o, eb, hcell⟩ := HS.at' 0 h0
      rw [HL.out 0 h0, Nat.add_zero] at hcell
      have g1 : decide (0 < q) = true := by simpa using h0
      have v0 := (HVt.out.later HB.out).c0
      have v1 := (HVt.out.later HB.out).c1
      have vf1 := (HVt.out.later HB.out).free 1
      subst eb
      clear HS
      have HVq : Hid (Vr (wr.setCell ⟨w.heap.size + 1, 1, none⟩ (.int .i64 (c : Int))) w.heap.size (.int .i64 0) (.int .i64 0) (.slice none 0 0)) := (HVr.out.later HB.out).kept (grown_setCell _ _ _ _) (by omega)
      have HBw : Hid (Below w.heap.size w (wr.setCell ⟨w.heap.size + 1, 1, none⟩ (.int .i64 (c : Int)))) := (two_below HB0.out HB.out).setCell (show w.heap.size ≤ w.heap.size + 1 by omega) _
      by_cases h1 : 64 < q
      · have g2 : decide ((64 : Int) < (q : Int)) = true := by simp; omega
        clear h1
        go_wp2_with (refine wpList_store_var rfl _ _ rfl w.heap.size _ _ _ (.int .i64 0) (.int .i64 0) (.slice none 0 0) rfl rfl HVq.out rfl rfl rfl ?_; intro w4 HV4 HG4)
        have c0 := HV4.out.c0
        have c1 := HV4.out.c1
        have c2 := HV4.out.c2
        refine bodyPost_ret (v := .tuple #[mv 0 0 none 0 0, .int .i64 4]) (by simp [results, Try.results17, go_sem, c0, c1, c2, mv]) rfl ?_
        exact ⟨rfl, below_row HBw.out HG4.out (by omega)⟩
      · have h2 : 64 < c := by have := H8.out; omega
        have g2 : decide ((64 : Int) < (q : Int)) = false := by simp; omega
        have g3 : decide ((64 : Int) < (c : Int)) = true := by simp; omega
        clear h1 h2
        go_wp2_with (refine wpList_store_var rfl _ _ rfl w.heap.size _ _ _ (.int .i64 0) (.int .i64 0) (.slice none 0 0) rfl rfl HVq.out rfl rfl rfl ?_; intro w4 HV4 HG4)
        have c0 := HV4.out.c0
        have c1 := HV4.out.c1
        have c2 := HV4.out.c2
        refine bodyPost_ret (v := .tuple #[mv 0 0 none 0 0, .int .i64 4]) (by simp [results, Try.results17, go_sem, c0, c1, c2, mv]) rfl ?_
        exact ⟨rfl, below_row HBw.out HG4.out (by omega)⟩
end Go.Proofs.Ytaoehildaenbnaa
