/-
  Contracts of the program's matrices: ofRows, Of.
-/
import Derived.Test.YtaoehildaenbnabMi
namespace Go.Proofs.Ytaoehildaenbnab
open Go.RowKit
/-- What the loop of a matrix of rows keeps. -/
structure OfI (w wr : World) (gd g6 m c N : Nat) (fn : Nat → Nat) : Prop where
  vr : Vr wr w.heap.size (.int .i64 0) (.int .i64 0) (.slice none 0 0)
  vm : Vr wr g6 (.int .i64 (m : Int)) (.int .i64 (c : Int)) (.slice (some ⟨gd, 0, none⟩) N N)
  data : RowAt wr gd 5 N fn
  below : Below w.heap.size w wr
  d6 : gd ≠ g6
  dlow : w.heap.size < gd
theorem OfI.congr {w wr : World} {gd g6 m c N : Nat} {fn fn' : Nat → Nat} (I : OfI w wr gd g6 m c N fn) (e : ∀ p, p < N → fn p = fn' p) : OfI w wr gd g6 m c N fn' := ⟨I.vr, I.vm, I.data.congr e, I.below, I.d6, I.dlow⟩
theorem OfI.later {w wr w' : World} {gd g6 m c N : Nat} {fn : Nat → Nat} (I : OfI w wr gd g6 m c N fn) (hb : Below wr.heap.size wr w') : OfI w w' gd g6 m c N fn := ⟨I.vr.later hb, I.vm.later hb, I.data.later hb, two_below I.below hb, I.d6, I.dlow⟩
theorem OfI.copy {w wr w' : World} {gd g6 m c N : Nat} {fn fn' : Nat → Nat} (I : OfI w wr gd g6 m c N fn) (hr : RowAt w' gd 5 N fn') (hg : wr.grownBy w' (some gd)) : OfI w w' gd g6 m c N fn' :=
  have d := I.dlow
  ⟨I.vr.kept hg (by omega), I.vm.kept hg (Ne.symm I.d6), hr, below_row I.below hg (by omega), I.d6, I.dlow⟩
theorem OfI.drew {w wr : World} {gd g6 m c N : Nat} {fn : Nat → Nat} (I : OfI w wr gd g6 m c N fn) : OfI w wr.drew gd g6 m c N fn := I.later (Below.refl _ _).drew
set_option maxRecDepth 20000 in
set_option maxHeartbeats 4000000 in
theorem ofrows_any (w : World) (m c d N : Nat) (b : Option Addr) (A : Nat → Option Addr) (L C : Nat → Nat) (f : Nat → Nat → Nat) (hb : Rl w b m A L C f) (hL : ∀ i, i < m → L i = c) (hm : m ≤ 64) (hc : c ≤ 64) (HN : Hid (m * c = N)) :
    Calls Try.prog 31 #[.int .i64 (c : Int), .slice b m d] w fun e w' => ∃ g, e = .returned (mv m c (some ⟨g, 0, none⟩) N N) ∧ RowAt w' g 5 N (off f c) ∧ w.heap.size ≤ g ∧ Below w.heap.size w w' := by
  have HRu : Hid (Rt m c N) := ⟨hm, hc, HN.out⟩
  have hN := HRu.out.le
  have HRl : Hid (Rl w b m A L C f) := hb
  have HL : Hid (∀ i, i < m → L i = c) := hL
  obtain ⟨fn, HFn⟩ : ∃ fn : Nat → Nat, Hid (off f c = fn) := ⟨_, rfl⟩
  rw [HFn.out]
  have HVw : Hid (Vr (w.alloc (.cells #[.int .i64 0, .int .i64 0, .slice none 0 0] 24)) w.heap.size (.int .i64 0) (.int .i64 0) (.slice none 0 0)) := Vr.new w _ _ _
  clear hb hL
  go_enter Try.func31, Try.ntmps31
  go_wp2_with (first
    | (go_at_call 23; refine (nought_any _ m c N hm hc HN).mono ?_; rintro e w3 ⟨gd, rfl, hr3, hg3, hb3⟩; have HR3 : Hid (RowAt w3 gd 5 N (fun _ => 0)) := hr3; have HB3 : Hid (Below w.heap.size w w3) := two_below (alloc_low _ _) hb3; have HV3 : Hid (Vr w3 w.heap.size (.int .i64 0) (.int .i64 0) (.slice none 0 0)) := HVw.out.later hb3; have hg4 : w.heap.size + 1 ≤ gd := by { have := hg3; simpa using this }; have m0' := (Vr.new w3 (.int .i64 (m : Int)) (.int .i64 (c : Int)) (.slice (some ⟨gd, 0, none⟩) N N)).c0; clear hr3 hb3 hg3))
  have HI0 : Hid (OfI w (w3.alloc (.cells #[.int .i64 (m : Int), .int .i64 (c : Int), .slice (some ⟨gd, 0, none⟩) N N] 24)) gd w3.heap.size m c N (fun _ => 0)) := by
    have l3 := HR3.out.lt
    exact ⟨HV3.out.later (alloc_low _ _), Vr.new w3 _ _ _, HR3.out.later (alloc_low _ _), two_below HB3.out (alloc_low _ _), by omega, by omega⟩
  clear HVw HR3 HB3 HV3 m0'
  go_loopw [6, 13] (fun _ j wr => ∃ i : Nat, i ≤ m ∧ j = .int .i64 (i : Int) ∧ OfI w wr gd w3.heap.size m c N (upf fn (i * c))) (fun _ j _ => m - (intOf j).toNat)
  case atStart => exact ⟨0, by omega, rfl, HI0.out.congr (fun p _ => by rw [Nat.zero_mul, upf_zero])⟩
  case round =>
    clear HI0
    obtain ⟨i, hi, rfl, I⟩ := hrel
    have HI : Hid (OfI w wr gd w3.heap.size m c N (upf fn (i * c))) := I
    clear I
    by_cases hlt : i < m
    · obtain ⟨x, o, eb, hci⟩ := HRl.out.at' i hlt
      have hsl := HRl.out.sl i hlt
      rw [HL.out i hlt] at hci hsl
      obtain ⟨sa, HSa⟩ : ∃ s, Hid (A i = s) := ⟨_, rfl⟩
      obtain ⟨ca, HCa⟩ : ∃ s, Hid (C i = s) := ⟨_, rfl⟩
      obtain ⟨hh, HHh⟩ : ∃ s, Hid (f i = s) := ⟨_, rfl⟩
      rw [HSa.out, HCa.out] at hci
      rw [HSa.out, HHh.out] at hsl
      have HSl : Hid (Sl w sa c hh) := hsl
      obtain ⟨p, HP⟩ : ∃ p, Hid (i * c = p) := ⟨_, rfl⟩
      obtain ⟨sp, HSp⟩ : ∃ s, Hid (pc (some ⟨gd, 0, none⟩) p c = s) := ⟨_, rfl⟩
      rw [HP.out] at HI
      have HFi : Hid (p + c ≤ N) := by have := HRu.out.fit hlt; rw [HP.out] at this; exact this
      have HNext : Hid (∀ q, cpf (upf fn p) hh p c q = upf fn ((i + 1) * c) q) := fun q => by
        rw [cpf_next fn _ p c (fun j hj => by rw [← HFn.out, ← HP.out, off_at f c i j hj, HHh.out]) q, ← HP.out, Nat.add_mul, Nat.one_mul]
      have HD : Hid (wr.drew.cell? ⟨w3.heap.size, 0, none⟩ = some (.int .i64 (m : Int)) ∧ wr.drew.cell? ⟨w3.heap.size, 1, none⟩ = some (.int .i64 (c : Int)) ∧ wr.drew.cell? ⟨w3.heap.size, 2, none⟩ = some (.slice (some ⟨gd, 0, none⟩) N N) ∧ wr.drew.cell? ⟨x, o + i, none⟩ = some (.slice sa c ca)) := ⟨HI.out.drew.vm.c0, HI.out.drew.vm.c1, HI.out.drew.vm.c2, keepc HI.out.drew.below hci⟩
      have i0 : (0 : Int) ≤ (i : Int) := Int.natCast_nonneg _
      have i1 : (i : Int) < (m : Int) := by omega
      clear hsl
      subst eb
      go_wp2
      go_region_held3 (fun w' => w'.cell? ⟨w3.heap.size, 0, none⟩ = some (.int .i64 (m : Int)) ∧ w'.cell? ⟨w3.heap.size, 1, none⟩ = some (.int .i64 (c : Int)) ∧ w'.cell? ⟨w3.heap.size, 2, none⟩ = some (.slice (some ⟨gd, 0, none⟩) N N) ∧ w'.cell? ⟨x, o + i, none⟩ = some (.slice sa c ca))
        (first
          | exact HK4.out
          | exact HK1.out
          | exact HD.out)
        (first
          | (go_at_call 24; refine (rowof_any _ _ c N N i p (some ⟨gd, 0, none⟩) sp (fun e => by cases e) (Nat.le_refl _) HFi.out hN (by omega) HP HSp).mono ?_; rintro e w4 ⟨rfl, hb4⟩; have HI4 : Hid (OfI w w4 gd w3.heap.size m c N (upf fn p)) := (HI.out.drew).later hb4; have HK1 : Hid (w4.cell? ⟨w3.heap.size, 0, none⟩ = some (.int .i64 (m : Int)) ∧ w4.cell? ⟨w3.heap.size, 1, none⟩ = some (.int .i64 (c : Int)) ∧ w4.cell? ⟨w3.heap.size, 2, none⟩ = some (.slice (some ⟨gd, 0, none⟩) N N) ∧ w4.cell? ⟨x, o + i, none⟩ = some (.slice sa c ca)) := ⟨HI4.out.vm.c0, HI4.out.vm.c1, HI4.out.vm.c2, keepc HI4.out.below hci⟩; clear hb4)
          | (refine step_copy_in rfl _ _ rfl gd p N c c ca sp sa (upf fn p) hh rfl rfl HI4.out.data (fun h => by rw [← HSp.out]; exact pc_row gd p c h) (HSl.out.later HI4.out.below) HFi.out ?_; intro w7 HR7 HG7; have HI7 : Hid (OfI w w7 gd w3.heap.size m c N (upf fn ((i + 1) * c))) := (HI4.out.copy HR7.out HG7.out).congr (fun q _ => HNext.out q); have HK4 : Hid (w7.cell? ⟨w3.heap.size, 0, none⟩ = some (.int .i64 (m : Int)) ∧ w7.cell? ⟨w3.heap.size, 1, none⟩ = some (.int .i64 (c : Int)) ∧ w7.cell? ⟨w3.heap.size, 2, none⟩ = some (.slice (some ⟨gd, 0, none⟩) N N) ∧ w7.cell? ⟨x, o + i, none⟩ = some (.slice sa c ca)) := ⟨HI7.out.vm.c0, HI7.out.vm.c1, HI7.out.vm.c2, keepc HI7.out.below hci⟩; clear HR7 HG7))
      go_wp2
      exact ⟨⟨i + 1, by omega, by go_num, HI7.out⟩, by simp [intOf]; omega⟩
    · obtain rfl : i = m := by omega
      have HR : Hid (RowAt wr gd 5 N (upf fn (i * c))) := HI.out.data
      have c0 := HI.out.vm.c0
      have c1 := HI.out.vm.c1
      have c2 := HI.out.vm.c2
      have hlow := HI.out.dlow
      go_wp2_with (refine wpList_store_var rfl _ _ rfl w.heap.size _ _ _ (.int .i64 (i : Int)) (.int .i64 (c : Int)) (.slice (some ⟨gd, 0, none⟩) N N) rfl rfl HI.out.vr rfl rfl rfl ?_; intro w8 HV8 HG8)
      have d0 := HV8.out.c0
      have d1 := HV8.out.c1
      have d2 := HV8.out.c2
      refine bodyPost_ret (v := mv i c (some ⟨gd, 0, none⟩) N N) (by simp [results, Try.results31, go_sem, d0, d1, d2, mv]) rfl ?_
      exact ⟨gd, rfl, (HR.out.kept HG8.out (by omega)).congr (upf_all fn (by rw [HRu.out.len]; exact Nat.le_refl _)), by omega, below_row HI.out.below HG8.out (Nat.le_refl _)⟩
end Go.Proofs.Ytaoehildaenbnab
