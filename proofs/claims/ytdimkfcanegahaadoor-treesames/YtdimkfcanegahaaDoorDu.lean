/-
  Contracts of the program's tree: lists that are the same, part by part.
-/
import Derived.Test.YtdimkfcanegahaaDoorDo
namespace Go.Proofs.YtdimkfcanegahaaDoor
open Go.RowKit
def alB (B : Nat → Bool) : Nat → Bool
  | 0 => true
  | n + 1 => alB B n && B n
theorem alB_stop {B : Nat → Bool} {n i : Nat} (h : alB B (i + 1) = false) (hi : i < n) : alB B n = false := by
  obtain ⟨j, rfl⟩ : ∃ j, n = i + 1 + j := ⟨n - (i + 1), by omega⟩
  clear hi
  induction j with
  | zero => exact h
  | succ j ih => show (alB B (i + 1 + j) && _) = false; rw [ih]; rfl
theorem alB_iff {B : Nat → Bool} : ∀ {n : Nat}, alB B n = true ↔ ∀ i, i < n → B i = true := by
  intro n
  induction n with
  | zero => exact ⟨fun _ i hi => absurd hi (Nat.not_lt_zero i), fun _ => rfl⟩
  | succ n ih =>
    show (alB B n && B n) = true ↔ _
    rw [Bool.and_eq_true, ih]
    refine ⟨fun h i hi => ?_, fun h => ⟨fun i hi => h i (by omega), h n (by omega)⟩⟩
    by_cases e : i = n
    · rw [e]; exact h.2
    · exact h.1 i (by omega)
set_option maxRecDepth 20000 in
set_option maxHeartbeats 8000000 in
theorem teq_x (w : World) (a a' : Option Addr) (n n' c c' : Nat) (C1 C2 : Nat → List Value) (B : Nat → Bool) (hn : n ≤ 140737488351232) (hn' : n' ≤ 140737488351232)
    (h1 : ∀ i, i < n → ∃ b o, a = some ⟨b, o, none⟩ ∧ (C1 i).length = 6 ∧ (C1 i).toArray.all (·.oneCell') = true ∧ ∀ w', Below w.heap.size w w' → w'.rangeAt b (o + i * 6) (C1 i))
    (h2 : ∀ i, i < n' → ∃ b o, a' = some ⟨b, o, none⟩ ∧ (C2 i).length = 6 ∧ (C2 i).toArray.all (·.oneCell') = true ∧ ∀ w', Below w.heap.size w w' → w'.rangeAt b (o + i * 6) (C2 i))
    (hC : ∀ i, i < n → i < n' → ∀ w', Below w.heap.size w w' → Calls Tryd.prog 73 #[.agg (C1 i).toArray, .agg (C2 i).toArray] w' fun e w'' => e = .returned (.bool (B i)) ∧ Below w'.heap.size w' w'') :
    Calls Tryd.prog 96 #[.slice a n c, .slice a' n' c', .func (.func 73) #[] #[]] w fun e w' => e = .returned (.bool (decide (n = n') && alB B n)) ∧ Below w.heap.size w w' := by
  have H1 := jhid9 h1
  have H2 := jhid9 h2
  have HC := jhid9 hC
  clear h1 h2 hC
  by_cases hne : n = n'
  · subst hne
    have HD : Hid ((decide (n = n) && alB B n) = alB B n) := by show _ = _; simp
    rw [HD.out]
    clear HD
    go_enter Tryd.func96, Tryd.ntmps96
    go_wp2
    go_loopw [17] (fun vi wr => ∃ i : Nat, i ≤ n ∧ vi = .int .i64 (i : Int) ∧ Hid (alB B i = true) ∧ Below w.heap.size w wr) (fun vi _ => n - (intOf vi).toNat)
    case atStart => exact ⟨0, by omega, rfl, rfl, Below.refl _ _⟩
    case round =>
      obtain ⟨i, hi, rfl, HA, hb⟩ := hrel
      have HB := jhid9 hb
      by_cases hlt : i < n
      · have p0 : (0 : Int) ≤ (i : Int) := by omega
        have p1 : (i : Int) < (n : Int) := by omega
        obtain ⟨b1, q1, rfl, l1, o1, r1⟩ := H1.out i hlt
        obtain ⟨b2, q2, rfl, l2, o2, r2⟩ := H2.out i hlt
        have HR1 := jhid9 (r1 _ hb)
        have HR2 := jhid9 r2
        have HCi := jhid9 (HC.out i hlt hlt)
        have HAs : Hid (alB B (i + 1) = B i) := by show (alB B i && B i) = B i; rw [HA.out, Bool.true_and]
        have HAf : Hid (alB B (i + 1) = false → alB B n = false) := fun h => alB_stop h hlt
        generalize C1 i = X1 at *
        generalize C2 i = X2 at *
        generalize B i = bi at *
        have z1 : X1.toArray.size = 6 := by rw [List.size_toArray]; exact l1
        have z2 : X2.toArray.size = 6 := by rw [List.size_toArray]; exact l2
        clear r1 r2 hb H1 H2 HC
        cases bi with
        | true =>
          have M1 : True := trivial
          have M2 : True := trivial
          have M3 : True := trivial
          have M4 : True := trivial
          have M5 : True := trivial
          have M6 : True := trivial
          go_wp2_with (first
            | (clear M1; refine wpList_load_mid rfl 28 _ rfl b1 _ rfl X1 _ HR1.out Tryd.underlying28 rfl (by rw [l1]; exact sizeX) ?_)
            | (clear M2; refine wpList_store_vn rfl 28 _ _ rfl wr.heap.size _ X1.toArray rfl rfl (Vn.new wr _ _) (by rw [z1]; exact sizeX) (by rw [z1]; rfl) o1 ?_; intro w1 HV1 hg1; have hb1 : Below wr.heap.size wr w1 := (jlow _ _).trans (jbelow hg1.out (jlow _ _).size (fun g e => by cases e; exact Nat.le_refl _)); have HB1 := jhid9 (jtwo HB.out hb1); have HR2b := jhid9 (HR2.out _ HB1.out); clear hg1 hb1)
            | (clear M3; refine wpList_load_mid rfl 28 _ rfl b2 _ rfl X2 _ HR2b.out Tryd.underlying28 rfl (by rw [l2]; exact sizeX) ?_)
            | (clear M4; refine wpList_store_vn rfl 28 _ _ rfl w1.heap.size _ X2.toArray rfl rfl (Vn.new w1 _ _) (by rw [z2]; exact sizeX) (by rw [z2]; rfl) o2 ?_; intro w2 HV2 hg2; have hb2 : Below w1.heap.size w1 w2 := (jlow _ _).trans (jbelow hg2.out (jlow _ _).size (fun g e => by cases e; exact Nat.le_refl _)); have HB2 := jhid9 (jtwo HB1.out hb2); have HV1b := jhid9 (HV1.out.later hb2); clear hg2 hb2)
            | (clear M5; refine wpList_load_rowg (by rfl) 28 _ rfl wr.heap.size rfl 28 X1.toArray (0, 0) _ HV1b.out Tryd.underlying28 rfl (by rw [z1]; exact sizeX) ?_)
            | (clear M6; refine wpList_load_rowg (by rfl) 28 _ rfl w1.heap.size rfl 28 X2.toArray (0, 0) _ HV2.out Tryd.underlying28 rfl (by rw [z2]; exact sizeX) ?_)
            | (go_at_call 73; refine (HCi.out _ HB2.out).mono ?_; rintro e w3 ⟨rfl, hb3⟩; have HB3 := jhid9 (jtwo HB2.out hb3); clear hb3))
          exact ⟨⟨i + 1, by omega, by go_num, HAs, HB3.out⟩, by simp [intOf]; omega⟩
        | false =>
          have HF : Hid (alB B n = false) := HAf.out HAs.out
          have M1 : True := trivial
          have M2 : True := trivial
          have M3 : True := trivial
          have M4 : True := trivial
          have M5 : True := trivial
          have M6 : True := trivial
          go_wp2_with (first
            | (clear M1; refine wpList_load_mid rfl 28 _ rfl b1 _ rfl X1 _ HR1.out Tryd.underlying28 rfl (by rw [l1]; exact sizeX) ?_)
            | (clear M2; refine wpList_store_vn rfl 28 _ _ rfl wr.heap.size _ X1.toArray rfl rfl (Vn.new wr _ _) (by rw [z1]; exact sizeX) (by rw [z1]; rfl) o1 ?_; intro w1 HV1 hg1; have hb1 : Below wr.heap.size wr w1 := (jlow _ _).trans (jbelow hg1.out (jlow _ _).size (fun g e => by cases e; exact Nat.le_refl _)); have HB1 := jhid9 (jtwo HB.out hb1); have HR2b := jhid9 (HR2.out _ HB1.out); clear hg1 hb1)
            | (clear M3; refine wpList_load_mid rfl 28 _ rfl b2 _ rfl X2 _ HR2b.out Tryd.underlying28 rfl (by rw [l2]; exact sizeX) ?_)
            | (clear M4; refine wpList_store_vn rfl 28 _ _ rfl w1.heap.size _ X2.toArray rfl rfl (Vn.new w1 _ _) (by rw [z2]; exact sizeX) (by rw [z2]; rfl) o2 ?_; intro w2 HV2 hg2; have hb2 : Below w1.heap.size w1 w2 := (jlow _ _).trans (jbelow hg2.out (jlow _ _).size (fun g e => by cases e; exact Nat.le_refl _)); have HB2 := jhid9 (jtwo HB1.out hb2); have HV1b := jhid9 (HV1.out.later hb2); clear hg2 hb2)
            | (clear M5; refine wpList_load_rowg (by rfl) 28 _ rfl wr.heap.size rfl 28 X1.toArray (0, 0) _ HV1b.out Tryd.underlying28 rfl (by rw [z1]; exact sizeX) ?_)
            | (clear M6; refine wpList_load_rowg (by rfl) 28 _ rfl w1.heap.size rfl 28 X2.toArray (0, 0) _ HV2.out Tryd.underlying28 rfl (by rw [z2]; exact sizeX) ?_)
            | (go_at_call 73; refine (HCi.out _ HB2.out).mono ?_; rintro e w3 ⟨rfl, hb3⟩; have HB3 := jhid9 (jtwo HB2.out hb3); clear hb3))
          go_ret
          exact ⟨by rw [HF.out]; rfl, HB3.out⟩
      · obtain rfl : i = n := by omega
        clear hb
        go_wp2
        go_ret
        exact ⟨by rw [HA.out]; rfl, HB.out⟩
  · have HD : Hid ((decide (n = n') && alB B n) = false) := by show _ = _; rw [decide_eq_false hne]; rfl
    rw [HD.out]
    have q : ((n : Int) == (n' : Int)) = false := by simp; omega
    have q2 : ((n : Int) != (n' : Int)) = true := by simp; omega
    go_enter Tryd.func96, Tryd.ntmps96
    go_wp2
    go_ret
    exact ⟨rfl, Below.refl _ _⟩
set_option maxRecDepth 20000 in
set_option maxHeartbeats 8000000 in
theorem teq_s (w : World) (a a' : Option Addr) (n n' c c' : Nat) (C1 C2 : Nat → List Value) (B : Nat → Bool) (hn : n ≤ 140737488351232) (hn' : n' ≤ 140737488351232)
    (h1 : ∀ i, i < n → ∃ b o, a = some ⟨b, o, none⟩ ∧ (C1 i).length = 7 ∧ (C1 i).toArray.all (·.oneCell') = true ∧ ∀ w', Below w.heap.size w w' → w'.rangeAt b (o + i * 7) (C1 i))
    (h2 : ∀ i, i < n' → ∃ b o, a' = some ⟨b, o, none⟩ ∧ (C2 i).length = 7 ∧ (C2 i).toArray.all (·.oneCell') = true ∧ ∀ w', Below w.heap.size w w' → w'.rangeAt b (o + i * 7) (C2 i))
    (hC : ∀ i, i < n → i < n' → ∀ w', Below w.heap.size w w' → Calls Tryd.prog 74 #[.agg (C1 i).toArray, .agg (C2 i).toArray] w' fun e w'' => e = .returned (.bool (B i)) ∧ Below w'.heap.size w' w'') :
    Calls Tryd.prog 94 #[.slice a n c, .slice a' n' c', .func (.func 74) #[] #[]] w fun e w' => e = .returned (.bool (decide (n = n') && alB B n)) ∧ Below w.heap.size w w' := by
  have H1 := jhid9 h1
  have H2 := jhid9 h2
  have HC := jhid9 hC
  clear h1 h2 hC
  by_cases hne : n = n'
  · subst hne
    have HD : Hid ((decide (n = n) && alB B n) = alB B n) := by show _ = _; simp
    rw [HD.out]
    clear HD
    go_enter Tryd.func94, Tryd.ntmps94
    go_wp2
    go_loopw [17] (fun vi wr => ∃ i : Nat, i ≤ n ∧ vi = .int .i64 (i : Int) ∧ Hid (alB B i = true) ∧ Below w.heap.size w wr) (fun vi _ => n - (intOf vi).toNat)
    case atStart => exact ⟨0, by omega, rfl, rfl, Below.refl _ _⟩
    case round =>
      obtain ⟨i, hi, rfl, HA, hb⟩ := hrel
      have HB := jhid9 hb
      by_cases hlt : i < n
      · have p0 : (0 : Int) ≤ (i : Int) := by omega
        have p1 : (i : Int) < (n : Int) := by omega
        obtain ⟨b1, q1, rfl, l1, o1, r1⟩ := H1.out i hlt
        obtain ⟨b2, q2, rfl, l2, o2, r2⟩ := H2.out i hlt
        have HR1 := jhid9 (r1 _ hb)
        have HR2 := jhid9 r2
        have HCi := jhid9 (HC.out i hlt hlt)
        have HAs : Hid (alB B (i + 1) = B i) := by show (alB B i && B i) = B i; rw [HA.out, Bool.true_and]
        have HAf : Hid (alB B (i + 1) = false → alB B n = false) := fun h => alB_stop h hlt
        generalize C1 i = X1 at *
        generalize C2 i = X2 at *
        generalize B i = bi at *
        have z1 : X1.toArray.size = 7 := by rw [List.size_toArray]; exact l1
        have z2 : X2.toArray.size = 7 := by rw [List.size_toArray]; exact l2
        clear r1 r2 hb H1 H2 HC
        cases bi with
        | true =>
          have M1 : True := trivial
          have M2 : True := trivial
          have M3 : True := trivial
          have M4 : True := trivial
          have M5 : True := trivial
          have M6 : True := trivial
          go_wp2_with (first
            | (clear M1; refine wpList_load_mid rfl 33 _ rfl b1 _ rfl X1 _ HR1.out Tryd.underlying33 rfl (by rw [l1]; exact sizeS) ?_)
            | (clear M2; refine wpList_store_vn rfl 33 _ _ rfl wr.heap.size _ X1.toArray rfl rfl (Vn.new wr _ _) (by rw [z1]; exact sizeS) (by rw [z1]; rfl) o1 ?_; intro w1 HV1 hg1; have hb1 : Below wr.heap.size wr w1 := (jlow _ _).trans (jbelow hg1.out (jlow _ _).size (fun g e => by cases e; exact Nat.le_refl _)); have HB1 := jhid9 (jtwo HB.out hb1); have HR2b := jhid9 (HR2.out _ HB1.out); clear hg1 hb1)
            | (clear M3; refine wpList_load_mid rfl 33 _ rfl b2 _ rfl X2 _ HR2b.out Tryd.underlying33 rfl (by rw [l2]; exact sizeS) ?_)
            | (clear M4; refine wpList_store_vn rfl 33 _ _ rfl w1.heap.size _ X2.toArray rfl rfl (Vn.new w1 _ _) (by rw [z2]; exact sizeS) (by rw [z2]; rfl) o2 ?_; intro w2 HV2 hg2; have hb2 : Below w1.heap.size w1 w2 := (jlow _ _).trans (jbelow hg2.out (jlow _ _).size (fun g e => by cases e; exact Nat.le_refl _)); have HB2 := jhid9 (jtwo HB1.out hb2); have HV1b := jhid9 (HV1.out.later hb2); clear hg2 hb2)
            | (clear M5; refine wpList_load_rowg (by rfl) 33 _ rfl wr.heap.size rfl 33 X1.toArray (0, 0) _ HV1b.out Tryd.underlying33 rfl (by rw [z1]; exact sizeS) ?_)
            | (clear M6; refine wpList_load_rowg (by rfl) 33 _ rfl w1.heap.size rfl 33 X2.toArray (0, 0) _ HV2.out Tryd.underlying33 rfl (by rw [z2]; exact sizeS) ?_)
            | (go_at_call 74; refine (HCi.out _ HB2.out).mono ?_; rintro e w3 ⟨rfl, hb3⟩; have HB3 := jhid9 (jtwo HB2.out hb3); clear hb3))
          exact ⟨⟨i + 1, by omega, by go_num, HAs, HB3.out⟩, by simp [intOf]; omega⟩
        | false =>
          have HF : Hid (alB B n = false) := HAf.out HAs.out
          have M1 : True := trivial
          have M2 : True := trivial
          have M3 : True := trivial
          have M4 : True := trivial
          have M5 : True := trivial
          have M6 : True := trivial
          go_wp2_with (first
            | (clear M1; refine wpList_load_mid rfl 33 _ rfl b1 _ rfl X1 _ HR1.out Tryd.underlying33 rfl (by rw [l1]; exact sizeS) ?_)
            | (clear M2; refine wpList_store_vn rfl 33 _ _ rfl wr.heap.size _ X1.toArray rfl rfl (Vn.new wr _ _) (by rw [z1]; exact sizeS) (by rw [z1]; rfl) o1 ?_; intro w1 HV1 hg1; have hb1 : Below wr.heap.size wr w1 := (jlow _ _).trans (jbelow hg1.out (jlow _ _).size (fun g e => by cases e; exact Nat.le_refl _)); have HB1 := jhid9 (jtwo HB.out hb1); have HR2b := jhid9 (HR2.out _ HB1.out); clear hg1 hb1)
            | (clear M3; refine wpList_load_mid rfl 33 _ rfl b2 _ rfl X2 _ HR2b.out Tryd.underlying33 rfl (by rw [l2]; exact sizeS) ?_)
            | (clear M4; refine wpList_store_vn rfl 33 _ _ rfl w1.heap.size _ X2.toArray rfl rfl (Vn.new w1 _ _) (by rw [z2]; exact sizeS) (by rw [z2]; rfl) o2 ?_; intro w2 HV2 hg2; have hb2 : Below w1.heap.size w1 w2 := (jlow _ _).trans (jbelow hg2.out (jlow _ _).size (fun g e => by cases e; exact Nat.le_refl _)); have HB2 := jhid9 (jtwo HB1.out hb2); have HV1b := jhid9 (HV1.out.later hb2); clear hg2 hb2)
            | (clear M5; refine wpList_load_rowg (by rfl) 33 _ rfl wr.heap.size rfl 33 X1.toArray (0, 0) _ HV1b.out Tryd.underlying33 rfl (by rw [z1]; exact sizeS) ?_)
            | (clear M6; refine wpList_load_rowg (by rfl) 33 _ rfl w1.heap.size rfl 33 X2.toArray (0, 0) _ HV2.out Tryd.underlying33 rfl (by rw [z2]; exact sizeS) ?_)
            | (go_at_call 74; refine (HCi.out _ HB2.out).mono ?_; rintro e w3 ⟨rfl, hb3⟩; have HB3 := jhid9 (jtwo HB2.out hb3); clear hb3))
          go_ret
          exact ⟨by rw [HF.out]; rfl, HB3.out⟩
      · obtain rfl : i = n := by omega
        clear hb
        go_wp2
        go_ret
        exact ⟨by rw [HA.out]; rfl, HB.out⟩
  · have HD : Hid ((decide (n = n') && alB B n) = false) := by show _ = _; rw [decide_eq_false hne]; rfl
    rw [HD.out]
    have q : ((n : Int) == (n' : Int)) = false := by simp; omega
    have q2 : ((n : Int) != (n' : Int)) = true := by simp; omega
    go_enter Tryd.func94, Tryd.ntmps94
    go_wp2
    go_ret
    exact ⟨rfl, Below.refl _ _⟩
set_option maxRecDepth 20000 in
set_option maxHeartbeats 8000000 in
theorem teq_i (w : World) (a a' : Option Addr) (n n' c c' : Nat) (C1 C2 : Nat → List Value) (B : Nat → Bool) (hn : n ≤ 140737488351232) (hn' : n' ≤ 140737488351232)
    (h1 : ∀ i, i < n → ∃ b o, a = some ⟨b, o, none⟩ ∧ (C1 i).length = 19 ∧ (C1 i).toArray.all (·.oneCell') = true ∧ ∀ w', Below w.heap.size w w' → w'.rangeAt b (o + i * 19) (C1 i))
    (h2 : ∀ i, i < n' → ∃ b o, a' = some ⟨b, o, none⟩ ∧ (C2 i).length = 19 ∧ (C2 i).toArray.all (·.oneCell') = true ∧ ∀ w', Below w.heap.size w w' → w'.rangeAt b (o + i * 19) (C2 i))
    (hC : ∀ i, i < n → i < n' → ∀ w', Below w.heap.size w w' → Calls Tryd.prog 44 #[.agg (C1 i).toArray, .agg (C2 i).toArray] w' fun e w'' => e = .returned (.bool (B i)) ∧ Below w'.heap.size w' w'') :
    Calls Tryd.prog 43 #[.slice a n c, .slice a' n' c', .func (.func 44) #[] #[]] w fun e w' => e = .returned (.bool (decide (n = n') && alB B n)) ∧ Below w.heap.size w w' := by
  have H1 := jhid9 h1
  have H2 := jhid9 h2
  have HC := jhid9 hC
  clear h1 h2 hC
  by_cases hne : n = n'
  · subst hne
    have HD : Hid ((decide (n = n) && alB B n) = alB B n) := by show _ = _; simp
    rw [HD.out]
    clear HD
    go_enter Tryd.func43, Tryd.ntmps43
    go_wp2
    go_loopw [17] (fun vi wr => ∃ i : Nat, i ≤ n ∧ vi = .int .i64 (i : Int) ∧ Hid (alB B i = true) ∧ Below w.heap.size w wr) (fun vi _ => n - (intOf vi).toNat)
    case atStart => exact ⟨0, by omega, rfl, rfl, Below.refl _ _⟩
    case round =>
      obtain ⟨i, hi, rfl, HA, hb⟩ := hrel
      have HB := jhid9 hb
      by_cases hlt : i < n
      · have p0 : (0 : Int) ≤ (i : Int) := by omega
        have p1 : (i : Int) < (n : Int) := by omega
        obtain ⟨b1, q1, rfl, l1, o1, r1⟩ := H1.out i hlt
        obtain ⟨b2, q2, rfl, l2, o2, r2⟩ := H2.out i hlt
        have HR1 := jhid9 (r1 _ hb)
        have HR2 := jhid9 r2
        have HCi := jhid9 (HC.out i hlt hlt)
        have HAs : Hid (alB B (i + 1) = B i) := by show (alB B i && B i) = B i; rw [HA.out, Bool.true_and]
        have HAf : Hid (alB B (i + 1) = false → alB B n = false) := fun h => alB_stop h hlt
        generalize C1 i = X1 at *
        generalize C2 i = X2 at *
        generalize B i = bi at *
        have z1 : X1.toArray.size = 19 := by rw [List.size_toArray]; exact l1
        have z2 : X2.toArray.size = 19 := by rw [List.size_toArray]; exact l2
        clear r1 r2 hb H1 H2 HC
        cases bi with
        | true =>
          have M1 : True := trivial
          have M2 : True := trivial
          have M3 : True := trivial
          have M4 : True := trivial
          have M5 : True := trivial
          have M6 : True := trivial
          go_wp2_with (first
            | (clear M1; refine wpList_load_mid rfl 36 _ rfl b1 _ rfl X1 _ HR1.out Tryd.underlying36 rfl (by rw [l1]; exact sizeI) ?_)
            | (clear M2; refine wpList_store_vn rfl 36 _ _ rfl wr.heap.size _ X1.toArray rfl rfl (Vn.new wr _ _) (by rw [z1]; exact sizeI) (by rw [z1]; rfl) o1 ?_; intro w1 HV1 hg1; have hb1 : Below wr.heap.size wr w1 := (jlow _ _).trans (jbelow hg1.out (jlow _ _).size (fun g e => by cases e; exact Nat.le_refl _)); have HB1 := jhid9 (jtwo HB.out hb1); have HR2b := jhid9 (HR2.out _ HB1.out); clear hg1 hb1)
            | (clear M3; refine wpList_load_mid rfl 36 _ rfl b2 _ rfl X2 _ HR2b.out Tryd.underlying36 rfl (by rw [l2]; exact sizeI) ?_)
            | (clear M4; refine wpList_store_vn rfl 36 _ _ rfl w1.heap.size _ X2.toArray rfl rfl (Vn.new w1 _ _) (by rw [z2]; exact sizeI) (by rw [z2]; rfl) o2 ?_; intro w2 HV2 hg2; have hb2 : Below w1.heap.size w1 w2 := (jlow _ _).trans (jbelow hg2.out (jlow _ _).size (fun g e => by cases e; exact Nat.le_refl _)); have HB2 := jhid9 (jtwo HB1.out hb2); have HV1b := jhid9 (HV1.out.later hb2); clear hg2 hb2)
            | (clear M5; refine wpList_load_rowg (by rfl) 36 _ rfl wr.heap.size rfl 36 X1.toArray (0, 0) _ HV1b.out Tryd.underlying36 rfl (by rw [z1]; exact sizeI) ?_)
            | (clear M6; refine wpList_load_rowg (by rfl) 36 _ rfl w1.heap.size rfl 36 X2.toArray (0, 0) _ HV2.out Tryd.underlying36 rfl (by rw [z2]; exact sizeI) ?_)
            | (go_at_call 44; refine (HCi.out _ HB2.out).mono ?_; rintro e w3 ⟨rfl, hb3⟩; have HB3 := jhid9 (jtwo HB2.out hb3); clear hb3))
          exact ⟨⟨i + 1, by omega, by go_num, HAs, HB3.out⟩, by simp [intOf]; omega⟩
        | false =>
          have HF : Hid (alB B n = false) := HAf.out HAs.out
          have M1 : True := trivial
          have M2 : True := trivial
          have M3 : True := trivial
          have M4 : True := trivial
          have M5 : True := trivial
          have M6 : True := trivial
          go_wp2_with (first
            | (clear M1; refine wpList_load_mid rfl 36 _ rfl b1 _ rfl X1 _ HR1.out Tryd.underlying36 rfl (by rw [l1]; exact sizeI) ?_)
            | (clear M2; refine wpList_store_vn rfl 36 _ _ rfl wr.heap.size _ X1.toArray rfl rfl (Vn.new wr _ _) (by rw [z1]; exact sizeI) (by rw [z1]; rfl) o1 ?_; intro w1 HV1 hg1; have hb1 : Below wr.heap.size wr w1 := (jlow _ _).trans (jbelow hg1.out (jlow _ _).size (fun g e => by cases e; exact Nat.le_refl _)); have HB1 := jhid9 (jtwo HB.out hb1); have HR2b := jhid9 (HR2.out _ HB1.out); clear hg1 hb1)
            | (clear M3; refine wpList_load_mid rfl 36 _ rfl b2 _ rfl X2 _ HR2b.out Tryd.underlying36 rfl (by rw [l2]; exact sizeI) ?_)
            | (clear M4; refine wpList_store_vn rfl 36 _ _ rfl w1.heap.size _ X2.toArray rfl rfl (Vn.new w1 _ _) (by rw [z2]; exact sizeI) (by rw [z2]; rfl) o2 ?_; intro w2 HV2 hg2; have hb2 : Below w1.heap.size w1 w2 := (jlow _ _).trans (jbelow hg2.out (jlow _ _).size (fun g e => by cases e; exact Nat.le_refl _)); have HB2 := jhid9 (jtwo HB1.out hb2); have HV1b := jhid9 (HV1.out.later hb2); clear hg2 hb2)
            | (clear M5; refine wpList_load_rowg (by rfl) 36 _ rfl wr.heap.size rfl 36 X1.toArray (0, 0) _ HV1b.out Tryd.underlying36 rfl (by rw [z1]; exact sizeI) ?_)
            | (clear M6; refine wpList_load_rowg (by rfl) 36 _ rfl w1.heap.size rfl 36 X2.toArray (0, 0) _ HV2.out Tryd.underlying36 rfl (by rw [z2]; exact sizeI) ?_)
            | (go_at_call 44; refine (HCi.out _ HB2.out).mono ?_; rintro e w3 ⟨rfl, hb3⟩; have HB3 := jhid9 (jtwo HB2.out hb3); clear hb3))
          go_ret
          exact ⟨by rw [HF.out]; rfl, HB3.out⟩
      · obtain rfl : i = n := by omega
        clear hb
        go_wp2
        go_ret
        exact ⟨by rw [HA.out]; rfl, HB.out⟩
  · have HD : Hid ((decide (n = n') && alB B n) = false) := by show _ = _; rw [decide_eq_false hne]; rfl
    rw [HD.out]
    have q : ((n : Int) == (n' : Int)) = false := by simp; omega
    have q2 : ((n : Int) != (n' : Int)) = true := by simp; omega
    go_enter Tryd.func43, Tryd.ntmps43
    go_wp2
    go_ret
    exact ⟨rfl, Below.refl _ _⟩
end Go.Proofs.YtdimkfcanegahaaDoor
