/-
  Contracts of the program's tree: putExprs, putRows, putParts, putShape.
-/
import Derived.Test.YtdimkfcanegahabDoorDk
import Derived.Test.YtdimkfcanegahabDoorDf
namespace Go.Proofs.YtdimkfcanegahabDoor
open Go.RowKit
/-- There is room for a shape's tokens. -/
def Room (L : List TV) (m : Nat) : Prop := ∃ _ : Unit, L.length + m ≤ 800000000
theorem Room.le {L : List TV} {m : Nat} (h : Room L m) : L.length + m ≤ 800000000 := by
  obtain ⟨_, h⟩ := h
  exact h
set_option maxRecDepth 20000 in
set_option maxHeartbeats 8000000 in
theorem tputxs (w0 w : World) (bc : Nat) (L : List TV) (a : Option Addr) (n c : Nat) (F : Nat → Xt) (hX : ∀ d, XL d w0 a n F) (hn : n ≤ 64) (hM : ∀ i, i < n → MX 16 (F i)) (hs : Xs10 w0) (hL : Lp w0 w bc L) (hr : Room L 3000000) :
    Calls Tryd.prog 48 #[.func (.func 21) #[] #[.pointer (some ⟨bc, 0, none⟩)], .slice a n c] w fun e w' => e = .returned (.tuple #[]) ∧ Lp w0 w' bc (L ++ rtk F n) ∧ Gw bc w w' := by
  have HXl := jhid9 hX
  have HMx := jhid9 hM
  have HS := jhid9 hs
  have HL0 := jhid9 hL
  have HRm := hr
  clear hX hM hs hL hr
  go_enter Tryd.func48, Tryd.ntmps48
  go_wp2
  go_loopw [8] (fun vi wr => ∃ i : Nat, i ≤ n ∧ vi = .int .i64 (i : Int) ∧ Lp w0 wr bc (L ++ rtk F i) ∧ Gw bc w wr) (fun vi _ => n - (intOf vi).toNat)
  case atStart => exact ⟨0, by omega, rfl, by simpa [rtk] using HL0.out, Gw.refl _ _⟩
  case round =>
    obtain ⟨i, hi, rfl, hl, hg⟩ := hrel
    have HL := jhid9 hl
    have HG := jhid9 hg
    clear hl hg
    by_cases hlt : i < n
    · have p0 : (0 : Int) ≤ (i : Int) := by omega
      have p1 : (i : Int) < (n : Int) := by omega
      obtain ⟨b, o, kk, nl, nn, ll, cc, nx, ka, kc, rfl, hkid, hcl⟩ := XL.at_ HXl.out (i := i) hlt
      obtain ⟨k0, k1, k2, k3, k4, k5⟩ := hcl _ HL.out.below
      have HLn : ∃ _ : Unit, (rtk F i).length ≤ 2621504 := ⟨(), by have := rtk_many (F := F) i (fun j hj => HMx.out j (by omega)); omega⟩
      have HC : Hid (∀ (w' : World) (L' : List TV), Lp w0 w' bc L' → Few L' 16 → Calls Tryd.prog 27 #[.func (.func 21) #[] #[.pointer (some ⟨bc, 0, none⟩)], .agg #[.int .u8 (kk : Int), .int .i64 nn, .string nx, .slice ka nl kc, .int .i64 ll, .int .i64 cc]] w' fun e w'' => e = .returned (.tuple #[]) ∧ Lp w0 w'' bc (L' ++ xtk 16 (F i)) ∧ Gw bc w' w'') := fun w' L' h1 h2 => tputx 16 w0 w' bc L' (F i) _ (by omega) hkid (HMx.out i hlt) HS.out h1 h2
      have HRs := jhid9 (rtk_succ F i)
      obtain ⟨Y, HY⟩ : ∃ Y, Hid (rtk F (i + 1) = Y) := ⟨_, rfl⟩
      rw [HY.out] at HRs
      have HX0 : i = 0 → rtk F i = [] := fun h => by rw [h]; rfl
      generalize rtk F i = X at *
      generalize xtk 16 (F i) = Z at *
      clear hkid hcl
      have M1 : True := trivial
      by_cases h0 : i = 0
      · subst h0
        have HRs2 : Hid (Y = Z) := by show Y = Z; rw [HRs.out, if_pos rfl, List.nil_append]
        rw [Nat.zero_mul, Nat.add_zero] at k0 k1 k2 k3 k4 k5
        obtain rfl : X = [] := HX0 rfl
        clear HX0
        go_wp2_with (first
          | (clear M1; refine wpList_store_vn rfl 32 _ _ rfl wr.heap.size _ #[.int .u8 (kk : Int), .int .i64 nn, .string nx, .slice ka nl kc, .int .i64 ll, .int .i64 cc] rfl rfl (Vn.new wr _ _) sizeX rfl (all6 rfl rfl rfl rfl rfl rfl) ?_; intro w1 HV1 hg1; have hb1 : Below wr.heap.size wr w1 := (jlow _ _).trans (jbelow hg1.out (jlow _ _).size (fun g e => by cases e; exact Nat.le_refl _)); have hne : wr.heap.size ≠ bc := (by have := HL.out.lt; omega); have HX := jhid9 (Bx.mk HV1.out hne (by decide)); replace HL := jhid9 (HL.out.later hb1); replace HG := jhid9 (HG.out.trans (Gw.of hb1)); clear hg1 hb1 HV1; have m0 := HX.out.cell 0 _ rfl; have m1 := HX.out.cell 1 _ rfl; have m2 := HX.out.cell 2 _ rfl; have m3 := HX.out.cell 3 _ rfl; have m4 := HX.out.cell 4 _ rfl; have m5 := HX.out.cell 5 _ rfl)
          | (go_at_call 27; refine (HC.out _ _ HL.out ⟨(), by (try simp) <;> (obtain ⟨_, hr1⟩ := HRm; obtain ⟨_, hr2⟩ := HLn; omega)⟩).mono ?_; rintro e w1 ⟨rfl, hl1, hg1⟩; replace HL := jhid9 hl1; replace HG := jhid9 (HG.out.trans hg1); clear hl1 hg1))
        refine ⟨⟨0 + 1, by omega, by go_num, ?_, HG.out⟩, by simp [intOf]; omega⟩
        rw [HY.out, HRs2.out]
        have h9 := HL.out
        simpa using h9
      · have q0 : decide ((0 : Int) < (i : Int)) = true := decide_eq_true (by omega)
        have q1 : decide (0 < i) = true := decide_eq_true (by omega)
        have HRs2 : Hid (Y = X ++ [tkS ⟨#[44]⟩] ++ Z) := by show Y = _; rw [HRs.out, if_neg h0]
        go_wp2_with (first
          | (clear M1; refine wpList_store_vn rfl 32 _ _ rfl wr.heap.size _ #[.int .u8 (kk : Int), .int .i64 nn, .string nx, .slice ka nl kc, .int .i64 ll, .int .i64 cc] rfl rfl (Vn.new wr _ _) sizeX rfl (all6 rfl rfl rfl rfl rfl rfl) ?_; intro w1 HV1 hg1; have hb1 : Below wr.heap.size wr w1 := (jlow _ _).trans (jbelow hg1.out (jlow _ _).size (fun g e => by cases e; exact Nat.le_refl _)); have hne : wr.heap.size ≠ bc := (by have := HL.out.lt; omega); have HX := jhid9 (Bx.mk HV1.out hne (by decide)); replace HL := jhid9 (HL.out.later hb1); replace HG := jhid9 (HG.out.trans (Gw.of hb1)); clear hg1 hb1 HV1; have m0 := HX.out.cell 0 _ rfl; have m1 := HX.out.cell 1 _ rfl; have m2 := HX.out.cell 2 _ rfl; have m3 := HX.out.cell 3 _ rfl; have m4 := HX.out.cell 4 _ rfl; have m5 := HX.out.cell 5 _ rfl)
          | (go_at_call 26; refine (tsign10 _ _).mono ?_; rintro e w1 ⟨rfl, hb1⟩; replace HL := jhid9 (HL.out.later hb1); replace HG := jhid9 (HG.out.trans (Gw.of hb1)); replace HX := jhid9 (HX.out.step (Gw.of hb1)); clear hb1; replace m0 := HX.out.cell 0 _ rfl; replace m1 := HX.out.cell 1 _ rfl; replace m2 := HX.out.cell 2 _ rfl; replace m3 := HX.out.cell 3 _ rfl; replace m4 := HX.out.cell 4 _ rfl; replace m5 := HX.out.cell 5 _ rfl)
          | (go_at_call 21; refine (tput w0 _ bc _ (tkS ⟨#[44]⟩) _ rfl HL (by (try simp) <;> (obtain ⟨_, hr1⟩ := HRm; obtain ⟨_, hr2⟩ := HLn; omega))).mono ?_; rintro e w1 ⟨rfl, hl1, hg1⟩; replace HL := jhid9 hl1; replace HG := jhid9 (HG.out.trans hg1); replace HX := jhid9 (HX.out.step hg1); clear hl1 hg1; replace m0 := HX.out.cell 0 _ rfl; replace m1 := HX.out.cell 1 _ rfl; replace m2 := HX.out.cell 2 _ rfl; replace m3 := HX.out.cell 3 _ rfl; replace m4 := HX.out.cell 4 _ rfl; replace m5 := HX.out.cell 5 _ rfl)
          | (go_at_call 27; refine (HC.out _ _ HL.out ⟨(), by (try simp) <;> (obtain ⟨_, hr1⟩ := HRm; obtain ⟨_, hr2⟩ := HLn; omega)⟩).mono ?_; rintro e w1 ⟨rfl, hl1, hg1⟩; replace HL := jhid9 hl1; replace HG := jhid9 (HG.out.trans hg1); clear hl1 hg1))
        refine ⟨⟨i + 1, by omega, by go_num, ?_, HG.out⟩, by simp [intOf]; omega⟩
        rw [HY.out, HRs2.out]
        have h9 := HL.out
        simpa using h9
    · obtain rfl : i = n := by omega
      go_wp2
      go_end0
      exact ⟨rfl, HL.out, HG.out⟩
theorem mtk_many {len : Nat → Nat} {F : Nat → Nat → Xt} : ∀ n, (∀ i, i < n → len i ≤ 64 ∧ ∀ q, q < len i → MX 16 (F i q)) → (mtk len F n).length ≤ 2621505 * n := by
  intro n
  induction n with
  | zero => intro _; exact Nat.le_refl _
  | succ n ih =>
    intro h
    have h1 := ih (fun i hi => h i (by omega))
    have h2 := rtk_many (F := F n) (len n) (h n (by omega)).2
    have h3 := (h n (by omega)).1
    rw [mtk_succ]
    split
    · simp only [List.length_append, List.length_nil]; omega
    · simp only [List.length_append, List.length_cons, List.length_nil]; omega
theorem ptk_many {f : St → List TV} {F : Nat → St} : ∀ n, (∀ i, i < n → (f (F i)).length ≤ 57344) → (ptk f F n).length ≤ 57345 * n := by
  intro n
  induction n with
  | zero => intro _; exact Nat.le_refl _
  | succ n ih =>
    intro h
    have h1 := ih (fun i hi => h i (by omega))
    have h2 := h n (by omega)
    rw [ptk_succ]
    split
    · simp only [List.length_append, List.length_nil]; omega
    · simp only [List.length_append, List.length_cons, List.length_nil]; omega
set_option maxRecDepth 20000 in
set_option maxHeartbeats 8000000 in
theorem tputrows (w0 w : World) (bc : Nat) (L : List TV) (a : Option Addr) (n c : Nat) (len : Nat → Nat) (F : Nat → Nat → Xt) (hX : XR w0 a n len F) (hn : n ≤ 64) (hM : ∀ i, i < n → len i ≤ 64 ∧ ∀ q, q < len i → MX 16 (F i q)) (hs : Xs10 w0) (hL : Lp w0 w bc L) (hr : Room L 300000000) :
    Calls Tryd.prog 47 #[.func (.func 21) #[] #[.pointer (some ⟨bc, 0, none⟩)], .slice a n c] w fun e w' => e = .returned (.tuple #[]) ∧ Lp w0 w' bc (L ++ mtk len F n) ∧ Gw bc w w' := by
  have HXl := jhid9 hX
  have HMx := jhid9 hM
  have HS := jhid9 hs
  have HL0 := jhid9 hL
  have HRm := hr
  clear hX hM hs hL hr
  go_enter Tryd.func47, Tryd.ntmps47
  go_wp2
  go_loopw [8] (fun vi wr => ∃ i : Nat, i ≤ n ∧ vi = .int .i64 (i : Int) ∧ Lp w0 wr bc (L ++ mtk len F i) ∧ Gw bc w wr) (fun vi _ => n - (intOf vi).toNat)
  case atStart => exact ⟨0, by omega, rfl, by simpa [mtk] using HL0.out, Gw.refl _ _⟩
  case round =>
    obtain ⟨i, hi, rfl, hl, hg⟩ := hrel
    have HL := jhid9 hl
    have HG := jhid9 hg
    clear hl hg
    by_cases hlt : i < n
    · have p0 : (0 : Int) ≤ (i : Int) := by omega
      have p1 : (i : Int) < (n : Int) := by omega
      obtain ⟨b, o, a', c', rfl, hcc, hkid⟩ := HXl.out i hlt
      have k0 := cell_kept hcc HL.out.below
      have HLn : ∃ _ : Unit, (mtk len F i).length ≤ 167776320 := ⟨(), by have := mtk_many (len := len) (F := F) i (fun j hj => HMx.out j (by omega)); omega⟩
      have HC : Hid (∀ (w' : World) (L' : List TV), Lp w0 w' bc L' → Room L' 3000000 → Calls Tryd.prog 48 #[.func (.func 21) #[] #[.pointer (some ⟨bc, 0, none⟩)], .slice a' (len i) c'] w' fun e w'' => e = .returned (.tuple #[]) ∧ Lp w0 w'' bc (L' ++ rtk (F i) (len i)) ∧ Gw bc w' w'') := fun w' L' h1 h2 => tputxs w0 w' bc L' a' (len i) c' (F i) hkid (HMx.out i hlt).1 (HMx.out i hlt).2 HS.out h1 h2
      have HRs := jhid9 (mtk_succ len F i)
      obtain ⟨Y, HY⟩ : ∃ Y, Hid (mtk len F (i + 1) = Y) := ⟨_, rfl⟩
      rw [HY.out] at HRs
      have HX0 : i = 0 → mtk len F i = [] := fun h => by rw [h]; rfl
      generalize mtk len F i = X at *
      generalize rtk (F i) (len i) = Z at *
      generalize len i = li at *
      clear hkid hcc
      by_cases h0 : i = 0
      · subst h0
        have HRs2 : Hid (Y = Z) := by show Y = Z; rw [HRs.out, if_pos rfl, List.nil_append]
        rw [Nat.add_zero] at k0
        obtain rfl : X = [] := HX0 rfl
        clear HX0
        go_wp2_with (first
          | (go_at_call 48; refine (HC.out _ _ HL.out ⟨(), by (try simp) <;> (obtain ⟨_, hr1⟩ := HRm; obtain ⟨_, hr2⟩ := HLn; omega)⟩).mono ?_; rintro e w1 ⟨rfl, hl1, hg1⟩; replace HL := jhid9 hl1; replace HG := jhid9 (HG.out.trans hg1); clear hl1 hg1))
        refine ⟨⟨0 + 1, by omega, by go_num, ?_, HG.out⟩, by simp [intOf]; omega⟩
        rw [HY.out, HRs2.out]
        have h9 := HL.out
        simpa using h9
      · have q0 : decide ((0 : Int) < (i : Int)) = true := decide_eq_true (by omega)
        have q1 : decide (0 < i) = true := decide_eq_true (by omega)
        have HRs2 : Hid (Y = X ++ [tkS ⟨#[59]⟩] ++ Z) := by show Y = _; rw [HRs.out, if_neg h0]
        go_wp2_with (first
          | (go_at_call 26; refine (tsign10 _ _).mono ?_; rintro e w1 ⟨rfl, hb1⟩; replace HL := jhid9 (HL.out.later hb1); replace HG := jhid9 (HG.out.trans (Gw.of hb1)); clear hb1)
          | (go_at_call 21; refine (tput w0 _ bc _ (tkS ⟨#[59]⟩) _ rfl HL (by (try simp) <;> (obtain ⟨_, hr1⟩ := HRm; obtain ⟨_, hr2⟩ := HLn; omega))).mono ?_; rintro e w1 ⟨rfl, hl1, hg1⟩; replace HL := jhid9 hl1; replace HG := jhid9 (HG.out.trans hg1); clear hl1 hg1)
          | (go_at_call 48; refine (HC.out _ _ HL.out ⟨(), by (try simp) <;> (obtain ⟨_, hr1⟩ := HRm; obtain ⟨_, hr2⟩ := HLn; omega)⟩).mono ?_; rintro e w1 ⟨rfl, hl1, hg1⟩; replace HL := jhid9 hl1; replace HG := jhid9 (HG.out.trans hg1); clear hl1 hg1))
        refine ⟨⟨i + 1, by omega, by go_num, ?_, HG.out⟩, by simp [intOf]; omega⟩
        rw [HY.out, HRs2.out]
        have h9 := HL.out
        simpa using h9
    · obtain rfl : i = n := by omega
      go_wp2
      go_end0
      exact ⟨rfl, HL.out, HG.out⟩
set_option maxRecDepth 20000 in
set_option maxHeartbeats 8000000 in
theorem tputparts (w0 w : World) (bc : Nat) (L : List TV) (a : Option Addr) (n c : Nat) (d m : Nat) (F : Nat → St) (IH : ∀ (i : Nat) (w : World) (L : List TV) (v : Value), i < n → SV w0 v (F i) → Lp w0 w bc L → Room L m → Calls Tryd.prog 28 #[.func (.func 21) #[] #[.pointer (some ⟨bc, 0, none⟩)], v] w fun e w' => e = .returned (.tuple #[]) ∧ Lp w0 w' bc (L ++ stk d (F i)) ∧ Gw bc w w') (hX : ∀ d, SL d w0 a n F) (hn : n ≤ 64) (hM : ∀ i, i < n → (stk d (F i)).length ≤ 57344) (hL : Lp w0 w bc L) (hr : Room L (m + 10000000)) :
    Calls Tryd.prog 49 #[.func (.func 21) #[] #[.pointer (some ⟨bc, 0, none⟩)], .slice a n c] w fun e w' => e = .returned (.tuple #[]) ∧ Lp w0 w' bc (L ++ ptk (stk d) F n) ∧ Gw bc w w' := by
  have HXl := jhid9 hX
  have HMx := jhid9 hM
  have HI := jhid9 IH
  have HL0 := jhid9 hL
  have HRm := hr
  clear hX hM IH hL hr
  go_enter Tryd.func49, Tryd.ntmps49
  go_wp2
  go_loopw [8] (fun vi wr => ∃ i : Nat, i ≤ n ∧ vi = .int .i64 (i : Int) ∧ Lp w0 wr bc (L ++ ptk (stk d) F i) ∧ Gw bc w wr) (fun vi _ => n - (intOf vi).toNat)
  case atStart => exact ⟨0, by omega, rfl, by simpa [ptk] using HL0.out, Gw.refl _ _⟩
  case round =>
    obtain ⟨i, hi, rfl, hl, hg⟩ := hrel
    have HL := jhid9 hl
    have HG := jhid9 hg
    clear hl hg
    by_cases hlt : i < n
    · have p0 : (0 : Int) ≤ (i : Int) := by omega
      have p1 : (i : Int) < (n : Int) := by omega
      obtain ⟨b, o, kk, na1, np1, nr1, ll, cc, nx, aa1, pa1, ra1, ca1, cp1, cr1, rfl, hkid, hcl⟩ := SL.at_ HXl.out (i := i) hlt
      obtain ⟨k0, k1, k2, k3, k4, k5, k6⟩ := hcl _ HL.out.below
      have HLn : ∃ _ : Unit, (ptk (stk d) F i).length ≤ 3670080 := ⟨(), by have := ptk_many (f := stk d) (F := F) i (fun j hj => HMx.out j (by omega)); omega⟩
      have HC : Hid (∀ (w' : World) (L' : List TV), Lp w0 w' bc L' → Room L' m → Calls Tryd.prog 28 #[.func (.func 21) #[] #[.pointer (some ⟨bc, 0, none⟩)], .agg #[.int .u8 (kk : Int), .string nx, .slice aa1 na1 ca1, .slice pa1 np1 cp1, .slice ra1 nr1 cr1, .int .i64 ll, .int .i64 cc]] w' fun e w'' => e = .returned (.tuple #[]) ∧ Lp w0 w'' bc (L' ++ stk d (F i)) ∧ Gw bc w' w'') := fun w' L' h1 h2 => HI.out i w' L' _ hlt hkid h1 h2
      have HRs := jhid9 (ptk_succ (stk d) F i)
      obtain ⟨Y, HY⟩ : ∃ Y, Hid (ptk (stk d) F (i + 1) = Y) := ⟨_, rfl⟩
      rw [HY.out] at HRs
      have HX0 : i = 0 → ptk (stk d) F i = [] := fun h => by rw [h]; rfl
      generalize ptk (stk d) F i = X at *
      generalize stk d (F i) = Z at *
      clear hkid hcl
      have M1 : True := trivial
      by_cases h0 : i = 0
      · subst h0
        have HRs2 : Hid (Y = Z) := by show Y = Z; rw [HRs.out, if_pos rfl, List.nil_append]
        rw [Nat.zero_mul, Nat.add_zero] at k0 k1 k2 k3 k4 k5 k6
        obtain rfl : X = [] := HX0 rfl
        clear HX0
        go_wp2_with (first
          | (clear M1; refine wpList_store_vn rfl 38 _ _ rfl wr.heap.size _ #[.int .u8 (kk : Int), .string nx, .slice aa1 na1 ca1, .slice pa1 np1 cp1, .slice ra1 nr1 cr1, .int .i64 ll, .int .i64 cc] rfl rfl (Vn.new wr _ _) sizeS rfl (all7 rfl rfl rfl rfl rfl rfl rfl) ?_; intro w1 HV1 hg1; have hb1 : Below wr.heap.size wr w1 := (jlow _ _).trans (jbelow hg1.out (jlow _ _).size (fun g e => by cases e; exact Nat.le_refl _)); have hne : wr.heap.size ≠ bc := (by have := HL.out.lt; omega); have HX := jhid9 (Bx.mk HV1.out hne (by decide)); replace HL := jhid9 (HL.out.later hb1); replace HG := jhid9 (HG.out.trans (Gw.of hb1)); clear hg1 hb1 HV1; have m0 := HX.out.cell 0 _ rfl; have m1 := HX.out.cell 1 _ rfl; have m2 := HX.out.cell 2 _ rfl; have m3 := HX.out.cell 3 _ rfl; have m4 := HX.out.cell 4 _ rfl; have m5 := HX.out.cell 5 _ rfl; have m6 := HX.out.cell 6 _ rfl)
          | (go_at_call 28; refine (HC.out _ _ HL.out ⟨(), by (try simp) <;> (obtain ⟨_, hr1⟩ := HRm; obtain ⟨_, hr2⟩ := HLn; omega)⟩).mono ?_; rintro e w1 ⟨rfl, hl1, hg1⟩; replace HL := jhid9 hl1; replace HG := jhid9 (HG.out.trans hg1); clear hl1 hg1))
        refine ⟨⟨0 + 1, by omega, by go_num, ?_, HG.out⟩, by simp [intOf]; omega⟩
        rw [HY.out, HRs2.out]
        have h9 := HL.out
        simpa using h9
      · have q0 : decide ((0 : Int) < (i : Int)) = true := decide_eq_true (by omega)
        have q1 : decide (0 < i) = true := decide_eq_true (by omega)
        have HRs2 : Hid (Y = X ++ [tkS ⟨#[44]⟩] ++ Z) := by show Y = _; rw [HRs.out, if_neg h0]
        go_wp2_with (first
          | (clear M1; refine wpList_store_vn rfl 38 _ _ rfl wr.heap.size _ #[.int .u8 (kk : Int), .string nx, .slice aa1 na1 ca1, .slice pa1 np1 cp1, .slice ra1 nr1 cr1, .int .i64 ll, .int .i64 cc] rfl rfl (Vn.new wr _ _) sizeS rfl (all7 rfl rfl rfl rfl rfl rfl rfl) ?_; intro w1 HV1 hg1; have hb1 : Below wr.heap.size wr w1 := (jlow _ _).trans (jbelow hg1.out (jlow _ _).size (fun g e => by cases e; exact Nat.le_refl _)); have hne : wr.heap.size ≠ bc := (by have := HL.out.lt; omega); have HX := jhid9 (Bx.mk HV1.out hne (by decide)); replace HL := jhid9 (HL.out.later hb1); replace HG := jhid9 (HG.out.trans (Gw.of hb1)); clear hg1 hb1 HV1; have m0 := HX.out.cell 0 _ rfl; have m1 := HX.out.cell 1 _ rfl; have m2 := HX.out.cell 2 _ rfl; have m3 := HX.out.cell 3 _ rfl; have m4 := HX.out.cell 4 _ rfl; have m5 := HX.out.cell 5 _ rfl; have m6 := HX.out.cell 6 _ rfl)
          | (go_at_call 26; refine (tsign10 _ _).mono ?_; rintro e w1 ⟨rfl, hb1⟩; replace HL := jhid9 (HL.out.later hb1); replace HG := jhid9 (HG.out.trans (Gw.of hb1)); replace HX := jhid9 (HX.out.step (Gw.of hb1)); clear hb1; replace m0 := HX.out.cell 0 _ rfl; replace m1 := HX.out.cell 1 _ rfl; replace m2 := HX.out.cell 2 _ rfl; replace m3 := HX.out.cell 3 _ rfl; replace m4 := HX.out.cell 4 _ rfl; replace m5 := HX.out.cell 5 _ rfl; replace m6 := HX.out.cell 6 _ rfl)
          | (go_at_call 21; refine (tput w0 _ bc _ (tkS ⟨#[44]⟩) _ rfl HL (by (try simp) <;> (obtain ⟨_, hr1⟩ := HRm; obtain ⟨_, hr2⟩ := HLn; omega))).mono ?_; rintro e w1 ⟨rfl, hl1, hg1⟩; replace HL := jhid9 hl1; replace HG := jhid9 (HG.out.trans hg1); replace HX := jhid9 (HX.out.step hg1); clear hl1 hg1; replace m0 := HX.out.cell 0 _ rfl; replace m1 := HX.out.cell 1 _ rfl; replace m2 := HX.out.cell 2 _ rfl; replace m3 := HX.out.cell 3 _ rfl; replace m4 := HX.out.cell 4 _ rfl; replace m5 := HX.out.cell 5 _ rfl; replace m6 := HX.out.cell 6 _ rfl)
          | (go_at_call 28; refine (HC.out _ _ HL.out ⟨(), by (try simp) <;> (obtain ⟨_, hr1⟩ := HRm; obtain ⟨_, hr2⟩ := HLn; omega)⟩).mono ?_; rintro e w1 ⟨rfl, hl1, hg1⟩; replace HL := jhid9 hl1; replace HG := jhid9 (HG.out.trans hg1); clear hl1 hg1))
        refine ⟨⟨i + 1, by omega, by go_num, ?_, HG.out⟩, by simp [intOf]; omega⟩
        rw [HY.out, HRs2.out]
        have h9 := HL.out
        simpa using h9
    · obtain rfl : i = n := by omega
      go_wp2
      go_end0
      exact ⟨rfl, HL.out, HG.out⟩
end Go.Proofs.YtdimkfcanegahabDoor
