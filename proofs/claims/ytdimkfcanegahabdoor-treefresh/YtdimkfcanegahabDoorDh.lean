/-
  The anchor of layer 10; how many expressions of two parts there are.
-/
import Derived.Test.YtdimkfcanegahabDoorDg
import Derived.Test.YtdimkfcanegahabDoorGc
import Derived.Test.YtdimkfcanegahabDoorGd
namespace Go.Proofs.YtdimkfcanegahabDoor
open Go.RowKit
/-- The anchor's expression. -/
def ancT : Xt := mkX ⟨4, 0, ⟨#[]⟩, 2, 0, 0⟩ (fun i => if i = 0 then mkX ⟨1, 1, ⟨#[]⟩, 0, 0, 0⟩ (fun _ => l0x) else mkX ⟨2, 0, ⟨#[97]⟩, 0, 0, 0⟩ (fun _ => l0x))
theorem anc_may : mayX ancT = true := by decide +kernel
theorem anc_itoa : Lib.itoa 1 = [49] := by
  have e : Lib.decDigits 1 = [49] := by rw [Lib.decDigits, dif_pos (by omega)]; rfl
  exact e
theorem anc_text : xtext 16 ancT = ⟨#[40, 32, 49, 32, 43, 32, 97, 32, 41]⟩ := by
  have e : xtext 16 ancT = ⟨#[40, 32]⟩ ++ ⟨(Lib.itoa 1).toArray⟩ ++ ⟨#[32]⟩ ++ opb 4 ++ ⟨#[32]⟩ ++ ⟨#[97]⟩ ++ ⟨#[32, 41]⟩ := rfl
  rw [e, anc_itoa]
  rfl
theorem anc_s : xS ancT = ⟨#[40, 32, 49, 32, 43, 32, 97, 32, 41]⟩ := by
  unfold xS xby
  rw [anc_may, anc_text]
  rfl
theorem anc_e : xE ancT = 0 := by
  unfold xE xby
  rw [anc_may, anc_text]
  rfl
theorem anc_no : mayX l0x = false := by decide +kernel
theorem l0x_xv (w : World) : XV w (.agg #[.int .u8 0, .int .i64 0, .string ⟨#[]⟩, .slice none 0 0, .int .i64 0, .int .i64 0]) l0x :=
  ⟨⟨none, 0, rfl, fun d i hi => absurd hi (Nat.not_lt_zero i)⟩, ⟨by show 0 < 256; omega, by show _ ≤ (0 : Int); omega, by show (0 : Int) ≤ _; omega, by show 0 ≤ _; omega, by show 0 ≤ _; omega⟩⟩
theorem anc_xv {w : World} {b : Nat} (h : Vn w b 32 #[.int .u8 1, .int .i64 1, .string ⟨#[]⟩, .slice none 0 0, .int .i64 0, .int .i64 0, .int .u8 2, .int .i64 0, .string ⟨#[97]⟩, .slice none 0 0, .int .i64 0, .int .i64 0]) :
    XV w (.agg #[.int .u8 4, .int .i64 0, .string ⟨#[]⟩, .slice (some ⟨b, 0, none⟩) 2 2, .int .i64 0, .int .i64 0]) ancT := by
  refine ⟨⟨some ⟨b, 0, none⟩, 2, rfl, fun d i hi => ⟨b, 0, rfl, ?_⟩⟩, ⟨by show 4 < 256; omega, by show _ ≤ (0 : Int); omega, by show (0 : Int) ≤ _; omega, by show 0 ≤ _; omega, by show 2 ≤ _; omega⟩⟩
  have hi : i < 2 := hi
  cases d with
  | zero => trivial
  | succ d =>
    obtain rfl | rfl : i = 0 ∨ i = 1 := by omega
    · exact ⟨none, 0, h.cell 0 _ rfl, h.cell 1 _ rfl, h.cell 2 _ rfl, h.cell 3 _ rfl, h.cell 4 _ rfl, h.cell 5 _ rfl, ⟨by show 1 < 256; omega, by show _ ≤ (1 : Int); omega, by show (1 : Int) ≤ _; omega, by show 0 ≤ _; omega, by show 0 ≤ _; omega⟩, fun i hi => absurd hi (Nat.not_lt_zero i)⟩
    · exact ⟨none, 0, h.cell 6 _ rfl, h.cell 7 _ rfl, h.cell 8 _ rfl, h.cell 9 _ rfl, h.cell 10 _ rfl, h.cell 11 _ rfl, ⟨by show 2 < 256; omega, by show _ ≤ (0 : Int); omega, by show (0 : Int) ≤ _; omega, by show 1 ≤ _; omega, by show 0 ≤ _; omega⟩, fun i hi => absurd hi (Nat.not_lt_zero i)⟩
set_option maxRecDepth 20000 in
set_option maxHeartbeats 4000000 in
theorem anch10_any (w : World) (h9 : Tab9 w) (hw : Wt9 w) (hs : Xs10 w) : Calls Tryd.prog 7 #[] w fun e w' => e = .returned (.bool true) ∧ Below w.heap.size w w' := by
  have H9 := jhid9 h9
  have HW := jhid9 hw
  have HS := jhid9 hs
  clear h9 hw hs
  have HT : Hid (∀ w' : World, ∀ b : Nat, Below w.heap.size w w' → Vn w' b 32 #[.int .u8 1, .int .i64 1, .string ⟨#[]⟩, .slice none 0 0, .int .i64 0, .int .i64 0, .int .u8 2, .int .i64 0, .string ⟨#[97]⟩, .slice none 0 0, .int .i64 0, .int .i64 0] → Calls Tryd.prog 14 #[.agg #[.int .u8 4, .int .i64 0, .string ⟨#[]⟩, .slice (some ⟨b, 0, none⟩) 2 2, .int .i64 0, .int .i64 0]] w' fun e w'' => e = .returned (.tuple #[.string ⟨#[40, 32, 49, 32, 43, 32, 97, 32, 41]⟩, .int .i64 ((0 : Nat) : Int)]) ∧ Below w'.heap.size w' w'') := fun w' b hb hv => by
    have := txtext w' ancT _ (anc_xv hv) (H9.out.later hb) (HW.out.later hb) (HS.out.later hb)
    rw [anc_s, anc_e] at this
    exact this
  have HN : Hid (∀ w' : World, Below w.heap.size w w' → Calls Tryd.prog 15 #[.agg #[.int .u8 0, .int .i64 0, .string ⟨#[]⟩, .slice none 0 0, .int .i64 0, .int .i64 0]] w' fun e w'' => e = .returned (.bool false) ∧ Below w'.heap.size w' w'') := fun w' hb => by
    have := tmayx w' l0x _ (l0x_xv w') (HW.out.later hb)
    rw [anc_no] at this
    exact this
  go_enter Tryd.func7, Tryd.ntmps7
  go_wp2_with (first
    | (refine wpList_store_vn rfl 32 _ _ rfl w.heap.size _ #[.int .u8 1, .int .i64 1, .string ⟨#[]⟩, .slice none 0 0, .int .i64 0, .int .i64 0] rfl rfl (Vn.new w _ _) sizeX rfl (all6 rfl rfl rfl rfl rfl rfl) ?_; intro w1 HV1 hg1; have HB1 := jhid9 ((jlow _ _).trans (jbelow hg1.out (jlow _ _).size (fun g e => by cases e; exact Nat.le_refl _))); have m0 := HV1.out.cell 0 _ rfl; have m1 := HV1.out.cell 1 _ rfl; have m2 := HV1.out.cell 2 _ rfl; have m3 := HV1.out.cell 3 _ rfl; have m4 := HV1.out.cell 4 _ rfl; have m5 := HV1.out.cell 5 _ rfl; clear hg1)
    | (go_at_call 14; refine (HT.out _ _ (jtwo HB1.out (jlow _ _)) (Vn.new w1 _ _)).mono ?_; rintro e w2 ⟨rfl, hb2⟩; have HB2 := jhid9 (jtwo (jtwo HB1.out (jlow _ _)) hb2); clear hb2)
    | (go_at_call 15; refine (HN.out _ HB2.out).mono ?_; rintro e w3 ⟨rfl, hb3⟩; have HB3 := jhid9 (jtwo HB2.out hb3); clear hb3))
  go_ret
  exact ⟨rfl, HB3.out⟩
theorem xtwo_le : ∀ (d : Nat) (T : Xt), MX d T → xtwo d T ≤ 65536 * 65536 := by
  intro d T h
  have h1 := brk_two d T h
  have h2 := h.size
  have h3 : brk (xby d T) ≤ (xby d T).length := List.count_le_length
  have h4 : (xby d T).length = (xtext d T).size := by unfold xby; rw [Array.length_toList]; rfl
  omega
theorem x2s_le {f : Xt → Nat} {F : Nat → Xt} : ∀ k j, j ≤ k → x2s f F j ≤ x2s f F k := by
  intro k
  induction k with
  | zero => intro j hj; obtain rfl : j = 0 := by omega
            exact Nat.le_refl _
  | succ k ih =>
    intro j hj
    by_cases e : j = k + 1
    · rw [e]; exact Nat.le_refl _
    · have := ih j (by omega)
      show _ ≤ x2s f F k + f (F k)
      omega
end Go.Proofs.YtdimkfcanegahabDoor
