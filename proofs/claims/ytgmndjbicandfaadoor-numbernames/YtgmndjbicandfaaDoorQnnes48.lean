/-
  Stage 12: the anchor.
-/
import Derived.Test.YtgmndjbicandfaaDoorQnnes00
import Derived.Test.YtgmndjbicandfaaDoorQnnes23
set_option maxRecDepth 100000
set_option maxHeartbeats 16000000
namespace Go.Proofs.YtgmndjbicandfaaDoor
open Go.RowKit Go.Maps
def ancS : ByteArray := ⟨#[97]⟩
theorem ancS_n : isN ancS = true := by decide +kernel
theorem anc12_e : evl (fun _ => ⟨ancS, 9⟩) 1 (nmX ancS) = ⟨9, 0, 0, 0⟩ := by
 have h1 : mayE (fun _ => ⟨ancS, 9⟩) 1 = true := by
  show (true && (isN ancS && nmB 9 && true)) = true
  rw [ancS_n]
  rfl
 have h2 : elk (fun _ => ⟨ancS, 9⟩) 1 ancS = some 9 := by
  show (if sbq ancS ancS = true then some 9 else none) = some 9
  rw [qcz, if_pos rfl]
 unfold evl
 rw [if_pos h1, qe1, if_pos ancS_n]
 exact xval2 rfl h2
theorem qed : wrv 7 (-7) 2 = -3 ∧ wre 7 (-7) 2 = 0 := by decide +kernel
theorem anc12_el {w : World} {b : Nat} (h : Vn w b 50 #[.string ancS, .int .i64 9]) : EL w (some ⟨b, 0, none⟩) 1 (fun _ => ⟨ancS, 9⟩) := fun i hi => by
 obtain rfl : i = 0 := by omega
 exact ⟨⟨by show 1 ≤ _; omega, by dsimp only; omega, by dsimp only; omega⟩, b, 0, rfl, h.cell 0 _ rfl, h.cell 1 _ rfl⟩
theorem qdh (w : World) (hw : Wt9 w) : Calls Tryd.prog 17 #[] w fun e w' => e = .returned (.bool true) ∧ Below w.heap.size w w' := by
 have HW := qa0 hw
 clear hw
 have HWk : Hid (∀ w' : World, Calls Tryd.prog 21 #[.int .u8 7, .int .i64 (-7), .int .i64 2] w' fun e w'' => e = .returned (.tuple #[.int .i64 (-3), .int .i64 0]) ∧ Below w'.heap.size w' w'') := fun w' => by
  have h := qc9 w' 7 (-7) 2 (by omega)
  rw [qed.1, qed.2] at h
  exact h
 have HEv : Hid (∀ (w' : World) (b : Nat), Below w.heap.size w w' → Vn w' b 50 #[.string ⟨#[97]⟩, .int .i64 9] → Calls Tryd.prog 8 #[.agg #[.int .u8 2, .int .i64 0, .string ⟨#[97]⟩, .slice none 0 0, .int .i64 0, .int .i64 0], .slice (some ⟨b, 0, none⟩) 1 1] w' fun e w'' => e = .returned (.tuple #[.int .i64 9, .agg #[.int .i64 0, .int .i64 0, .int .i64 0]]) ∧ Below w'.heap.size w' w'') := fun w' b hb hv => by
  have h := eval_any w' (nmX ancS) _ (some ⟨b, 0, none⟩) 1 1 (fun _ => ⟨ancS, 9⟩) (nmX_xv w' ancS (by show 1 ≤ _; omega)) (anc12_el hv) (by omega) (HW.out.later hb)
  rw [anc12_e] at h
  exact h
 have heq := eql_f12
 have hng := qbk
 go_enter Tryd.func17, Tryd.ntmps17
 go_wp2_with (first
  | (go_at_call 21; refine (HWk.out _).mono ?_; rintro e w1 ⟨rfl, hb1⟩; have HB1 := qa0 hb1; clear hb1)
  | (go_at_call 8; refine (HEv.out _ _ (jtwo HB1.out (jlow _ _)) (Vn.new w1 _ _)).mono ?_; rintro e w2 ⟨rfl, hb2⟩; have HB2 := qa0 (jtwo (jtwo HB1.out (jlow _ _)) hb2); clear hb2)
  | (refine qa1 rfl 29 _ _ rfl w2.heap.size _ #[.int .i64 0, .int .i64 0, .int .i64 0] rfl rfl (Vn.new w2 _ _) sizeFau rfl (all3 rfl rfl rfl) ?_; intro w3 HV3 hg3; have HB3 := qa0 (jtwo HB2.out ((jlow _ _).trans (jbelow hg3.out (jlow _ _).size (fun g e => by cases e; exact Nat.le_refl _)))); have m0 := HV3.out.cell 0 _ rfl; have m1 := HV3.out.cell 1 _ rfl; have m2 := HV3.out.cell 2 _ rfl; clear hg3))
 go_ret
 exact ⟨rfl, HB3.out⟩
end Go.Proofs.YtgmndjbicandfaaDoor
