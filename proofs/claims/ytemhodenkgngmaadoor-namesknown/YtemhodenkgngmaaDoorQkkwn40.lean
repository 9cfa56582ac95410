/-
  Stage 13: the anchor of the laws.
-/
import Derived.Test.YtemhodenkgngmaaDoorQkkwn00
import Derived.Test.YtemhodenkgngmaaDoorQkkwn39
set_option maxRecDepth 100000
set_option maxHeartbeats 16000000
namespace Go.Proofs.YtemhodenkgngmaaDoor
open Go.RowKit Go.Shelf Go.Maps
theorem pone13 (w : World) : Calls Tryd.prog 20 #[] w fun e w' => e = .returned (.agg #[.int .u8 1, .string ⟨#[97]⟩, .int .u8 1, .int .i64 2, .string ⟨#[]⟩, .slice none 0 0, .int .i64 0, .int .i64 0, .int .u8 0, .string ⟨#[]⟩, .slice none 0 0, .slice none 0 0, .slice none 0 0, .int .i64 0, .int .i64 0, .int .u8 0, .slice none 0 0, .int .i64 0, .int .i64 0]) ∧ Below w.heap.size w w' := by
 go_enter Tryd.func20, Tryd.ntmps20
 go_wp2_with (refine qa1 rfl 61 _ _ rfl w.heap.size _ #[.int .u8 1, .string ⟨#[97]⟩, .int .u8 1, .int .i64 2, .string ⟨#[]⟩, .slice none 0 0, .int .i64 0, .int .i64 0, .int .u8 0, .string ⟨#[]⟩, .slice none 0 0, .slice none 0 0, .slice none 0 0, .int .i64 0, .int .i64 0, .int .u8 0, .slice none 0 0, .int .i64 0, .int .i64 0] rfl rfl (Vn.new w _ _) qa2 rfl (qcg rfl rfl rfl rfl rfl rfl rfl rfl rfl rfl rfl rfl rfl rfl rfl rfl rfl rfl rfl) ?_; intro w2 HV2 hg2; have hb2 : Below w.heap.size w w2 := (jlow _ _).trans (jbelow hg2.out (jlow _ _).size (fun g e => by cases e; exact Nat.le_refl _)))
 refine bodyPost_ret (v := .agg #[.int .u8 1, .string ⟨#[97]⟩, .int .u8 1, .int .i64 2, .string ⟨#[]⟩, .slice none 0 0, .int .i64 0, .int .i64 0, .int .u8 0, .string ⟨#[]⟩, .slice none 0 0, .slice none 0 0, .slice none 0 0, .int .i64 0, .int .i64 0, .int .u8 0, .slice none 0 0, .int .i64 0, .int .i64 0]) (results_cell_row Tryd.results20 _ _ w.heap.size 61 #[.int .u8 1, .string ⟨#[97]⟩, .int .u8 1, .int .i64 2, .string ⟨#[]⟩, .slice none 0 0, .int .i64 0, .int .i64 0, .int .u8 0, .string ⟨#[]⟩, .slice none 0 0, .slice none 0 0, .slice none 0 0, .int .i64 0, .int .i64 0, .int .u8 0, .slice none 0 0, .int .i64 0, .int .i64 0] (0, 0) _ rfl HV2.out Tryd.underlying61 rfl qa2) rfl ?_
 exact ⟨rfl, hb2⟩
theorem qe7 (w : World) (hw : Wt9 w) : Calls Tryd.prog 12 #[] w fun e w' => e = .returned (.bool true) ∧ Below w.heap.size w w' := by
 have HW := qa0 hw
 obtain ⟨nm, Hn⟩ : ∃ nm : ByteArray, Hid (nm = ⟨#[97]⟩) := ⟨_, rfl⟩
 have HO : Hid (∀ w' : World, Calls Tryd.prog 20 #[] w' fun e w'' => e = .returned (.agg #[.int .u8 1, .string nm, .int .u8 1, .int .i64 2, .string ⟨#[]⟩, .slice none 0 0, .int .i64 0, .int .i64 0, .int .u8 0, .string ⟨#[]⟩, .slice none 0 0, .slice none 0 0, .slice none 0 0, .int .i64 0, .int .i64 0, .int .u8 0, .slice none 0 0, .int .i64 0, .int .i64 0]) ∧ Below w'.heap.size w' w'') := fun w' => by rw [Hn.out]; exact pone13 w'
 have HT : Hid (∀ w' : World, Below w.heap.size w w' → Calls Tryd.prog 9 #[.slice (some ⟨w'.heap.size, 0, none⟩) 1 1] (w'.alloc (.cells #[.int .u8 1, .string nm, .int .u8 1, .int .i64 2, .string ⟨#[]⟩, .slice none 0 0, .int .i64 0, .int .i64 0, .int .u8 0, .string ⟨#[]⟩, .slice none 0 0, .slice none 0 0, .slice none 0 0, .int .i64 0, .int .i64 0, .int .u8 0, .slice none 0 0, .int .i64 0, .int .i64 0] 61)) fun e w'' => (∃ v, e = .returned (.tuple #[v, .agg #[.int .i64 0, .int .i64 0, .int .i64 0]]) ∧ Sw w'' (w'.alloc (.cells #[.int .u8 1, .string nm, .int .u8 1, .int .i64 2, .string ⟨#[]⟩, .slice none 0 0, .int .i64 0, .int .i64 0, .int .u8 0, .string ⟨#[]⟩, .slice none 0 0, .slice none 0 0, .slice none 0 0, .int .i64 0, .int .i64 0, .int .u8 0, .slice none 0 0, .int .i64 0, .int .i64 0] 61)).heap.size v [⟨nm, 1, 0, 2⟩]) ∧ Below (w'.alloc (.cells #[.int .u8 1, .string nm, .int .u8 1, .int .i64 2, .string ⟨#[]⟩, .slice none 0 0, .int .i64 0, .int .i64 0, .int .u8 0, .string ⟨#[]⟩, .slice none 0 0, .slice none 0 0, .slice none 0 0, .int .i64 0, .int .i64 0, .int .u8 0, .slice none 0 0, .int .i64 0, .int .i64 0] 61)).heap.size (w'.alloc (.cells #[.int .u8 1, .string nm, .int .u8 1, .int .i64 2, .string ⟨#[]⟩, .slice none 0 0, .int .i64 0, .int .i64 0, .int .u8 0, .string ⟨#[]⟩, .slice none 0 0, .slice none 0 0, .slice none 0 0, .int .i64 0, .int .i64 0, .int .u8 0, .slice none 0 0, .int .i64 0, .int .i64 0] 61)) w'') := fun w' hb => ptab1 _ _ nm Hn.out (Vn.new _ _ _) (HW.out.later (jtwo hb (jlow _ _)))
 have heq := qd2
 have hng := qao
 have hes := eql_sy13
 have hns := qbp
 clear hw
 go_enter Tryd.func12, Tryd.ntmps12
 go_wp2_with (first
  | (go_at_call 20; refine (HO.out _).mono ?_; rintro e w1 ⟨rfl, hb1⟩; have HB1 := qa0 hb1; clear hb1)
  | (go_at_call 9; go_loud (refine (HT.out w1 HB1.out).mono ?_; rintro e w2 ⟨⟨v, rfl, hs2⟩, hb2⟩; obtain ⟨x, d, rfl, _⟩ := hs2.form; obtain ⟨_, hl2⟩ := hs2.el (fun c hc => by rw [List.mem_singleton.1 hc]; exact ⟨by rw [Hn.out]; show 1 ≤ _; omega, by show 1 < 256; omega, by show _ ≤ (0 : Int); omega, by show (0 : Int) ≤ _; omega, by show _ ≤ (2 : Int); omega, by show (2 : Int) ≤ _; omega⟩); obtain ⟨_, sb, so, rfl, a0, a1, a2, a3⟩ := hl2 0 (by show 0 < 1; omega); have HS2 : Hid (w2.cell? ⟨sb, so, none⟩ = some (.string ⟨#[97]⟩) ∧ w2.cell? ⟨sb, so + 1, none⟩ = some (.int .u8 1) ∧ w2.cell? ⟨sb, so + 2, none⟩ = some (.int .i64 0) ∧ w2.cell? ⟨sb, so + 3, none⟩ = some (.int .i64 2)) := ⟨by rw [← Hn.out]; exact a0, a1, a2, a3⟩; clear a0 a1 a2 a3 hl2; have HB2 := qa0 (jtwo (jtwo HB1.out (jlow _ _)) hb2); clear hb2 hs2))
  | (refine qa1 rfl 26 _ _ rfl w2.heap.size _ #[.int .i64 0, .int .i64 0, .int .i64 0] rfl rfl (Vn.new w2 _ _) sizeFau rfl (all3 rfl rfl rfl) ?_; intro w3 HV3 hg3; have hb3 : Below w2.heap.size w2 w3 := (jlow _ _).trans (jbelow hg3.out (jlow _ _).size (fun g e => by cases e; exact Nat.le_refl _)); have HB3 := qa0 (jtwo HB2.out hb3); have c0 := cell_kept HS2.out.1 hb3; have c1 := cell_kept HS2.out.2.1 hb3; have c2 := cell_kept HS2.out.2.2.1 hb3; have c3 := cell_kept HS2.out.2.2.2 hb3; have m0 := HV3.out.cell 0 _ rfl; have m1 := HV3.out.cell 1 _ rfl; have m2 := HV3.out.cell 2 _ rfl; clear hg3 hb3))
 go_ret
 exact ⟨rfl, HB3.out⟩
end Go.Proofs.YtemhodenkgngmaaDoor
