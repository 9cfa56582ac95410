/-
  The checks' own anchor: one verdict and one matrix that the document fixes.
  VerdictFewer: with fewer lost it is recovered too; the sources.
  VerdictDecodes: the program's Decode and Rebuild answer what the reference's do.
-/
import Derived.Test.YtokdejhbjoglcaaGreatQddes00
import Derived.Test.YtokdejhbjoglcaaGreatQddes45
import Derived.OrdersHeld
import Derived.Test.YtokdejhbjoglcaaGreatQddes48
import Derived.Test.YtokdejhbjoglcaaGreatQddes49
set_option maxRecDepth 100000
set_option maxHeartbeats 16000000
namespace Go.Proofs.YtokdejhbjoglcaaGreat
open Go.RowKit Go.Shelf
/-- The document's three rows. -/
def g3 (i : Nat) : Nat := if i = 0 then 1 else if i = 3 then 1 else if i = 4 then 1 else if i = 5 then 1 else 0
/-- The document's matrix. -/
def d3 (i : Nat) : Nat := if i = 1 then 1 else if i = 2 then 1 else if i = 4 then 1 else 0
open Go.RowKit Go.Shelf
attribute [local go_sem] Oper.semAt_some
/-- An error's number. -/
theorem SayA.err {F : Nat → Nat} {r c : Int} {n s q : Nat} {b : Bool} {E : Int} (h : SayA F r c n s b q E) (hE : E ≠ 0) : b = false ∧ (E == 0) = false := by
 rcases h with ⟨_, rfl, _, rfl⟩ | ⟨_, _, _, _, _, _, _, rfl, _, rfl⟩ | ⟨_, _, _, _, _, _, _, _, _, _, _, _, _, _, _, _, _, _, _, rfl⟩
 ·exact ⟨rfl, rfl⟩
 ·exact ⟨rfl, rfl⟩
 ·exact absurd rfl hE
/-- No error: all that is known. -/
theorem SayA.fine {F : Nat → Nat} {r c : Int} {n s q : Nat} {b : Bool} (h : SayA F r c n s b q 0) : ∃ r' c' t p : Nat, r = (r' : Int) ∧ c = (c' : Int) ∧ GenP r c n ∧ Rt r' c' n ∧ 1 ≤ c' ∧ c' ≤ r' ∧ s < 2 ^ r' ∧ t < 2 ^ r' ∧ bits .andNot .u64 ((2 ^ r' - 1 : Nat) : Int) (s : Int) = (t : Int) ∧ (∀ i, i < r' → (bt t i = 1 ↔ ¬ bt s i = 1)) ∧ BaS (m2 F r' c') r' t p ∧ RS (m2 F r' c') r' t (cn p r') ∧ cn p r' ≤ c' ∧ (b = true ↔ cn p r' = c') ∧ q = (if b then p else 0) := by
 rcases h with ⟨_, _, _, h0⟩ | ⟨_, _, _, _, _, _, _, _, _, h0⟩ | ⟨r', c', t, p, h1, h2, h3, h4, h5, h6, h7, h8, h9, h10, h11, h12, h13, h14, h15, _⟩
 ·exact absurd h0 (by decide)
 ·exact absurd h0 (by decide)
 ·exact ⟨r', c', t, p, h1, h2, h3, h4, h5, h6, h7, h8, h9, h10, h11, h12, h13, h14, h15⟩
open Go.RowKit Go.Shelf
theorem qj6 (w : World) (r c E : Int) (n k s : Nat) (a : Option Addr)
  (H1 : Hid (∀ w' : World, Below w.heap.size w w' → Calls Tryz.prog 5 #[mv r c a n k, .int .u64 (s : Int)] w' fun e w'' => e = .returned (.tuple #[mv 0 0 none 0 0, .bool false, .int .i64 E]) ∧ Below w'.heap.size w' w''))
  (H2 : Hid (∀ w' : World, Below w.heap.size w w' → Calls Tryz.prog 6 #[mv r c a n k, .int .u64 (s : Int)] w' fun e w'' => e = .returned (.tuple #[mv 0 0 none 0 0, .bool false, .int .i64 E]) ∧ Below w'.heap.size w' w''))
  (H3 : Hid (∀ w' : World, Below w.heap.size w w' → Calls Tryz.prog 7 #[mv r c a n k, .int .u64 (s : Int)] w' fun e w'' => e = .returned (.tuple #[mv 0 0 none 0 0, .bool false, .int .i64 E]) ∧ Below w'.heap.size w' w''))
  (H4 : Hid (∀ w' : World, Below w.heap.size w w' → Calls Tryz.prog 8 #[mv r c a n k, .int .u64 (s : Int)] w' fun e w'' => e = .returned (.tuple #[mv 0 0 none 0 0, .bool false, .int .i64 E]) ∧ Below w'.heap.size w' w'')) :
  Calls Tryz.prog 3 #[mv r c a n k, .int .u64 (s : Int)] w fun e w' => e = .returned (.bool true) ∧ Below w.heap.size w w' := by
 have HM1 : Hid True := trivial
 have hE : (E == E) = true := by simp
 go_enter Tryz.func3, Tryz.ntmps3
 go_wp2_with (first
  | (go_at_call 5; refine (H1.out _ (qa1 _ _)).mono ?_; rintro e w1 ⟨rfl, hb⟩; have HB1 : Hid (Below w.heap.size w (w1.alloc (.cells #[.int .i64 0, .int .i64 0, .slice none 0 0] 24))) := qa0 (qa0 (qa1 _ _) hb) (qa1 _ _); have HVg1 : Hid (Vr (w1.alloc (.cells #[.int .i64 0, .int .i64 0, .slice none 0 0] 24)) w.heap.size (.int .i64 r) (.int .i64 c) (.slice a n k)) := ((Vr.new w _ _ _).later hb).later (qa1 _ _); have HV1_1 : Hid (Vr (w1.alloc (.cells #[.int .i64 0, .int .i64 0, .slice none 0 0] 24)) w1.heap.size (.int .i64 0) (.int .i64 0) (.slice none 0 0)) := Vr.new _ _ _ _; have g1_0 := HVg1.out.c0; have g1_1 := HVg1.out.c1; have g1_2 := HVg1.out.c2; clear hb)
  | (go_at_call 6; refine (H2.out _ (HB1.out)).mono ?_; rintro e w2 ⟨rfl, hb⟩; have HB2 : Hid (Below w.heap.size w (w2.alloc (.cells #[.int .i64 0, .int .i64 0, .slice none 0 0] 24))) := qa0 (qa0 HB1.out hb) (qa1 _ _); have HVg2 : Hid (Vr (w2.alloc (.cells #[.int .i64 0, .int .i64 0, .slice none 0 0] 24)) w.heap.size (.int .i64 r) (.int .i64 c) (.slice a n k)) := (HVg1.out.later hb).later (qa1 _ _); have HV1_2 : Hid (Vr (w2.alloc (.cells #[.int .i64 0, .int .i64 0, .slice none 0 0] 24)) w1.heap.size (.int .i64 0) (.int .i64 0) (.slice none 0 0)) := (HV1_1.out.later hb).later (qa1 _ _); have HV2_2 : Hid (Vr (w2.alloc (.cells #[.int .i64 0, .int .i64 0, .slice none 0 0] 24)) w2.heap.size (.int .i64 0) (.int .i64 0) (.slice none 0 0)) := Vr.new _ _ _ _; have g2_0 := HVg2.out.c0; have g2_1 := HVg2.out.c1; have g2_2 := HVg2.out.c2; clear hb)
  | (go_at_call 7; refine (H3.out _ (HB2.out)).mono ?_; rintro e w3 ⟨rfl, hb⟩; have HB3 : Hid (Below w.heap.size w (w3.alloc (.cells #[.int .i64 0, .int .i64 0, .slice none 0 0] 24))) := qa0 (qa0 HB2.out hb) (qa1 _ _); have HVg3 : Hid (Vr (w3.alloc (.cells #[.int .i64 0, .int .i64 0, .slice none 0 0] 24)) w.heap.size (.int .i64 r) (.int .i64 c) (.slice a n k)) := (HVg2.out.later hb).later (qa1 _ _); have HV1_3 : Hid (Vr (w3.alloc (.cells #[.int .i64 0, .int .i64 0, .slice none 0 0] 24)) w1.heap.size (.int .i64 0) (.int .i64 0) (.slice none 0 0)) := (HV1_2.out.later hb).later (qa1 _ _); have HV2_3 : Hid (Vr (w3.alloc (.cells #[.int .i64 0, .int .i64 0, .slice none 0 0] 24)) w2.heap.size (.int .i64 0) (.int .i64 0) (.slice none 0 0)) := (HV2_2.out.later hb).later (qa1 _ _); have HV3_3 : Hid (Vr (w3.alloc (.cells #[.int .i64 0, .int .i64 0, .slice none 0 0] 24)) w3.heap.size (.int .i64 0) (.int .i64 0) (.slice none 0 0)) := Vr.new _ _ _ _; have g3_0 := HVg3.out.c0; have g3_1 := HVg3.out.c1; have g3_2 := HVg3.out.c2; clear hb)
  | (go_at_call 8; refine (H4.out _ (HB3.out)).mono ?_; rintro e w4 ⟨rfl, hb⟩; have HB4 : Hid (Below w.heap.size w (w4.alloc (.cells #[.int .i64 0, .int .i64 0, .slice none 0 0] 24))) := qa0 (qa0 HB3.out hb) (qa1 _ _); have HVg4 : Hid (Vr (w4.alloc (.cells #[.int .i64 0, .int .i64 0, .slice none 0 0] 24)) w.heap.size (.int .i64 r) (.int .i64 c) (.slice a n k)) := (HVg3.out.later hb).later (qa1 _ _); have HV1_4 : Hid (Vr (w4.alloc (.cells #[.int .i64 0, .int .i64 0, .slice none 0 0] 24)) w1.heap.size (.int .i64 0) (.int .i64 0) (.slice none 0 0)) := (HV1_3.out.later hb).later (qa1 _ _); have HV2_4 : Hid (Vr (w4.alloc (.cells #[.int .i64 0, .int .i64 0, .slice none 0 0] 24)) w2.heap.size (.int .i64 0) (.int .i64 0) (.slice none 0 0)) := (HV2_3.out.later hb).later (qa1 _ _); have HV3_4 : Hid (Vr (w4.alloc (.cells #[.int .i64 0, .int .i64 0, .slice none 0 0] 24)) w3.heap.size (.int .i64 0) (.int .i64 0) (.slice none 0 0)) := (HV3_3.out.later hb).later (qa1 _ _); have HV4_4 : Hid (Vr (w4.alloc (.cells #[.int .i64 0, .int .i64 0, .slice none 0 0] 24)) w4.heap.size (.int .i64 0) (.int .i64 0) (.slice none 0 0)) := Vr.new _ _ _ _; have v1_0 := HV1_4.out.c0; have v1_1 := HV1_4.out.c1; have v1_2 := HV1_4.out.c2; have v2_0 := HV2_4.out.c0; have v2_1 := HV2_4.out.c1; have v2_2 := HV2_4.out.c2; have v3_0 := HV3_4.out.c0; have v3_1 := HV3_4.out.c1; have v3_2 := HV3_4.out.c2; have v4_0 := HV4_4.out.c0; have v4_1 := HV4_4.out.c1; have v4_2 := HV4_4.out.c2; clear hb)
  | (go_at_call 9; have _x := HM1; refine (like7 _ 0 0 none none 0 0 0 (fun _ => 0) (Mt.none _ _) (Mt.none _ _)).mono ?_; rintro e w5 ⟨rfl, hb⟩; have HB5 : Hid (Below w.heap.size w w5) := qa0 HB4.out hb; have x3_0 := (HV3_4.out.later hb).c0; have x3_1 := (HV3_4.out.later hb).c1; have x3_2 := (HV3_4.out.later hb).c2; have x4_0 := (HV4_4.out.later hb).c0; have x4_1 := (HV4_4.out.later hb).c1; have x4_2 := (HV4_4.out.later hb).c2; clear hb HM1 _x)
  | (go_at_call 9; refine (like7 _ 0 0 none none 0 0 0 (fun _ => 0) (Mt.none _ _) (Mt.none _ _)).mono ?_; rintro e w6 ⟨rfl, hb⟩; have HB6 : Hid (Below w.heap.size w w6) := qa0 HB5.out hb; clear hb))
 go_ret
 exact ⟨rfl, HB6.out⟩
theorem qh0 (w : World) (r c n k s K L Q : Nat) (a : Option Addr) (O X : Nat → Nat) (HOe : Hid (∀ q, q < L → O q < 256)) (HXe : Hid (∀ q, q < Q → X q < 256))
  (H1 : Hid (∀ w' : World, Below w.heap.size w w' → Calls Tryz.prog 5 #[mv r c a n k, .int .u64 (s : Int)] w' fun e w'' => ∃ g, e = .returned (.tuple #[mv c r (some ⟨g, 0, none⟩) L L, .bool true, .int .i64 0]) ∧ RowAt w'' g 5 L O ∧ Below w'.heap.size w' w''))
  (H2 : Hid (∀ w' : World, Below w.heap.size w w' → Calls Tryz.prog 6 #[mv r c a n k, .int .u64 (s : Int)] w' fun e w'' => ∃ g, e = .returned (.tuple #[mv c r (some ⟨g, 0, none⟩) L L, .bool true, .int .i64 0]) ∧ RowAt w'' g 5 L O ∧ Below w'.heap.size w' w''))
  (H3 : Hid (∀ w' : World, Below w.heap.size w w' → Calls Tryz.prog 7 #[mv r c a n k, .int .u64 (s : Int)] w' fun e w'' => ∃ g, e = .returned (.tuple #[mv K r (some ⟨g, 0, none⟩) Q Q, .bool true, .int .i64 0]) ∧ RowAt w'' g 5 Q X ∧ Below w'.heap.size w' w''))
  (H4 : Hid (∀ w' : World, Below w.heap.size w w' → Calls Tryz.prog 8 #[mv r c a n k, .int .u64 (s : Int)] w' fun e w'' => ∃ g, e = .returned (.tuple #[mv K r (some ⟨g, 0, none⟩) Q Q, .bool true, .int .i64 0]) ∧ RowAt w'' g 5 Q X ∧ Below w'.heap.size w' w'')) :
  Calls Tryz.prog 3 #[mv r c a n k, .int .u64 (s : Int)] w fun e w' => e = .returned (.bool true) ∧ Below w.heap.size w w' := by
 have HM1 : Hid True := trivial
 go_enter Tryz.func3, Tryz.ntmps3
 go_wp2_with (first
  | (go_at_call 5; refine (H1.out _ (qa1 _ _)).mono ?_; rintro e w1 ⟨g1, rfl, hrow1, hb⟩; have HB1 : Hid (Below w.heap.size w (w1.alloc (.cells #[.int .i64 (c : Int), .int .i64 (r : Int), .slice (some ⟨g1, 0, none⟩) L L] 24))) := qa0 (qa0 (qa1 _ _) hb) (qa1 _ _); have HVg1 : Hid (Vr (w1.alloc (.cells #[.int .i64 (c : Int), .int .i64 (r : Int), .slice (some ⟨g1, 0, none⟩) L L] 24)) w.heap.size (.int .i64 (r : Int)) (.int .i64 (c : Int)) (.slice a n k)) := ((Vr.new w _ _ _).later hb).later (qa1 _ _); have HV1_1 : Hid (Vr (w1.alloc (.cells #[.int .i64 (c : Int), .int .i64 (r : Int), .slice (some ⟨g1, 0, none⟩) L L] 24)) w1.heap.size (.int .i64 (c : Int)) (.int .i64 (r : Int)) (.slice (some ⟨g1, 0, none⟩) L L)) := Vr.new _ _ _ _; have HR1_1 : Hid (RowAt (w1.alloc (.cells #[.int .i64 (c : Int), .int .i64 (r : Int), .slice (some ⟨g1, 0, none⟩) L L] 24)) g1 5 L O) := hrow1.later (qa1 _ _); have g1_0 := HVg1.out.c0; have g1_1 := HVg1.out.c1; have g1_2 := HVg1.out.c2; clear hb)
  | (go_at_call 6; refine (H2.out _ (HB1.out)).mono ?_; rintro e w2 ⟨g2, rfl, hrow2, hb⟩; have HB2 : Hid (Below w.heap.size w (w2.alloc (.cells #[.int .i64 (c : Int), .int .i64 (r : Int), .slice (some ⟨g2, 0, none⟩) L L] 24))) := qa0 (qa0 HB1.out hb) (qa1 _ _); have HVg2 : Hid (Vr (w2.alloc (.cells #[.int .i64 (c : Int), .int .i64 (r : Int), .slice (some ⟨g2, 0, none⟩) L L] 24)) w.heap.size (.int .i64 (r : Int)) (.int .i64 (c : Int)) (.slice a n k)) := (HVg1.out.later hb).later (qa1 _ _); have HV1_2 : Hid (Vr (w2.alloc (.cells #[.int .i64 (c : Int), .int .i64 (r : Int), .slice (some ⟨g2, 0, none⟩) L L] 24)) w1.heap.size (.int .i64 (c : Int)) (.int .i64 (r : Int)) (.slice (some ⟨g1, 0, none⟩) L L)) := (HV1_1.out.later hb).later (qa1 _ _); have HR1_2 : Hid (RowAt (w2.alloc (.cells #[.int .i64 (c : Int), .int .i64 (r : Int), .slice (some ⟨g2, 0, none⟩) L L] 24)) g1 5 L O) := (HR1_1.out.later hb).later (qa1 _ _); have HV2_2 : Hid (Vr (w2.alloc (.cells #[.int .i64 (c : Int), .int .i64 (r : Int), .slice (some ⟨g2, 0, none⟩) L L] 24)) w2.heap.size (.int .i64 (c : Int)) (.int .i64 (r : Int)) (.slice (some ⟨g2, 0, none⟩) L L)) := Vr.new _ _ _ _; have HR2_2 : Hid (RowAt (w2.alloc (.cells #[.int .i64 (c : Int), .int .i64 (r : Int), .slice (some ⟨g2, 0, none⟩) L L] 24)) g2 5 L O) := hrow2.later (qa1 _ _); have g2_0 := HVg2.out.c0; have g2_1 := HVg2.out.c1; have g2_2 := HVg2.out.c2; clear hb)
  | (go_at_call 7; refine (H3.out _ (HB2.out)).mono ?_; rintro e w3 ⟨g3, rfl, hrow3, hb⟩; have HB3 : Hid (Below w.heap.size w (w3.alloc (.cells #[.int .i64 (K : Int), .int .i64 (r : Int), .slice (some ⟨g3, 0, none⟩) Q Q] 24))) := qa0 (qa0 HB2.out hb) (qa1 _ _); have HVg3 : Hid (Vr (w3.alloc (.cells #[.int .i64 (K : Int), .int .i64 (r : Int), .slice (some ⟨g3, 0, none⟩) Q Q] 24)) w.heap.size (.int .i64 (r : Int)) (.int .i64 (c : Int)) (.slice a n k)) := (HVg2.out.later hb).later (qa1 _ _); have HV1_3 : Hid (Vr (w3.alloc (.cells #[.int .i64 (K : Int), .int .i64 (r : Int), .slice (some ⟨g3, 0, none⟩) Q Q] 24)) w1.heap.size (.int .i64 (c : Int)) (.int .i64 (r : Int)) (.slice (some ⟨g1, 0, none⟩) L L)) := (HV1_2.out.later hb).later (qa1 _ _); have HR1_3 : Hid (RowAt (w3.alloc (.cells #[.int .i64 (K : Int), .int .i64 (r : Int), .slice (some ⟨g3, 0, none⟩) Q Q] 24)) g1 5 L O) := (HR1_2.out.later hb).later (qa1 _ _); have HV2_3 : Hid (Vr (w3.alloc (.cells #[.int .i64 (K : Int), .int .i64 (r : Int), .slice (some ⟨g3, 0, none⟩) Q Q] 24)) w2.heap.size (.int .i64 (c : Int)) (.int .i64 (r : Int)) (.slice (some ⟨g2, 0, none⟩) L L)) := (HV2_2.out.later hb).later (qa1 _ _); have HR2_3 : Hid (RowAt (w3.alloc (.cells #[.int .i64 (K : Int), .int .i64 (r : Int), .slice (some ⟨g3, 0, none⟩) Q Q] 24)) g2 5 L O) := (HR2_2.out.later hb).later (qa1 _ _); have HV3_3 : Hid (Vr (w3.alloc (.cells #[.int .i64 (K : Int), .int .i64 (r : Int), .slice (some ⟨g3, 0, none⟩) Q Q] 24)) w3.heap.size (.int .i64 (K : Int)) (.int .i64 (r : Int)) (.slice (some ⟨g3, 0, none⟩) Q Q)) := Vr.new _ _ _ _; have HR3_3 : Hid (RowAt (w3.alloc (.cells #[.int .i64 (K : Int), .int .i64 (r : Int), .slice (some ⟨g3, 0, none⟩) Q Q] 24)) g3 5 Q X) := hrow3.later (qa1 _ _); have g3_0 := HVg3.out.c0; have g3_1 := HVg3.out.c1; have g3_2 := HVg3.out.c2; clear hb)
  | (go_at_call 8; refine (H4.out _ (HB3.out)).mono ?_; rintro e w4 ⟨g4, rfl, hrow4, hb⟩; have HB4 : Hid (Below w.heap.size w (w4.alloc (.cells #[.int .i64 (K : Int), .int .i64 (r : Int), .slice (some ⟨g4, 0, none⟩) Q Q] 24))) := qa0 (qa0 HB3.out hb) (qa1 _ _); have HVg4 : Hid (Vr (w4.alloc (.cells #[.int .i64 (K : Int), .int .i64 (r : Int), .slice (some ⟨g4, 0, none⟩) Q Q] 24)) w.heap.size (.int .i64 (r : Int)) (.int .i64 (c : Int)) (.slice a n k)) := (HVg3.out.later hb).later (qa1 _ _); have HV1_4 : Hid (Vr (w4.alloc (.cells #[.int .i64 (K : Int), .int .i64 (r : Int), .slice (some ⟨g4, 0, none⟩) Q Q] 24)) w1.heap.size (.int .i64 (c : Int)) (.int .i64 (r : Int)) (.slice (some ⟨g1, 0, none⟩) L L)) := (HV1_3.out.later hb).later (qa1 _ _); have HR1_4 : Hid (RowAt (w4.alloc (.cells #[.int .i64 (K : Int), .int .i64 (r : Int), .slice (some ⟨g4, 0, none⟩) Q Q] 24)) g1 5 L O) := (HR1_3.out.later hb).later (qa1 _ _); have HV2_4 : Hid (Vr (w4.alloc (.cells #[.int .i64 (K : Int), .int .i64 (r : Int), .slice (some ⟨g4, 0, none⟩) Q Q] 24)) w2.heap.size (.int .i64 (c : Int)) (.int .i64 (r : Int)) (.slice (some ⟨g2, 0, none⟩) L L)) := (HV2_3.out.later hb).later (qa1 _ _); have HR2_4 : Hid (RowAt (w4.alloc (.cells #[.int .i64 (K : Int), .int .i64 (r : Int), .slice (some ⟨g4, 0, none⟩) Q Q] 24)) g2 5 L O) := (HR2_3.out.later hb).later (qa1 _ _); have HV3_4 : Hid (Vr (w4.alloc (.cells #[.int .i64 (K : Int), .int .i64 (r : Int), .slice (some ⟨g4, 0, none⟩) Q Q] 24)) w3.heap.size (.int .i64 (K : Int)) (.int .i64 (r : Int)) (.slice (some ⟨g3, 0, none⟩) Q Q)) := (HV3_3.out.later hb).later (qa1 _ _); have HR3_4 : Hid (RowAt (w4.alloc (.cells #[.int .i64 (K : Int), .int .i64 (r : Int), .slice (some ⟨g4, 0, none⟩) Q Q] 24)) g3 5 Q X) := (HR3_3.out.later hb).later (qa1 _ _); have HV4_4 : Hid (Vr (w4.alloc (.cells #[.int .i64 (K : Int), .int .i64 (r : Int), .slice (some ⟨g4, 0, none⟩) Q Q] 24)) w4.heap.size (.int .i64 (K : Int)) (.int .i64 (r : Int)) (.slice (some ⟨g4, 0, none⟩) Q Q)) := Vr.new _ _ _ _; have HR4_4 : Hid (RowAt (w4.alloc (.cells #[.int .i64 (K : Int), .int .i64 (r : Int), .slice (some ⟨g4, 0, none⟩) Q Q] 24)) g4 5 Q X) := hrow4.later (qa1 _ _); have v1_0 := HV1_4.out.c0; have v1_1 := HV1_4.out.c1; have v1_2 := HV1_4.out.c2; have v2_0 := HV2_4.out.c0; have v2_1 := HV2_4.out.c1; have v2_2 := HV2_4.out.c2; have v3_0 := HV3_4.out.c0; have v3_1 := HV3_4.out.c1; have v3_2 := HV3_4.out.c2; have v4_0 := HV4_4.out.c0; have v4_1 := HV4_4.out.c1; have v4_2 := HV4_4.out.c2; clear hb)
  | (go_at_call 9; have _x := HM1; refine (like7 _ c r (some ⟨g1, 0, none⟩) (some ⟨g2, 0, none⟩) L L L O (HR1_4.out.mt HOe.out) (HR2_4.out.mt HOe.out)).mono ?_; rintro e w5 ⟨rfl, hb⟩; have HB5 : Hid (Below w.heap.size w w5) := qa0 HB4.out hb; have HR3_5 := qan (HR3_4.out.later hb); have HR4_5 := qan (HR4_4.out.later hb); have x3_0 := (HV3_4.out.later hb).c0; have x3_1 := (HV3_4.out.later hb).c1; have x3_2 := (HV3_4.out.later hb).c2; have x4_0 := (HV4_4.out.later hb).c0; have x4_1 := (HV4_4.out.later hb).c1; have x4_2 := (HV4_4.out.later hb).c2; clear hb HM1 _x)
  | (go_at_call 9; refine (like7 _ K r (some ⟨g3, 0, none⟩) (some ⟨g4, 0, none⟩) Q Q Q X (HR3_5.out.mt HXe.out) (HR4_5.out.mt HXe.out)).mono ?_; rintro e w6 ⟨rfl, hb⟩; have HB6 : Hid (Below w.heap.size w w6) := qa0 HB5.out hb; clear hb))
 go_ret
 exact ⟨rfl, HB6.out⟩
theorem qi4 {P O O' : Nat → Nat} {c r K q : Nat} (h : ∀ q, q < c * r → O q = O' q) (hq : q < K * r) : prk P O c r c q = prk P O' c r c q := by
 have hr : 0 < r := by
  apply Nat.pos_of_ne_zero
  intro e
  subst e
  omega
 unfold prk
 refine qa7 (fun t ht => ?_)
 rw [h (t * r + q % r) (by
  have h1 := Nat.mod_lt q hr
  have h2 : (t + 1) * r ≤ c * r := Nat.mul_le_mul_right r ht
  rw [Nat.add_mul, Nat.one_mul] at h2
  omega)]
theorem prk_lt18 {P O : Nat → Nat} {c r K q : Nat} (hP : ∀ q, q < K * c → P q < 256) (hq : q < K * r) : prk P O c r c q < 256 := by
 have hr : 0 < r := by
  apply Nat.pos_of_ne_zero
  intro e
  subst e
  omega
 unfold prk
 refine qex (fun t ht => qao _ _ (hP _ ?_))
 have hi : q / r < K := Nat.div_lt_of_lt_mul (by rw [Nat.mul_comm]; exact hq)
 have h2 : (q / r + 1) * c ≤ K * c := Nat.mul_le_mul_right c hi
 rw [Nat.add_mul, Nat.one_mul] at h2
 omega
theorem dec_ex {F : Nat → Nat} {r c n p : Nat} (hF : ∀ i, i < n → F i < 256) (R : Rt r c n) (hcn : cn p r = c) (hf : FreeS (m2 F r c) r p) : ∃ O, DecP F O p r c := by
 have Rc : Rt c c (c * c) := ⟨R.c64, R.c64, rfl⟩
 obtain ⟨A, hA, _, h2⟩ := qkc (qaq (qd6 hF R hcn) Rc) (fun i j _ hj => qac _ hj) (qfo hF R hcn hf)
 exact ⟨_, qi3 (O := fun u => A (u / c) (u % c)) hF R hcn hf (fun u _ => hA _ _) (fun i j hi hj => by
  rw [← h2 i j hi hj]
  refine qal (fun _ _ => rfl) (fun u hu => ?_)
  rw [qag _ hu hj]
  show A ((u * c + j) / c) ((u * c + j) % c) = A u j
  rw [(qes hj).1, (qes hj).2])⟩
/-- Both sides' answers, told by one matrix each. -/
theorem dec_fix {w : World} {r c n k s t p : Nat} {a : Option Addr} {F : Nat → Nat} (ha : Mt w a n k F) (R : Rt r c n) (G : GenP r c n) (hc1 : 1 ≤ c) (hs : s < 2 ^ r) (ht : t < 2 ^ r) (htb : ∀ i, i < r → (bt t i = 1 ↔ ¬ bt s i = 1)) (hp : BaS (m2 F r c) r t p) (hcn : cn p r = c)
  (HS : ∀ w' : World, Below w.heap.size w w' → Calls Tryz.prog 16 #[mv r c a n k, .int .u64 (s : Int)] w' fun e w'' => e = .returned (.tuple #[.int .u64 (p : Int), .bool true, .int .i64 0]) ∧ Below w'.heap.size w' w'') (HEx : ∃ O, DecP F O p r c) : ∃ O, DecP F O p r c ∧
  (∀ w' : World, Below w.heap.size w w' → Calls Tryz.prog 5 #[mv r c a n k, .int .u64 (s : Int)] w' fun e w'' => ∃ g, e = .returned (.tuple #[mv c r (some ⟨g, 0, none⟩) (c * r) (c * r), .bool true, .int .i64 0]) ∧ RowAt w'' g 5 (c * r) O ∧ w'.heap.size ≤ g ∧ Below w'.heap.size w' w'') ∧
  (∀ w' : World, Below w.heap.size w w' → Calls Tryz.prog 6 #[mv r c a n k, .int .u64 (s : Int)] w' fun e w'' => ∃ g, e = .returned (.tuple #[mv c r (some ⟨g, 0, none⟩) (c * r) (c * r), .bool true, .int .i64 0]) ∧ RowAt w'' g 5 (c * r) O ∧ Below w'.heap.size w' w'') := by
 obtain ⟨O, hO⟩ := HEx
 have hM := qaq ha.sl.1 R
 have hfr := (hp.free hM).1
 refine ⟨O, hO, fun w' hb => (qj3 (ha.later hb) R G hs ht htb hp hcn rfl).mono (fun e w'' h => ?_), fun w' hb => (qeu w' r c n k s p (c * r) a F (ha.later hb) R hp.1 hcn hfr hc1 rfl (fun w'' hb2 => HS w'' (qa0 hb hb2))).mono (fun e w'' h => ?_)⟩
 ·obtain ⟨g, X, h1, h2, h3, h4, h5⟩ := h
  exact ⟨g, h1, h2.congr (fun q hq => h4.one ha.sl.1 R hcn hfr hO q hq), h3, h5⟩
 ·obtain ⟨g, X, h1, h2, h3, h4, h5⟩ := h
  exact ⟨g, h1, h2.congr (fun q hq => h4.one ha.sl.1 R hcn hfr hO q hq), h5⟩
theorem qge (w : World) (r c : Int) (n k s : Nat) (a : Option Addr) (F : Nat → Nat) (ha : Mt w a n k F) (hs6 : s < 18446744073709551616) :
  Calls Tryz.prog 3 #[mv r c a n k, .int .u64 (s : Int)] w fun e w' => e = .returned (.bool true) ∧ Below w.heap.size w w' := by
 obtain ⟨v, q, E, h, C⟩ := say_ex w r c n k s a F ha hs6
 cases v with
 | false =>
  have hq : q = 0 := by
   rcases h with ⟨_, _, h, _⟩ | ⟨_, _, _, _, _, _, _, _, h, _⟩ | ⟨_, _, _, _, _, _, _, _, _, _, _, _, _, _, _, _, _, _, h, _⟩
   ·exact h
   ·exact h
   ·exact h
  subst hq
  have hD : ∀ w' : World, Below w.heap.size w w' → Calls Tryz.prog 6 #[mv r c a n k, .int .u64 (s : Int)] w' fun e w'' => e = .returned (.tuple #[mv 0 0 none 0 0, .bool false, .int .i64 E]) ∧ Below w'.heap.size w' w'' := fun w' hb => qj0 w' r c E n k s a (fun w'' hb2 => C.rs w'' (qa0 hb hb2))
  exact qj6 w r c E n k s a (fun w' hb => qj2 (ha.later hb) hs6 h) hD (fun w' hb => qgy (ha.later hb) hs6 h) (fun w' hb => qgx w' r c E n k s a (fun w'' hb2 => hD w'' (qa0 hb hb2)))
 | true =>
  have hE : E = 0 := by
   rcases h with ⟨_, h, _, _⟩ | ⟨_, _, _, _, _, _, _, h, _, _⟩ | ⟨_, _, _, _, _, _, _, _, _, _, _, _, _, _, _, _, _, _, _, h⟩
   ·cases h
   ·cases h
   ·exact h
  subst hE
  obtain ⟨r', c', t, p, rfl, rfl, G, R, hc1, hcr, hs, ht, hta, htb, hp, hk, hle, hb, hq⟩ := h.fine
  have hcn := hb.1 rfl
  have hr := R.r64
  have hM := qaq ha.sl.1 R
  have hfr := (hp.free hM).1
  have hqp : q = p := hq
  subst hqp
  have HEx := dec_ex ha.sl.1 R hcn hfr
  obtain ⟨O, hO, p1, p2⟩ := dec_fix ha R G hc1 hs ht htb hp hcn C.rs HEx
  have hPe : ∀ u, u < cn s r' * c' → pkf F (lf s r') c' u < 256 := fun u hu => qcx ha.sl.1 R (fun i hi => (qae hi).1) u hu
  refine qh0 w r' c' n k s (cn s r') (c' * r') (cn s r' * r') a O (prk (pkf F (lf s r') c') O c' r' c') hO.el (fun u hu => prk_lt18 hPe hu) (fun w' hbl => (p1 w' hbl).mono (fun e w'' h => ?_)) p2 (fun w' hbl => (qgz (ha.later hbl) R G hs ht htb hp hcn rfl).mono (fun e w'' h => ?_)) (fun w' hbl => (qj4 w' r' c' n k s q (c' * r') (cn s r') (cn s r' * r') a F (lf s r') (ha.later hbl) R (Nat.le_trans (qbe r' s) hr) rfl rfl (fun w'' => (qfi s w'' (qb2 hr hs)).mono (fun e w3 hh => ?_)) (fun i hi => (qae hi).1) (fun w'' hb2 => qeu w'' r' c' n k s q (c' * r') a F ((ha.later hbl).later hb2) R hp.1 hcn hfr hc1 rfl (fun w3 hb3 => C.rs w3 (qa0 hbl (qa0 hb2 hb3))))).mono (fun e w'' h => ?_))
  ·obtain ⟨g, h1, h2, _, h4⟩ := h
   exact ⟨g, h1, h2, h4⟩
  ·obtain ⟨g, X, h1, h2, _, ⟨O2, h3, h4⟩, h5⟩ := h
   exact ⟨g, h1, h2.congr (fun u hu => by rw [h4 u hu]; exact qi4 (h3.one ha.sl.1 R hcn hfr hO) hu), h5⟩
  ·obtain ⟨v, he, ho, hbl⟩ := hh
   rw [qbr hr hs] at ho
   have ho2 := ho.congr (fun i _ => qed hr hs i)
   obtain ⟨x, d, rfl, _⟩ := ho2.form
   exact ⟨x, d, he, qdw ho2.jl, hbl⟩
  ·obtain ⟨g, X, h1, h2, ⟨O2, h3, h4⟩, h5⟩ := h
   exact ⟨g, h1, h2.congr (fun u hu => by rw [h4 u hu]; exact qi4 (h3.one ha.sl.1 R hcn hfr hO) hu), h5⟩
end Go.Proofs.YtokdejhbjoglcaaGreat
