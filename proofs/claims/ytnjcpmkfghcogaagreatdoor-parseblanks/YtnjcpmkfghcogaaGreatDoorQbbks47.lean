/-
  Layer 11's anchor: the mathematics.
-/
import Derived.Test.YtnjcpmkfghcogaaGreatDoorQbbks00
import Derived.Test.YtnjcpmkfghcogaaGreatDoorQbbks44
import Derived.Test.YtnjcpmkfghcogaaGreatDoorQbbks46
set_option maxRecDepth 100000
set_option maxHeartbeats 16000000
namespace Go.Proofs.YtnjcpmkfghcogaaGreatDoor
open Go.RowKit
def an11 : ByteArray := ⟨#[49, 32, 45, 32, 50, 32, 45, 32, 51]⟩
def anK (i : Nat) : TV := if i = 0 then ⟨3, ⟨#[]⟩, 1, 0, 0⟩ else if i = 2 then ⟨3, ⟨#[]⟩, 2, 0, 0⟩ else if i = 4 then ⟨3, ⟨#[]⟩, 3, 0, 0⟩ else ⟨4, ⟨#[45]⟩, 0, 0, 0⟩
def anL : List Tk := [⟨3, 0, 1, 1⟩, ⟨4, 2, 3, 0⟩, ⟨3, 4, 5, 2⟩, ⟨4, 6, 7, 0⟩, ⟨3, 8, 9, 3⟩]
theorem an_may : ∀ i, i < 5 → mayB (anK i) = true := by decide
theorem an_jn : jn anK 5 = an11 := by kernel_rfl
theorem an_tkl : tkl anK 0 5 = anL := by kernel_rfl
theorem an_cut : CutA an11 anL 0 0 := by
 have h := join_cut (K := anK) (n := 5) an_may
 rw [an_jn, an_tkl] at h
 exact .inr ⟨by decide, h⟩
def anB (q : Rd Xt) : Bool := match q with
 | .ok (y, []) => mayX y && (xtext 16 y).data.toList == [40, 32, 40, 32, 49, 32, 45, 32, 50, 32, 41, 32, 45, 32, 51, 32, 41]
 | _ => false
theorem an_b : anB (pX (tks an11 anL)) = true := by kernel_rfl
theorem an_read : ∃ y, pX (tks an11 anL) = .ok (y, []) ∧ mayX y = true ∧ xtext 16 y = ⟨#[40, 32, 40, 32, 49, 32, 45, 32, 50, 32, 41, 32, 45, 32, 51, 32, 41]⟩ := by
 have h := an_b
 cases hq : pX (tks an11 anL) with
 | error r => rw [hq] at h; cases h
 | ok p =>
  obtain ⟨y, r⟩ := p
  rw [hq] at h
  cases r with
  | cons t r => cases h
  | nil =>
   have h2 : (mayX y && (xtext 16 y).data.toList == [40, 32, 40, 32, 49, 32, 45, 32, 50, 32, 41, 32, 45, 32, 51, 32, 41]) = true := h
   rw [Bool.and_eq_true] at h2
   refine ⟨y, rfl, h2.1, ?_⟩
   have h3 := eq_of_beq h2.2
   cases hx : xtext 16 y with
   | mk d =>
    rw [hx] at h3
    cases d with
    | mk l => cases h3; rfl
theorem qid (w : World) (h9 : Tab9 w) (he : Ev9 w) : Calls Tryz.prog 14 #[] w fun e w' => e = .returned (.bool true) ∧ Below w.heap.size w w' := by
 obtain ⟨y, hq, hm, hx⟩ := an_read
 have HE : Hid (Calls Tryz.prog 15 #[.string ⟨#[49, 32, 45, 32, 50, 32, 45, 32, 51]⟩] w fun e w' => (∃ v, e = .returned (.tuple #[v, .agg #[.int .i64 0, .int .i64 0, .int .i64 0]]) ∧ Fr w.heap.size w' (fun u => XV u v y)) ∧ Below w.heap.size w w') := (pE_any w an11 anL 0 0 an_cut he).mono (fun e w' h => by
  rw [hq] at h
  have h2 : if mayX y = true then _ else _ := h.2
  rw [if_pos hm] at h2
  exact ⟨h2, h.1⟩)
 have HM := qa0 hm
 have HXt := qa0 hx
 have H9 := qa0 h9
 clear hq hm hx h9 he
 go_enter Tryz.func14, Tryz.ntmps14
 go_wp2_with (first
  | (go_at_call 15; refine HE.out.mono ?_; rintro e w3 ⟨⟨v, rfl, hfr⟩, hb3⟩; obtain ⟨xa, xc, rfl, _⟩ := hfr.now.form; have HFr := qa0 hfr; clear hfr; have z3 := hb3.size; have HB3 := qa0 hb3; have hz3 : (w3.alloc (.cells #[.int .u8 0, .int .i64 0, .string ⟨#[]⟩, .slice none 0 0, .int .i64 0, .int .i64 0] 37)).heap.size = w3.heap.size + 1 := Array.size_push _; have hb34 : Below w3.heap.size w3 ((w3.alloc (.cells #[.int .u8 0, .int .i64 0, .string ⟨#[]⟩, .slice none 0 0, .int .i64 0, .int .i64 0] 37)).alloc (.cells #[.int .i64 0, .int .i64 0, .int .i64 0] 25)) := jtwo (jlow _ _) (jlow _ _); have HX4 : Hid (Vn ((w3.alloc (.cells #[.int .u8 0, .int .i64 0, .string ⟨#[]⟩, .slice none 0 0, .int .i64 0, .int .i64 0] 37)).alloc (.cells #[.int .i64 0, .int .i64 0, .int .i64 0] 25)) w3.heap.size 37 #[.int .u8 0, .int .i64 0, .string ⟨#[]⟩, .slice none 0 0, .int .i64 0, .int .i64 0]) := (Vn.new w3 37 #[.int .u8 0, .int .i64 0, .string ⟨#[]⟩, .slice none 0 0, .int .i64 0, .int .i64 0]).later (jlow _ _); have HY4 : Hid (Vn ((w3.alloc (.cells #[.int .u8 0, .int .i64 0, .string ⟨#[]⟩, .slice none 0 0, .int .i64 0, .int .i64 0] 37)).alloc (.cells #[.int .i64 0, .int .i64 0, .int .i64 0] 25)) (w3.heap.size + 1) 25 #[.int .i64 0, .int .i64 0, .int .i64 0]) := (by have h := Vn.new (w3.alloc (.cells #[.int .u8 0, .int .i64 0, .string ⟨#[]⟩, .slice none 0 0, .int .i64 0, .int .i64 0] 37)) 25 #[.int .i64 0, .int .i64 0, .int .i64 0]; rw [hz3] at h; exact h); have HB34 := qa0 hb34; clear hb3 hz3 hb34)
  | (refine qa1 rfl 37 _ _ rfl w3.heap.size _ #[.int .u8 ((y []).k : Int), .int .i64 (y []).n, .string (y []).nm, .slice xa (y []).len xc, .int .i64 (y []).ln, .int .i64 (y []).cl] rfl rfl HX4.out qej rfl (all6 rfl rfl rfl rfl rfl rfl) ?_; intro w5 HX5 hg5; have HY5 := qa0 (HY4.out.keptG hg5.out (by simp)); have HB35 : Hid (Below w3.heap.size w3 w5) := HB34.out.trans (jbelow hg5.out HB34.out.size (fun g e => by cases e; exact Nat.le_refl _)); clear hg5)
  | (refine qa1 rfl 25 _ _ rfl (w3.heap.size + 1) _ #[.int .i64 0, .int .i64 0, .int .i64 0] rfl rfl HY5.out qa5 rfl (qab rfl rfl rfl) ?_; intro w6 HY6 hg6; have HX6 := qa0 (HX5.out.keptG hg6.out (by simp)); have HB36 : Hid (Below w3.heap.size w3 w6) := HB35.out.trans (jbelow hg6.out HB35.out.size (fun g e => by cases e; omega)); have HB6 := qa0 (HB3.out.trans (HB36.out.mono (by omega))); have y0 := HY6.out.cell 0 _ rfl; have y1 := HY6.out.cell 1 _ rfl; have y2 := HY6.out.cell 2 _ rfl; have x0 := HX6.out.cell 0 _ rfl; have x1 := HX6.out.cell 1 _ rfl; have x2 := HX6.out.cell 2 _ rfl; have x3 := HX6.out.cell 3 _ rfl; have x4 := HX6.out.cell 4 _ rfl; have x5 := HX6.out.cell 5 _ rfl; clear hg6)
  | (go_at_call 37; refine (qj3 w6 y _ (HFr.out.step (Ag.of HB36.out)).now).mono ?_; rw [HM.out]; rintro e w7 ⟨rfl, hb7⟩; have z7 := hb7.size; have HX7 := qa0 (HX6.out.later hb7); have HB7 := qa0 (HB6.out.trans (hb7.mono (by have := HB6.out.size; omega))); have HB67 := qa0 hb7; have u0 := HX7.out.cell 0 _ rfl; have u1 := HX7.out.cell 1 _ rfl; have u2 := HX7.out.cell 2 _ rfl; have u3 := HX7.out.cell 3 _ rfl; have u4 := HX7.out.cell 4 _ rfl; have u5 := HX7.out.cell 5 _ rfl; clear hb7)
  | (go_at_call 26; refine (qic 16 w7 y _ (by omega) (HFr.out.step ((Ag.of HB36.out).trans (Ag.of HB67.out))).now (mayX_mx HM.out) (H9.out.later HB7.out)).mono ?_; rw [HXt.out]; rintro e w8 ⟨rfl, hb8⟩; have HB8 := qa0 (HB7.out.trans (hb8.mono (by have := HB7.out.size; omega))); clear hb8))
 go_ret
 exact ⟨rfl, HB8.out⟩
end Go.Proofs.YtnjcpmkfghcogaaGreatDoor
