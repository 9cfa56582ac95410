/-
  The checks' own anchor: one verdict and one matrix that the document fixes.
  VerdictFewer: with fewer lost it is recovered too; the sources.
  VerdictGives: applied to the blocks, with anything in the place of the lost ones, Decode's matrix gives the data and Rebuild's the lost blocks.
-/
import Derived.Test.YtokdejhbjoglcaaQgges00
import Derived.Test.YtokdejhbjoglcaaQgges46
import Derived.OrdersHeld
import Derived.Test.YtokdejhbjoglcaaQgges48
set_option maxRecDepth 100000
set_option maxHeartbeats 16000000
namespace Go.Proofs.Ytokdejhbjoglcaa
open Go.RowKit Go.Shelf
/-- The document's three rows. -/
def g3 (i : Nat) : Nat := if i = 0 then 1 else if i = 3 then 1 else if i = 4 then 1 else if i = 5 then 1 else 0
theorem g3_lt (i : Nat) : g3 i < 256 := by
 unfold g3
 repeat' split
 all_goals decide
theorem g3_rt : Rt 3 2 6 := ⟨by decide, by decide, rfl⟩
theorem g3_el : El2 (m2 g3 3 2) := qap (fun i _ => g3_lt i) g3_rt
theorem g3_gen : GenP ((3 : Nat) : Int) ((2 : Nat) : Int) 6 := ⟨⟨by decide, by decide, by decide, by decide, by decide⟩, by decide, by decide⟩
theorem qjv (i : Nat) (hi : i < 3) : bt 6 i = 1 ↔ ¬ bt 1 i = 1 := by
 rcases (by omega : i = 0 ∨ i = 1 ∨ i = 2) with rfl | rfl | rfl <;> decide
theorem qh6 : BaS (m2 g3 3 2) 3 6 6 := by
 refine ⟨by decide, fun i hi => ?_⟩
 rcases (by omega : i = 0 ∨ i = 1 ∨ i = 2) with rfl | rfl | rfl
 ·exact ⟨fun h => absurd h (by decide), fun h => absurd h.1 (by decide)⟩
 ·exact ⟨fun _ => ⟨by decide, fun h => absurd (ss_col (j := 1) h (fun i _ hb => absurd hb (bt0 i))) (by decide)⟩, fun _ => by decide⟩
 ·refine ⟨fun _ => ⟨by decide, fun h => absurd (ss_col (j := 0) h (fun i hi hb => ?_)) (by decide)⟩, fun _ => by decide⟩
  rw [show (6 % 2 ^ 2 : Nat) = 2 ^ 1 from rfl, qbd] at hb
  rw [hb]
  decide
theorem g3_say : SayA g3 ((3 : Nat) : Int) ((2 : Nat) : Int) 6 1 true 6 0 :=
 .inr (.inr ⟨3, 2, 6, 6, rfl, rfl, g3_gen, g3_rt, by decide, by decide, by decide, by decide, by decide, qjv, qh6, Rk.span (qh6.free g3_el).1 (qh6.free g3_el).2, by decide, by decide, rfl, rfl⟩)
/-- The document's matrix. -/
def d3 (i : Nat) : Nat := if i = 1 then 1 else if i = 2 then 1 else if i = 4 then 1 else 0
theorem d3_lt (i : Nat) : d3 i < 256 := by
 unfold d3
 repeat' split
 all_goals decide
theorem g3_dec {O : Nat → Nat} (h : DecP g3 O 6 3 2) : ∀ q, q < 6 → O q = d3 q := by
 have e0 : O 0 = 0 := h.off 0 0 (by decide) (by decide) (by decide)
 have e3 : O 3 = 0 := h.off 1 0 (by decide) (by decide) (by decide)
 have row : ∀ i l, i < 2 → l < 2 → (0 ^^^ fm (O (i * 3 + 0)) (m2 g3 3 2 0 l)) ^^^ fm (O (i * 3 + 1)) (m2 g3 3 2 1 l) ^^^ fm (O (i * 3 + 2)) (m2 g3 3 2 2 l) = dl i l := fun i l hi hl => h.id i l hi hl
 have m00 : m2 g3 3 2 0 0 = 1 := by decide
 have m01 : m2 g3 3 2 0 1 = 0 := by decide
 have m10 : m2 g3 3 2 1 0 = 0 := by decide
 have m11 : m2 g3 3 2 1 1 = 1 := by decide
 have m20 : m2 g3 3 2 2 0 = 1 := by decide
 have m21 : m2 g3 3 2 2 1 = 1 := by decide
 have el : ∀ q, q < 6 → O q < 256 := fun q hq => h.el q (by omega)
 have r00 := row 0 0 (by decide) (by decide)
 have r01 := row 0 1 (by decide) (by decide)
 have r10 := row 1 0 (by decide) (by decide)
 have r11 := row 1 1 (by decide) (by decide)
 rw [m00, m10, m20, qa7, qai _ (el _ (by decide)), qai _ (el _ (by decide))] at r00 r10
 rw [m01, m11, m21, qa7, qai _ (el _ (by decide)), qai _ (el _ (by decide))] at r01 r11
 simp only [Nat.zero_mul, Nat.one_mul, Nat.zero_add, Nat.reduceAdd, Nat.zero_xor, Nat.xor_zero, e0, e3] at r00 r01 r10 r11
 have f2 : O 2 = 1 := r00
 have f5 : O 5 = 0 := r10
 rw [f2] at r01
 rw [f5] at r11
 have f1 : O 1 = 1 := by
  have := congrArg (· ^^^ 1) r01
  simpa [Nat.xor_assoc, dl] using this
 have f4 : O 4 = 1 := by simpa [dl] using r11
 intro q hq
 rcases (by omega : q = 0 ∨ q = 1 ∨ q = 2 ∨ q = 3 ∨ q = 4 ∨ q = 5) with rfl | rfl | rfl | rfl | rfl | rfl
 ·rw [e0]; rfl
 ·rw [f1]; rfl
 ·rw [f2]; rfl
 ·rw [e3]; rfl
 ·rw [f4]; rfl
 ·rw [f5]; rfl
theorem g3_row (w : World) : RowAt (w.alloc (.cells #[.int .u8 1, .int .u8 0, .int .u8 0, .int .u8 1, .int .u8 1, .int .u8 1] 5)) w.heap.size 5 6 g3 := by
 unfold RowAt
 rw [qbk]
 kernel_rfl
theorem d3_row (w : World) : RowAt (w.alloc (.cells #[.int .u8 0, .int .u8 1, .int .u8 1, .int .u8 0, .int .u8 1, .int .u8 0] 5)) w.heap.size 5 6 d3 := by
 unfold RowAt
 rw [qbk]
 kernel_rfl
theorem three18 (w : World) : Calls Try.prog 35 #[] w fun e w' => ∃ g, e = .returned (mv 3 2 (some ⟨g, 0, none⟩) 6 6) ∧ Mt w' (some ⟨g, 0, none⟩) 6 6 g3 ∧ Below w.heap.size w w' := by
 obtain ⟨wb, HW⟩ : ∃ wb, Hid (wb = (w.alloc (.cells #[.int .i64 0, .int .i64 0, .slice none 0 0] 24)).alloc (.cells #[.int .u8 1, .int .u8 0, .int .u8 0, .int .u8 1, .int .u8 1, .int .u8 1] 5)) := ⟨_, rfl⟩
 have HV : Hid (Vr ((w.alloc (.cells #[.int .i64 0, .int .i64 0, .slice none 0 0] 24)).alloc (.cells #[.int .u8 1, .int .u8 0, .int .u8 0, .int .u8 1, .int .u8 1, .int .u8 1] 5)) w.heap.size (.int .i64 0) (.int .i64 0) (.slice none 0 0)) := (Vr.new w _ _ _).later (qa1 _ _)
 have HR : Hid (RowAt wb (w.heap.size + 1) 5 6 g3) := by
  have h := g3_row (w.alloc (.cells #[.int .i64 0, .int .i64 0, .slice none 0 0] 24))
  rw [World.size_alloc] at h
  rw [HW.out]
  exact h
 have HB : Hid (Below w.heap.size w wb) := by rw [HW.out]; exact qa0 (qa1 _ _) (qa1 _ _)
 go_enter Try.func35, Try.ntmps35
 go_wp2_with (refine qa2 rfl _ _ rfl w.heap.size _ _ _ (.int .i64 3) (.int .i64 2) (.slice (some ⟨w.heap.size + 1, 0, none⟩) 6 6) rfl rfl HV.out rfl rfl rfl ?_; intro w7 HV7 HG7)
 have d0 := HV7.out.c0
 have d1 := HV7.out.c1
 have d2 := HV7.out.c2
 refine bodyPost_ret (v := mv 3 2 (some ⟨w.heap.size + 1, 0, none⟩) 6 6) (by simp [results, Try.results35, go_sem, d0, d1, d2, mv]) rfl ?_
 have hg := HG7.out
 rw [← HW.out] at hg
 exact ⟨w.heap.size + 1, rfl, (HR.out.kept hg (by omega)).mt (fun i _ => g3_lt i), qa4 HB.out hg (by omega)⟩
theorem qh7 (w : World) : Calls Try.prog 14 #[] w fun e w' => e = .returned (.bool true) ∧ Below w.heap.size w w' := by
 obtain ⟨f, HF⟩ : ∃ f, Hid (g3 = f) := ⟨_, rfl⟩
 obtain ⟨h, HH⟩ : ∃ h, Hid (d3 = h) := ⟨_, rfl⟩
 have H3 : Hid (∀ w : World, Calls Try.prog 35 #[] w fun e w' => ∃ g, e = .returned (mv 3 2 (some ⟨g, 0, none⟩) 6 6) ∧ Mt w' (some ⟨g, 0, none⟩) 6 6 f ∧ Below w.heap.size w w') := fun w => by rw [← HF.out]; exact three18 w
 have HRc : Hid (∀ (w : World) (a : Option Addr), Mt w a 6 6 f → Calls Try.prog 7 #[mv 3 2 a 6 6, .int .u64 1] w fun e w' => e = .returned (.tuple #[.bool true, .int .i64 0]) ∧ Below w.heap.size w w') := fun w a h => by
  rw [← HF.out] at h
  exact (say_c h (by decide) g3_say).vr w (Below.refl _ _)
 have HDc : Hid (∀ (w : World) (a : Option Addr), Mt w a 6 6 f → Calls Try.prog 11 #[mv 3 2 a 6 6, .int .u64 1] w fun e w' => ∃ g, e = .returned (.tuple #[mv 2 3 (some ⟨g, 0, none⟩) 6 6, .bool true, .int .i64 0]) ∧ Mt w' (some ⟨g, 0, none⟩) 6 6 h ∧ Below w.heap.size w w') := fun w a hm => by
  rw [← HF.out] at hm
  refine (qed (s := 1) (t := 6) (p := 6) (L := 6) hm g3_rt g3_gen (by decide) (by decide) qjv qh6 (by decide) rfl).mono (fun e w' hh => ?_)
  obtain ⟨g, O, he, hr, _, hp, hb⟩ := hh
  refine ⟨g, he, ?_, hb⟩
  rw [← HH.out]
  exact (hr.congr (g3_dec hp)).mt (fun i _ => d3_lt i)
 have HD : Hid (∀ w : World, Mt (w.alloc (.cells #[.int .u8 0, .int .u8 1, .int .u8 1, .int .u8 0, .int .u8 1, .int .u8 0] 5)) (some ⟨w.heap.size, 0, none⟩) 6 6 h) := fun w => by
  rw [← HH.out]
  exact (d3_row w).mt (fun i _ => d3_lt i)
 clear HF HH
 go_enter Try.func14, Try.ntmps14
 go_wp2_with (first
  | (go_at_call 35; have _x := H3; refine (H3.out _).mono ?_; rintro e w1 ⟨g1, rfl, hm1, hb⟩; have HM1 : Hid (Mt w1 (some ⟨g1, 0, none⟩) 6 6 f) := hm1; have HB1 : Hid (Below w.heap.size w w1) := hb; have H3b := H3; clear H3 _x hb hm1)
  | (go_at_call 7; refine (HRc.out _ _ HM1.out).mono ?_; rintro e w2 ⟨rfl, hb⟩; have HB2 : Hid (Below w.heap.size w w2) := qa0 HB1.out hb; clear hb)
  | (go_at_call 35; refine (H3b.out _).mono ?_; rintro e w3 ⟨g3, rfl, hm3, hb⟩; have HM3 : Hid (Mt w3 (some ⟨g3, 0, none⟩) 6 6 f) := hm3; have HB3 : Hid (Below w.heap.size w w3) := qa0 HB2.out hb; clear hb hm3)
  | (go_at_call 11; refine (HDc.out _ _ HM3.out).mono ?_; rintro e w4 ⟨g4, rfl, hm4, hb⟩; have HM4 : Hid (Mt ((w4.alloc (.cells #[.int .i64 2, .int .i64 3, .slice (some ⟨g4, 0, none⟩) 6 6] 24)).alloc (.cells #[.int .u8 0, .int .u8 1, .int .u8 1, .int .u8 0, .int .u8 1, .int .u8 0] 5)) (some ⟨g4, 0, none⟩) 6 6 h) := (hm4.later (qa1 _ _)).later (qa1 _ _); have HD4 : Hid (Mt ((w4.alloc (.cells #[.int .i64 2, .int .i64 3, .slice (some ⟨g4, 0, none⟩) 6 6] 24)).alloc (.cells #[.int .u8 0, .int .u8 1, .int .u8 1, .int .u8 0, .int .u8 1, .int .u8 0] 5)) (some ⟨w4.heap.size + 1, 0, none⟩) 6 6 h) := (by have hq := HD.out (w4.alloc (.cells #[.int .i64 2, .int .i64 3, .slice (some ⟨g4, 0, none⟩) 6 6] 24)); rw [World.size_alloc] at hq; exact hq); have HB4 : Hid (Below w.heap.size w w4) := qa0 HB3.out hb; clear hb hm4)
  | (go_at_call 36; refine (like7 _ 2 3 (some ⟨g4, 0, none⟩) (some ⟨w4.heap.size + 1, 0, none⟩) 6 6 6 h HM4.out HD4.out).mono ?_; rintro e w5 ⟨rfl, hb⟩; have HB5 : Hid (Below w.heap.size w w5) := qa0 (qa0 (qa0 HB4.out (qa1 _ _)) (qa1 _ _)) hb; clear hb))
 go_ret
 exact ⟨rfl, HB5.out⟩
open Go.RowKit Go.Shelf
attribute [local go_sem] Oper.semAt_some
theorem lgen18 (w : World) (r c E : Int) (n k s : Nat) (a : Option Addr) (b g : Bool) (hg : (E == 0) = g)
  (HR : Hid (∀ w' : World, Below w.heap.size w w' → Calls Try.prog 8 #[mv r c a n k, .int .u64 (s : Int)] w' fun e w'' => e = .returned (.tuple #[.bool b, .int .i64 E]) ∧ Below w'.heap.size w' w'')) :
  Calls Try.prog 13 #[mv r c a n k, .int .u64 (s : Int)] w fun e w' => e = .returned (.bool g) ∧ Below w.heap.size w w' := by
 go_enter Try.func13, Try.ntmps13
 go_wp2_with (go_at_call 8; refine (HR.out _ (qa1 _ _)).mono ?_; rintro e w1 ⟨rfl, hb⟩; have HB1 : Hid (Below w.heap.size w w1) := qa0 (qa1 _ _) hb; clear hb)
 go_ret
 exact ⟨by rw [← hg]; rfl, HB1.out⟩
/-- An error's number. -/
theorem SayA.err {F : Nat → Nat} {r c : Int} {n s q : Nat} {b : Bool} {E : Int} (h : SayA F r c n s b q E) (hE : E ≠ 0) : b = false ∧ (E == 0) = false := by
 rcases h with ⟨_, rfl, _, rfl⟩ | ⟨_, _, _, _, _, _, _, rfl, _, rfl⟩ | ⟨_, _, _, _, _, _, _, _, _, _, _, _, _, _, _, _, _, _, _, rfl⟩
 ·exact ⟨rfl, rfl⟩
 ·exact ⟨rfl, rfl⟩
 ·exact absurd rfl hE
/-- No error: all that is known. -/
theorem SayA.fine {F : Nat → Nat} {r c : Int} {n s q : Nat} {b : Bool} (h : SayA F r c n s b q 0) : ∃ r' c' t p : Nat, r = (r' : Int) ∧ c = (c' : Int) ∧ GenP r c n ∧ Rt r' c' n ∧ 1 ≤ c' ∧ c' ≤ r' ∧ s < 2 ^ r' ∧ t < 2 ^ r' ∧ bits .andNot .u64 ((2 ^ r' - 1 : Nat) : Int) (s : Int) = (t : Int) ∧ (∀ i, i < r' → (bt t i = 1 ↔ ¬ bt s i = 1)) ∧ BaS (m2 F r' c') r' t p ∧ RS (m2 F r' c') r' t (cn p r') ∧ cn p r' ≤ c' ∧ (b = true ↔ cn p r' = c') ∧ q = (if b then p else 0) := by
 rcases h with ⟨_, _, _, h0⟩ | ⟨_, _, _, _, _, _, _, _, _, h0⟩ | ⟨r', c', t, p, h1, h2, h3, h4, h5, h6, h7, h8, h9, h10, h11, h12, h13, h14, h15, _⟩
 ·exact absurd h0 (by decide)
 ·exact absurd h0 (by decide)
 ·exact ⟨r', c', t, p, h1, h2, h3, h4, h5, h6, h7, h8, h9, h10, h11, h12, h13, h14, h15⟩
open Go.RowKit Go.Shelf
attribute [local go_sem] Oper.semAt_some
/-- What is read of the sources' blocks alone are the data. -/
theorem qee {F O X v : Nat → Nat} {p r c n : Nat} (hF : ∀ i, i < n → F i < 256) (R : Rt r c n) (hX : ∀ t, t < c → X t < 256) (h : DecP F O p r c) (hv : ∀ j, j < r → bt p j = 1 → v j = apf F X c j) : ∀ i, i < c → apf O v r i = X i := by
 intro i hi
 have hO : El2 (m2 O c r) := qap h.el ⟨R.c64, R.r64, rfl⟩
 have hM := qap hF R
 have e1 : apf O v r i = lc (m2 O c r i) (fun j l => lc (m2 F r c j) (fun t _ => X t) c l) r 0 := by
  unfold apf
  refine qa6 (fun j hj => ?_)
  rw [qam O hi hj]
  by_cases hb : bt p j = 1
  ·rw [hv j hj hb]
   congr 1
   exact qa6 (fun t ht => by rw [qam F hj ht])
  ·rw [h.off i j hi hj hb, qaf, qaf]
 rw [e1, qfs (hO i) hM]
 have e2 : lc (fun t => lc (m2 O c r i) (m2 F r c) r t) (fun t _ => X t) c 0 = xs (fun t => fm (dl i t) (X t)) c := qa6 (fun t ht => by
  have h1 := h.id i t hi ht
  have h2 : lc (m2 O c r i) (m2 F r c) r t = lc (fun j => O (i * r + j)) (m2 F r c) r t := qao (fun j hj => qam O hi hj) (fun _ _ => rfl)
  show fm (lc (m2 O c r i) (m2 F r c) r t) (X t) = _
  rw [h2, h1])
 rw [e2, qb0 hi (fun t _ hne => by rw [qcd hne, qaf]), qb1, qaz _ (hX i hi)]
/-- And the lost blocks. -/
theorem qi3 {F O M X v z : Nat → Nat} {p r c n K : Nat} (hF : ∀ i, i < n → F i < 256) (R : Rt r c n) (hK : K ≤ 64) (hX : ∀ t, t < c → X t < 256) (hz : ∀ i, i < K → z i < r) (h : DecP F O p r c) (hM : ∀ q, q < K * r → M q = prk (pkf F z c) O c r c q) (hv : ∀ j, j < r → bt p j = 1 → v j = apf F X c j) : ∀ i, i < K → apf M v r i = apf F X c (z i) := by
 intro i hi
 have RK : Rt K c (K * c) := ⟨hK, R.c64, rfl⟩
 have hP : El2 (m2 (pkf F z c) K c) := qap (fun q hq => qe7 hF R hz q hq) RK
 have hO : El2 (m2 O c r) := qap h.el ⟨R.c64, R.r64, rfl⟩
 have hat : ∀ j, j < r → i * r + j < K * r := fun j hj => by
  have : (i + 1) * r ≤ K * r := Nat.mul_le_mul_right r hi
  rw [Nat.add_mul, Nat.one_mul] at this
  omega
 have e1 : apf M v r i = lc (fun j => lc (m2 (pkf F z c) K c i) (m2 O c r) c j) (fun j _ => v j) r 0 := by
  unfold apf
  refine qa6 (fun j hj => ?_)
  rw [hM _ (hat j hj)]
  congr 1
  unfold prk lc
  rw [(qh4 hj).1, (qh4 hj).2]
  exact qa6 (fun t ht => by rw [qam _ hi ht, qam O ht hj])
 rw [e1, ← qfs (hP i) hO]
 unfold apf
 refine qa6 (fun t ht => ?_)
 rw [qam _ hi ht, qc8 F z c i t ht]
 congr 1
 rw [← qee hF R hX h hv t ht]
 unfold apf
 exact qa6 (fun j hj => by rw [qam O ht hj])
theorem ob_form {w : World} {B n : Nat} {v : Value} {f : Nat → Nat} (h : Ob w B v n f) : ∃ s d, v = .slice s n d := by
 rcases h.2 with ⟨e, h0⟩ | ⟨g, cap, cur, e, _⟩
 ·exact ⟨none, 0, by rw [e, h0]⟩
 ·exact ⟨_, _, e⟩
/-- What holds while the lost blocks are gathered and spoilt: those below j are. -/
structure GvI (w3 w4 W : World) (gy r s j : Nat) (Y : Nat → Nat) (v : Value) : Prop where
 row : RowAt W gy 5 r (fun q => if q < j ∧ bt s q = 1 then (q * 37 + 11) % 256 else Y q)
 own : Ob W w4.heap.size v (cn s j) (fun t => Y (lf s r t))
 low : Below w3.heap.size w3 W
 size : w4.heap.size ≤ W.heap.size
theorem GvI.skip {w3 w4 W : World} {gy r s j : Nat} {Y : Nat → Nat} {v : Value} (I : GvI w3 w4 W gy r s j Y v) (h : ¬ bt s j = 1) : GvI w3 w4 W gy r s (j + 1) Y v := by
 have hb := qcw s j
 refine ⟨I.row.congr (fun q _ => ?_), ?_, I.low, I.size⟩
 ·by_cases e : q = j
  ·subst e
   rw [if_neg (fun hh => h hh.2), if_neg (fun hh => h hh.2)]
  ·by_cases hq : q < j ∧ bt s q = 1
   ·rw [if_pos hq, if_pos ⟨by omega, hq.2⟩]
   ·rw [if_neg hq, if_neg (fun hh => hq ⟨by omega, hh.2⟩)]
 ·rw [qak, show bt s j = 0 by omega]
  exact I.own
theorem gv_step {s j r v : Nat} {Y : Nat → Nat} (h : bt s j = 1) (hv : (j * 37 + 11) % 256 = v) (q : Nat) : (if q = j then v else (if q < j ∧ bt s q = 1 then (q * 37 + 11) % 256 else Y q)) = (if q < j + 1 ∧ bt s q = 1 then (q * 37 + 11) % 256 else Y q) := by
 have _ := r
 by_cases e : q = j
 ·subst e
  rw [if_pos rfl, if_pos ⟨by omega, h⟩, hv]
 ·rw [if_neg e]
  by_cases hq : q < j ∧ bt s q = 1
  ·rw [if_pos hq, if_pos ⟨by omega, hq.2⟩]
  ·rw [if_neg hq, if_neg (fun hh => hq ⟨by omega, hh.2⟩)]
end Go.Proofs.Ytokdejhbjoglcaa
