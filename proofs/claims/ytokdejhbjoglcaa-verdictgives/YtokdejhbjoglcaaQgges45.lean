/-
  The reference's Recovers and Sources.
  What is said of lost blocks: the program's Recovers and Sources and the reference's answer the same.
  The matrix that makes the data of the sources: it is told by what it makes.
  The program's verdict.decoder.
-/
import Derived.Test.YtokdejhbjoglcaaQgges00
import Derived.Test.YtokdejhbjoglcaaQgges43
import Derived.Test.YtokdejhbjoglcaaQgges44
import Derived.Test.YtokdejhbjoglcaaQgges36
set_option maxRecDepth 100000
set_option maxHeartbeats 16000000
namespace Go.Proofs.Ytokdejhbjoglcaa
open Go.RowKit Go.Shelf
theorem qh3 (w : World) (r c E : Int) (n k s : Nat) (a : Option Addr) (hE : E ≠ 0)
  (HL : Hid (∀ w' : World, Calls Try.prog 23 #[mv r c a n k, .int .u64 (s : Int)] w' fun e w'' => e = .returned (.tuple #[.int .u64 0, .int .i64 E]) ∧ Below w'.heap.size w' w'')) :
  Calls Try.prog 8 #[mv r c a n k, .int .u64 (s : Int)] w fun e w' => e = .returned (.tuple #[.bool false, .int .i64 E]) ∧ Below w.heap.size w w' := by
 have hE2 : (E == 0) = false := by simpa using hE
 go_enter Try.func8, Try.ntmps8
 go_wp2_with (go_at_call 23; refine (HL.out _).mono ?_; rintro e w1 ⟨rfl, hb⟩; have HB1 : Hid (Below w.heap.size w w1) := qa0 (qa1 _ _) hb; clear hb)
 go_ret2
 exact ⟨rfl, HB1.out⟩
theorem qjs (w : World) (r c n k s t : Nat) (a : Option Addr) (F : Nat → Nat) (b : Bool) (ha : Sl w a n F) (R : Rt r c n) (ht : t < 2 ^ r) (hbb : b = true ↔ RS (m2 F r c) r t c)
  (HL : Hid (∀ w' : World, Calls Try.prog 23 #[mv r c a n k, .int .u64 (s : Int)] w' fun e w'' => e = .returned (.tuple #[.int .u64 (t : Int), .int .i64 0]) ∧ Below w'.heap.size w' w'')) :
  Calls Try.prog 8 #[mv r c a n k, .int .u64 (s : Int)] w fun e w' => e = .returned (.tuple #[.bool b, .int .i64 0]) ∧ Below w.heap.size w w' := by
 have HC : Hid (∀ w' : World, Below w.heap.size w w' → Calls Try.prog 24 #[mv r c a n k, .int .u64 (t : Int)] w' fun e w'' => e = .returned (.tuple #[.bool b, .int .i64 0]) ∧ Below w'.heap.size w' w'') := fun w' hb => (rCov_ok w' r c n k t a F (ha.later hb) R ht).mono (fun e w'' h => by
  obtain ⟨b', he, hb', hl⟩ := h
  rw [qjo hb' hbb] at he
  exact ⟨he, hl⟩)
 clear ha R ht hbb
 go_enter Try.func8, Try.ntmps8
 go_wp2_with (first
  | (go_at_call 23; refine (HL.out _).mono ?_; rintro e w1 ⟨rfl, hb⟩; have HV1 := (Vr.new w (.int .i64 (r : Int)) (.int .i64 (c : Int)) (.slice a n k)).later hb; have v0 := HV1.c0; have v1 := HV1.c1; have v2 := HV1.c2; have HB1 : Hid (Below w.heap.size w w1) := qa0 (qa1 _ _) hb; clear hb HV1)
  | (go_at_call 24; refine (HC.out _ HB1.out).mono ?_; rintro e w2 ⟨rfl, hb⟩; have HB2 : Hid (Below w.heap.size w w2) := qa0 HB1.out hb; clear hb))
 go_ret2
 exact ⟨rfl, HB2.out⟩
theorem qg2 (w : World) (r c E : Int) (n k s : Nat) (a : Option Addr)
  (HL : Hid (∀ w' : World, Below w.heap.size w w' → Calls Try.prog 8 #[mv r c a n k, .int .u64 (s : Int)] w' fun e w'' => e = .returned (.tuple #[.bool false, .int .i64 E]) ∧ Below w'.heap.size w' w'')) :
  Calls Try.prog 10 #[mv r c a n k, .int .u64 (s : Int)] w fun e w' => e = .returned (.tuple #[.int .u64 0, .bool false, .int .i64 E]) ∧ Below w.heap.size w w' := by
 go_enter Try.func10, Try.ntmps10
 go_wp2_with (go_at_call 8; refine (HL.out _ (qa1 _ _)).mono ?_; rintro e w1 ⟨rfl, hb⟩; have HB1 : Hid (Below w.heap.size w w1) := qa0 (qa1 _ _) hb; clear hb)
 go_ret3
 exact ⟨rfl, HB1.out⟩
theorem rsrc_yes (w : World) (r c n k s t p : Nat) (a : Option Addr) (F : Nat → Nat) (ha : Sl w a n F) (R : Rt r c n) (ht : t < 2 ^ r) (hp : BaS (m2 F r c) r t p) (hc : RS (m2 F r c) r t c)
  (HL : Hid (∀ w' : World, Calls Try.prog 23 #[mv r c a n k, .int .u64 (s : Int)] w' fun e w'' => e = .returned (.tuple #[.int .u64 (t : Int), .int .i64 0]) ∧ Below w'.heap.size w' w'')) :
  Calls Try.prog 10 #[mv r c a n k, .int .u64 (s : Int)] w fun e w' => e = .returned (.tuple #[.int .u64 (p : Int), .bool true, .int .i64 0]) ∧ Below w.heap.size w w' := by
 have HR : Hid (∀ w' : World, Below w.heap.size w w' → Calls Try.prog 8 #[mv r c a n k, .int .u64 (s : Int)] w' fun e w'' => e = .returned (.tuple #[.bool true, .int .i64 0]) ∧ Below w'.heap.size w' w'') := fun w' hb => qjs w' r c n k s t a F true (ha.later hb) R ht ⟨fun _ => hc, fun _ => rfl⟩ HL
 have HK : Hid (∀ w' : World, Below w.heap.size w w' → Calls Try.prog 27 #[mv r c a n k, .int .u64 (t : Int)] w' fun e w'' => e = .returned (.tuple #[.int .u64 (p : Int), .int .i64 0]) ∧ Below w'.heap.size w' w'') := fun w' hb => (rBase_ok w' r c n k t a F (ha.later hb) R ht).mono (fun e w'' h => by
  obtain ⟨p', he, hp', hl⟩ := h
  rw [hp'.one hp] at he
  exact ⟨he, hl⟩)
 clear ha R ht hp hc
 go_enter Try.func10, Try.ntmps10
 go_wp2_with (first
  | (go_at_call 8; refine (HR.out _ (qa1 _ _)).mono ?_; rintro e w1 ⟨rfl, hb⟩; have HV1 : Hid (Vr w1 w.heap.size (.int .i64 (r : Int)) (.int .i64 (c : Int)) (.slice a n k)) := (Vr.new w (.int .i64 (r : Int)) (.int .i64 (c : Int)) (.slice a n k)).later hb; have v0 := HV1.out.c0; have v1 := HV1.out.c1; have v2 := HV1.out.c2; have HB1 : Hid (Below w.heap.size w w1) := qa0 (qa1 _ _) hb; clear hb)
  | (go_at_call 23; refine (HL.out _).mono ?_; rintro e w2 ⟨rfl, hb⟩; have HV2 : Hid (Vr w2 w.heap.size (.int .i64 (r : Int)) (.int .i64 (c : Int)) (.slice a n k)) := HV1.out.later hb; have v0' := HV2.out.c0; have v1' := HV2.out.c1; have v2' := HV2.out.c2; have HB2 : Hid (Below w.heap.size w w2) := qa0 HB1.out hb; clear hb)
  | (go_at_call 27; refine (HK.out _ HB2.out).mono ?_; rintro e w3 ⟨rfl, hb⟩; have HB3 : Hid (Below w.heap.size w w3) := qa0 HB2.out hb; clear hb))
 go_ret3
 exact ⟨rfl, HB3.out⟩
open Go.RowKit Go.Shelf
/-- A set's rank is at most the number of columns. -/
theorem rs_cols {F : Nat → Nat} {r c n t k : Nat} (hF : ∀ i, i < n → F i < 256) (R : Rt r c n) (h : RS (m2 F r c) r t k) : k ≤ c :=
 Rk.le h (N := dl) (s := c) (qfg (fun i _ _ => ⟨m2 F r c i, fun j => qap hF R i j, fun j => by
  unfold lc
  by_cases hj : j < c
  ·rw [qb0 hj (fun i' _ hne => by rw [qcd (Ne.symm hne), qa7]), qb1, qai _ (qap hF R i j)]
  ·rw [qal F (by omega), qad (fun i' hi' => by rw [qcd (by omega), qa7])]⟩))
/-- What is said of lost blocks: an error, or whether they are recovered, and the sources. -/
def SayA (F : Nat → Nat) (r c : Int) (n s : Nat) (b : Bool) (q : Nat) (E : Int) : Prop :=
 (¬ GenP r c n ∧ b = false ∧ q = 0 ∧ E = 3) ∨ (∃ r' c' : Nat, r = (r' : Int) ∧ c = (c' : Int) ∧ GenP r c n ∧ Rt r' c' n ∧ ¬ s < 2 ^ r' ∧ b = false ∧ q = 0 ∧ E = 2) ∨
 (∃ r' c' t p : Nat, r = (r' : Int) ∧ c = (c' : Int) ∧ GenP r c n ∧ Rt r' c' n ∧ 1 ≤ c' ∧ c' ≤ r' ∧ s < 2 ^ r' ∧ t < 2 ^ r' ∧ bits .andNot .u64 ((2 ^ r' - 1 : Nat) : Int) (s : Int) = (t : Int) ∧ (∀ i, i < r' → (bt t i = 1 ↔ ¬ bt s i = 1)) ∧ BaS (m2 F r' c') r' t p ∧ RS (m2 F r' c') r' t (cn p r') ∧ cn p r' ≤ c' ∧ (b = true ↔ cn p r' = c') ∧ q = (if b then p else 0) ∧ E = 0)
/-- All four calls answer this. -/
structure SayC (w : World) (r c : Int) (n k s : Nat) (a : Option Addr) (b : Bool) (q : Nat) (E : Int) : Prop where
 vs : (∀ w' : World, Below w.heap.size w w' → Calls Try.prog 9 #[mv r c a n k, .int .u64 (s : Int)] w' fun e w'' => e = .returned (.tuple #[.int .u64 (q : Int), .bool b, .int .i64 E]) ∧ Below w'.heap.size w' w'')
 rs : (∀ w' : World, Below w.heap.size w w' → Calls Try.prog 10 #[mv r c a n k, .int .u64 (s : Int)] w' fun e w'' => e = .returned (.tuple #[.int .u64 (q : Int), .bool b, .int .i64 E]) ∧ Below w'.heap.size w' w'')
 vr : (∀ w' : World, Below w.heap.size w w' → Calls Try.prog 7 #[mv r c a n k, .int .u64 (s : Int)] w' fun e w'' => e = .returned (.tuple #[.bool b, .int .i64 E]) ∧ Below w'.heap.size w' w'')
 rr : (∀ w' : World, Below w.heap.size w w' → Calls Try.prog 8 #[mv r c a n k, .int .u64 (s : Int)] w' fun e w'' => e = .returned (.tuple #[.bool b, .int .i64 E]) ∧ Below w'.heap.size w' w'')
theorem qjt {w : World} {r c : Int} {n k s : Nat} {a : Option Addr} {b : Bool} {q : Nat} {E : Int}
  (h1 : (∀ w' : World, Below w.heap.size w w' → Calls Try.prog 25 #[mv r c a n k, .int .u64 (s : Int), .func (.func 26) #[] #[]] w' fun e w'' => e = .returned (.tuple #[.int .u64 (q : Int), .bool b, .int .i64 E]) ∧ Below w'.heap.size w' w''))
  (h2 : (∀ w' : World, Below w.heap.size w w' → Calls Try.prog 8 #[mv r c a n k, .int .u64 (s : Int)] w' fun e w'' => e = .returned (.tuple #[.bool b, .int .i64 E]) ∧ Below w'.heap.size w' w''))
  (h3 : (∀ w' : World, Below w.heap.size w w' → Calls Try.prog 10 #[mv r c a n k, .int .u64 (s : Int)] w' fun e w'' => e = .returned (.tuple #[.int .u64 (q : Int), .bool b, .int .i64 E]) ∧ Below w'.heap.size w' w'')) : SayC w r c n k s a b q E :=
 have hS : ∀ w' : World, Below w.heap.size w w' → Calls Try.prog 9 #[mv r c a n k, .int .u64 (s : Int)] w' fun e w'' => e = .returned (.tuple #[.int .u64 (q : Int), .bool b, .int .i64 E]) ∧ Below w'.heap.size w' w'' := fun w' hb => vsrc_of w' r c E n k s q a b (fun w'' hb2 => h1 w'' (qa0 hb hb2))
 ⟨hS, h3, fun w' hb => vrec_of w' r c E n k s q a b (fun w'' hb2 => hS w'' (qa0 hb hb2)), h2⟩
theorem say_c {w : World} {r c : Int} {n k s : Nat} {a : Option Addr} {F : Nat → Nat} {b : Bool} {q : Nat} {E : Int} (ha : Mt w a n k F) (hs6 : s < 18446744073709551616) (h : SayA F r c n s b q E) : SayC w r c n k s a b q E := by
 rcases h with ⟨G, rfl, rfl, rfl⟩ | ⟨r', c', rfl, rfl, G, R, hs, rfl, rfl, rfl⟩ | ⟨r', c', t, p, rfl, rfl, G, R, _, _, hs, ht, hta, htb, hp, hk, hle, hbb, rfl, rfl⟩
 ·have HL : Hid (∀ w' : World, Calls Try.prog 23 #[mv r c a n k, .int .u64 (s : Int)] w' fun e w'' => e = .returned (.tuple #[.int .u64 0, .int .i64 3]) ∧ Below w'.heap.size w' w'') := fun w' => qg1 w' r c n k s a G
  have hR : ∀ w' : World, Below w.heap.size w w' → Calls Try.prog 8 #[mv r c a n k, .int .u64 (s : Int)] w' fun e w'' => e = .returned (.tuple #[.bool false, .int .i64 3]) ∧ Below w'.heap.size w' w'' := fun w' _ => qh3 w' r c 3 n k s a (by decide) HL
  exact qjt (fun w' _ => qjr w' r c n k s a G) hR (fun w' hb => qg2 w' r c 3 n k s a (fun w'' hb2 => hR w'' (qa0 hb hb2)))
 ·have HL : Hid (∀ w' : World, Calls Try.prog 23 #[mv r' c' a n k, .int .u64 (s : Int)] w' fun e w'' => e = .returned (.tuple #[.int .u64 0, .int .i64 2]) ∧ Below w'.heap.size w' w'') := fun w' => qjq w' r' c' n k s a G R.r64 hs6 hs
  have hR : ∀ w' : World, Below w.heap.size w w' → Calls Try.prog 8 #[mv r' c' a n k, .int .u64 (s : Int)] w' fun e w'' => e = .returned (.tuple #[.bool false, .int .i64 2]) ∧ Below w'.heap.size w' w'' := fun w' _ => qh3 w' r' c' 2 n k s a (by decide) HL
  exact qjt (fun w' _ => vif_arg w' r' c' n k s a G R.r64 hs6 hs) hR (fun w' hb => qg2 w' r' c' 2 n k s a (fun w'' hb2 => hR w'' (qa0 hb hb2)))
 ·have hM := qap ha.sl.1 R
  have hcov : RS (m2 F r' c') r' t c' ↔ cn p r' = c' := ⟨fun h => hk.one hM h, fun h => h ▸ hk⟩
  have HL : Hid (∀ w' : World, Calls Try.prog 23 #[mv r' c' a n k, .int .u64 (s : Int)] w' fun e w'' => e = .returned (.tuple #[.int .u64 (t : Int), .int .i64 0]) ∧ Below w'.heap.size w' w'') := fun w' => rleft_ok w' r' c' n k s t a G R.r64 hs hta
  have hR : ∀ w' : World, Below w.heap.size w w' → Calls Try.prog 8 #[mv r' c' a n k, .int .u64 (s : Int)] w' fun e w'' => e = .returned (.tuple #[.bool b, .int .i64 0]) ∧ Below w'.heap.size w' w'' := fun w' hb => qjs w' r' c' n k s t a F b (ha.sl.later hb) R ht (hbb.trans hcov.symm) HL
  refine qjt (fun w' hb => vif_ok w' r' c' n k s t p a F b _ (ha.later hb) R G hs ht htb hp (hbb.trans (by omega)) rfl) hR ?_
  intro w' hb
  cases b with
  | false => exact qg2 w' r' c' 0 n k s a (fun w'' hb2 => hR w'' (qa0 hb hb2))
  | true => exact rsrc_yes w' r' c' n k s t p a F (ha.sl.later hb) R ht hp (hcov.2 (hbb.1 rfl)) HL
theorem say_a {r c : Int} {n s : Nat} {F : Nat → Nat} (hF : ∀ i, i < n → F i < 256) : ∃ (b : Bool) (q : Nat) (E : Int), SayA F r c n s b q E := by
 by_cases G : GenP r c n
 ·obtain ⟨r', c', e1, e2, R, hc1, hcr⟩ := G.nat
  subst e1 e2
  by_cases hs : s < 2 ^ r'
  ·obtain ⟨t, hta, ht, htb⟩ := left_num R.r64 hs
   obtain ⟨p, hp⟩ : ∃ p, BaS (m2 F r' c') r' t p := bld_ex _ r'
   have hM := qap hF R
   have hk : RS (m2 F r' c') r' t (cn p r') := Rk.span (hp.free hM).1 (hp.free hM).2
   obtain ⟨b, hbb⟩ : ∃ b : Bool, b = true ↔ cn p r' = c' := ⟨decide (cn p r' = c'), by simp⟩
   exact ⟨b, _, _, .inr (.inr ⟨r', c', t, p, rfl, rfl, G, R, hc1, hcr, hs, ht, hta, htb, hp, hk, rs_cols hF R hk, hbb, rfl, rfl⟩)⟩
  ·exact ⟨_, _, _, .inr (.inl ⟨r', c', rfl, rfl, G, R, hs, rfl, rfl, rfl⟩)⟩
 ·exact ⟨_, _, _, .inl ⟨G, rfl, rfl, rfl⟩⟩
theorem say_ex (w : World) (r c : Int) (n k s : Nat) (a : Option Addr) (F : Nat → Nat) (ha : Mt w a n k F) (hs6 : s < 18446744073709551616) : ∃ (b : Bool) (q : Nat) (E : Int), SayA F r c n s b q E ∧ SayC w r c n k s a b q E := by
 obtain ⟨b, q, E, h⟩ := say_a (r := r) (c := c) (s := s) ha.sl.1
 exact ⟨b, q, E, h, say_c ha hs6 h⟩
open Go.RowKit Go.Shelf
/-- D (c rows, r columns) reads the blocks of p alone, and its product with the generator is the identity. -/
structure DecP (F D : Nat → Nat) (p r c : Nat) : Prop where
 el : ∀ q, q < c * r → D q < 256
 off : ∀ i j, i < c → j < r → ¬ bt p j = 1 → D (i * r + j) = 0
 id : ∀ i l, i < c → l < c → lc (fun j => D (i * r + j)) (m2 F r c) r l = dl i l
theorem qh4 {i j r : Nat} (hj : j < r) : (i * r + j) / r = i ∧ (i * r + j) % r = j := by
 rw [Nat.mul_comm i r]
 exact ⟨by rw [Nat.mul_add_div (by omega), Nat.div_eq_of_lt hj, Nat.add_zero], by rw [Nat.mul_add_mod, Nat.mod_eq_of_lt hj]⟩
/-- The rows of a free set, picked. -/
theorem qju {F : Nat → Nat} {r c n p : Nat} (hF : ∀ i, i < n → F i < 256) (R : Rt r c n) (hcn : cn p r = c) (hf : FreeS (m2 F r c) r p) : Rk (m2 (pkf F (lf p r) c) c c) c c := by
 have h := (qfz (qap hF R)).2 hf
 rw [hcn] at h
 refine h.at (fun i j hi => ?_)
 by_cases hj : j < c
 ·rw [qam _ hi hj, qc8 F _ c i j hj, qam F (qab (by omega)).1 hj]
 ·rw [qal _ (by omega), qal _ (by omega)]
theorem qh5 {F : Nat → Nat} {r c n p : Nat} (hF : ∀ i, i < n → F i < 256) (R : Rt r c n) (hcn : cn p r = c) : ∀ q, q < c * c → pkf F (lf p r) c q < 256 := fun q hq => by
 have hc : 0 < c := by
  apply Nat.pos_of_ne_zero
  intro h
  subst h
  omega
 have h1 : q / c < c := Nat.div_lt_of_lt_mul hq
 have h2 := (qab (s := p) (i := r) (t := q / c) (by omega)).1
 exact hF _ (R.at h2 (Nat.mod_lt _ hc))
theorem dec_math {F O : Nat → Nat} {r c n p : Nat} (hF : ∀ i, i < n → F i < 256) (R : Rt r c n) (hcn : cn p r = c) (hf : FreeS (m2 F r c) r p)
  (hO : ∀ q, q < c * c → O q < 256) (hinv : ∀ i j, i < c → j < c → pr (m2 (pkf F (lf p r) c) c c) (m2 O c c) c i j = dl i j) : DecP F (prk O (pkf (idf r) (lf p r) r) c r c) p r c := by
 have Rc : Rt c c (c * c) := ⟨R.c64, R.c64, rfl⟩
 have hPe := qap (qh5 hF R hcn) Rc
 have hOe := qap hO Rc
 obtain ⟨A, hA, h1, h2⟩ := inv_ex hPe (fun i j _ hj => qal _ hj) (qju hF R hcn hf)
 have hsame := inv_same hA hPe hOe h1 hinv
 have hleft : ∀ i j, i < c → j < c → pr (m2 O c c) (m2 (pkf F (lf p r) c) c c) c i j = dl i j := fun i j hi hj => by
  rw [← h1 i j hi hj]
  exact qao (fun t ht => (hsame i t hi ht).symm) (fun _ _ => rfl)
 have hD : ∀ i j, i < c → j < r → prk O (pkf (idf r) (lf p r) r) c r c (i * r + j) = lc (m2 O c c i) (fun t => dl (lf p r t)) c j := fun i j hi hj => by
  unfold prk lc
  rw [(qh4 hj).1, (qh4 hj).2]
  refine qa6 (fun t ht => ?_)
  rw [qam O hi ht, qc8 _ _ r t j hj, idf_at r _ j (qab (by omega)).1 hj]
  congr 1
  show _ = dl (lf p r t) j
  unfold dl
  by_cases e : lf p r t = j
  ·rw [if_pos e, if_pos e.symm]
  ·rw [if_neg e, if_neg (fun h => e h.symm)]
 refine ⟨fun q hq => ?_, fun i j hi hj hb => ?_, fun i l hi hl => ?_⟩
 ·have hr : 0 < r := by
   apply Nat.pos_of_ne_zero
   intro h
   subst h
   omega
  have hi : q / r < c := Nat.div_lt_of_lt_mul (by rw [Nat.mul_comm]; exact hq)
  have h := hD (q / r) (q % r) hi (Nat.mod_lt _ hr)
  rw [show q / r * r + q % r = q by rw [Nat.mul_comm]; exact Nat.div_add_mod q r] at h
  rw [h]
  exact lc_lt (fun t => hOe _ t) _ _ _
 ·rw [hD i j hi hj]
  exact qad (fun t ht => by show fm _ (dl (lf p r t) j) = 0; rw [qcd (fun e => hb (by rw [e]; exact (qab (by omega)).2.1)), qa7])
 ·have e1 : lc (fun j => prk O (pkf (idf r) (lf p r) r) c r c (i * r + j)) (m2 F r c) r l = lc (fun j => lc (m2 O c c i) (fun t => dl (lf p r t)) c j) (m2 F r c) r l := qao (fun j hj => hD i j hi hj) (fun _ _ => rfl)
  rw [e1, ← qfs (hOe i) (fun t => qf3 _), ← hleft i l hi hl]
  refine qao (fun _ _ => rfl) (fun t ht => ?_)
  rw [lc_dl (qap hF R) (qab (by omega)).1, qam _ ht hl, qc8 _ _ c t l hl, qam F (qab (by omega)).1 hl]
open Go.RowKit Go.Shelf
theorem qdz (w : World) (r c n k p L : Nat) (a : Option Addr) (F : Nat → Nat) (ha : Mt w a n k F) (R : Rt r c n) (hp6 : p < 2 ^ r) (hcn : cn p r = c) (hf : FreeS (m2 F r c) r p) (HL : Hid (c * r = L)) :
  Calls Try.prog 30 #[mv r c a n k, .int .u64 (p : Int)] w fun e w' => ∃ g D, e = .returned (mv c r (some ⟨g, 0, none⟩) L L) ∧ RowAt w' g 5 L D ∧ w.heap.size ≤ g ∧ DecP F D p r c ∧ Below w.heap.size w w' := by
 obtain ⟨wb, HW, HX⟩ : ∃ wb, Hid (wb = (w.alloc (.cells #[.int .i64 (r : Int), .int .i64 (c : Int), .slice a n k] 24)).alloc (.cells #[.int .i64 0, .int .i64 0, .slice none 0 0] 24)) ∧ Hid (Box2 w wb r c n k a) := ⟨_, rfl, box2 w r c n k a⟩
 have HA : Hid (Mt w a n k F) := ha
 have HR : Hid (Rt r c n) := R
 have hr := R.r64
 have hc := R.c64
 obtain ⟨m, HMm⟩ : ∃ m, Hid (r * r = m) := ⟨_, rfl⟩
 obtain ⟨N, HN⟩ : ∃ N, Hid (c * c = N) := ⟨_, rfl⟩
 have RN : Hid (Rt c c N) := ⟨hc, hc, HN.out⟩
 have Rm : Hid (Rt r r m) := ⟨hr, hr, HMm.out⟩
 have RL : Hid (Rt c r L) := ⟨hc, hr, HL.out⟩
 obtain ⟨z, HLs, Hz, HPe, HRk, HDm⟩ : ∃ z : Nat → Nat, Hid (∀ w' : World, Calls Try.prog 33 #[.int .u64 (p : Int)] w' fun e w'' => ∃ x d, e = .returned (.slice x c d) ∧ Il w'' x c (fun i => (z i : Int)) ∧ Below w'.heap.size w' w'') ∧ Hid (∀ i, i < c → z i < r) ∧ Hid (∀ q, q < N → pkf F z c q < 256) ∧ Hid (Rk (m2 (pkf F z c) c c) c c) ∧ Hid (∀ O, (∀ q, q < N → O q < 256) → (∀ i j, i < c → j < c → pr (m2 (pkf F z c) c c) (m2 O c c) c i j = dl i j) → DecP F (prk O (pkf (idf r) z r) c r c) p r c) := by
  refine ⟨lf p r, qf0 (qay hr hp6) (by rw [qcb hr hp6, hcn]) (fun i _ => qff hr hp6 i), fun i hi => (qab (by omega)).1, ?_, qju ha.sl.1 R hcn hf, ?_⟩
  ·rw [← HN.out]; exact qh5 ha.sl.1 R hcn
  ·rw [← HN.out]; exact fun O hO h => dec_math ha.sl.1 R hcn hf hO h
 have HIe : Hid (∀ q, q < m → idf r q < 256) := fun q _ => by unfold idf; split <;> decide
 have HIp : Hid (∀ q, q < L → pkf (idf r) z r q < 256) := fun q _ => by unfold pkf idf; split <;> decide
 have hwb : w.heap.size + 1 < wb.heap.size := HX.out.vr.lt
 clear ha R hp6 hcn hf
 go_enter Try.func30, Try.ntmps30
 go_wp2_with (first
  | (go_at_call 33; rw [← HW.out]; refine (HLs.out _).mono ?_; rintro e w1 ⟨x, d, rfl, hi1, hb1⟩; have HB1 : Hid (Below wb.heap.size wb w1) := hb1; have HI1 : Hid (Il w1 x c (fun i => (z i : Int))) := hi1; have a0 := (HX.out.va.later hb1).c0; have a1 := (HX.out.va.later hb1).c1; have a2 := (HX.out.va.later hb1).c2; clear hi1 hb1)
  | (go_at_call 32; have _x := HI1; refine (qby _ r c n k c d N a x F z (HA.out.later (qa0 HX.out.below HB1.out)) HR.out HI1.out Hz.out hc HN).mono ?_; rintro e w2 ⟨g2, rfl, hr2, _, hb2⟩; have HB2 : Hid (Below wb.heap.size wb w2) := qa0 HB1.out hb2; have HM2 : Hid (Mt w2 (some ⟨g2, 0, none⟩) N N (pkf F z c)) := hr2.mt HPe.out; have HI2 : Hid (Il w2 x c (fun i => (z i : Int))) := HI1.out.later hb2; clear _x HI1 hr2 hb2)
  | (go_at_call 50; refine (ginv_ok _ c N N (some ⟨g2, 0, none⟩) (pkf F z c) (HM2.out.later (qa1 _ _)) RN.out HRk.out).mono ?_; rintro e w3 ⟨s3, d3, O, rfl, hm3, hinv3, hb3⟩; have HB3 : Hid (Below wb.heap.size wb w3) := qa0 (qa0 HB2.out (qa1 _ _)) hb3; have HO3 : Hid (DecP F (prk O (pkf (idf r) z r) c r c) p r c) := HDm.out O hm3.sl.1 hinv3; have HM3 : Hid (Mt w3 s3 N d3 O) := hm3; have HI3 : Hid (Il w3 x c (fun i => (z i : Int))) := (HI2.out.later (qa1 _ _)).later hb3; have b0 := ((HX.out.va.later HB3.out).later (qa1 w3 (.cells #[.int .i64 (c : Int), .int .i64 (c : Int), .slice s3 N d3] 24))).c0; have HV3 : Hid (Vr (w3.alloc (.cells #[.int .i64 (c : Int), .int .i64 (c : Int), .slice s3 N d3] 24)) w3.heap.size (.int .i64 (c : Int)) (.int .i64 (c : Int)) (.slice s3 N d3)) := Vr.new w3 _ _ _; clear hm3 hinv3 hb3 HI2)
  | (go_at_call 51; refine (qfb _ r m hr HMm).mono ?_; rintro e w4 ⟨g4, rfl, hr4, _, hb4⟩; have HB4 : Hid (Below wb.heap.size wb w4) := qa0 (qa0 HB3.out (qa1 _ _)) hb4; have HM4 : Hid (Mt w4 (some ⟨g4, 0, none⟩) m m (idf r)) := hr4.mt HIe.out; have HM43 : Hid (Mt w4 s3 N d3 O) := (HM3.out.later (qa1 _ _)).later hb4; have HI4 : Hid (Il w4 x c (fun i => (z i : Int))) := (HI3.out.later (qa1 _ _)).later hb4; have HV4 : Hid (Vr w4 w3.heap.size (.int .i64 (c : Int)) (.int .i64 (c : Int)) (.slice s3 N d3)) := HV3.out.later hb4; clear hr4 hb4 HI3)
  | (go_at_call 32; refine (qby _ r r m m c d L (some ⟨g4, 0, none⟩) x (idf r) z (HM4.out.later (qa1 _ _)) Rm.out (HI4.out.later (qa1 _ _)) Hz.out hc HL).mono ?_; rintro e w5 ⟨g5, rfl, hr5, _, hb5⟩; have HB5 : Hid (Below wb.heap.size wb w5) := qa0 (qa0 HB4.out (qa1 _ _)) hb5; have HM5 : Hid (Mt w5 (some ⟨g5, 0, none⟩) L L (pkf (idf r) z r)) := hr5.mt HIp.out; have HM53 : Hid (Mt w5 s3 N d3 O) := (HM43.out.later (qa1 _ _)).later hb5; have HV5 : Hid (Vr w5 w3.heap.size (.int .i64 (c : Int)) (.int .i64 (c : Int)) (.slice s3 N d3)) := (HV4.out.later (qa1 _ _)).later hb5; have HV6 : Hid (Vr (w5.alloc (.cells #[.int .i64 (c : Int), .int .i64 (r : Int), .slice (some ⟨g5, 0, none⟩) L L] 24)) w3.heap.size (.int .i64 (c : Int)) (.int .i64 (c : Int)) (.slice s3 N d3)) := HV5.out.later (qa1 _ _); have y0 := HV6.out.c0; have y1 := HV6.out.c1; have y2 := HV6.out.c2; clear hr5 hb5)
  | (go_at_call 34; refine (qes _ c c r N L L d3 L s3 (some ⟨g5, 0, none⟩) O (pkf (idf r) z r) (HM53.out.later (qa1 _ _)) (HM5.out.later (qa1 _ _)) RN.out RL.out RL.out).mono ?_; rintro e w6 ⟨g6, rfl, hr6, hg6, hb6⟩; have HB6 : Hid (Below wb.heap.size wb w6) := qa0 (qa0 HB5.out (qa1 _ _)) hb6; have HR6 : Hid (RowAt w6 g6 5 L (prk O (pkf (idf r) z r) c r c)) := hr6; have hgb : wb.heap.size ≤ g6 := (by have h1 := (qa0 HB5.out (qa1 w5 (.cells #[.int .i64 (c : Int), .int .i64 (r : Int), .slice (some ⟨g5, 0, none⟩) L L] 24))).size; exact Nat.le_trans h1 hg6); clear hr6 hg6 hb6)
  | (refine qa2 rfl _ _ rfl (w.heap.size + 1) _ _ _ (.int .i64 (c : Int)) (.int .i64 (r : Int)) (.slice (some ⟨g6, 0, none⟩) L L) rfl rfl (HX.out.vr.later (qa0 HB6.out (qa1 _ _))) rfl rfl rfl ?_; intro w7 HV7 HG7))
 have d0 := HV7.out.c0
 have d1 := HV7.out.c1
 have d2 := HV7.out.c2
 refine bodyPost_ret (v := mv c r (some ⟨g6, 0, none⟩) L L) (by simp [results, Try.results30, go_sem, d0, d1, d2, mv]) rfl ?_
 exact ⟨g6, _, rfl, (HR6.out.later (qa1 _ _)).kept HG7.out (by omega), by omega, HO3.out, qa4 (qa0 HX.out.below (qa0 HB6.out (qa1 _ _))) HG7.out (by omega)⟩
end Go.Proofs.Ytokdejhbjoglcaa
