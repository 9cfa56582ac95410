/-
  The reference's Recovers and Sources.
  What is said of lost blocks: the program's Recovers and Sources and the reference's answer the same.
-/
import Derived.Test.YtokdejhbjoglcaaQffal00
import Derived.Test.YtokdejhbjoglcaaQffal45
import Derived.Test.YtokdejhbjoglcaaQffal46
set_option maxRecDepth 100000
set_option maxHeartbeats 16000000
namespace Go.Proofs.Ytokdejhbjoglcaa
open Go.RowKit Go.Shelf
theorem qgy (w : World) (r c E : Int) (n k s : Nat) (a : Option Addr) (hE : E ≠ 0)
  (HL : Hid (∀ w' : World, Calls Try.prog 23 #[mv r c a n k, .int .u64 (s : Int)] w' fun e w'' => e = .returned (.tuple #[.int .u64 0, .int .i64 E]) ∧ Below w'.heap.size w' w'')) :
  Calls Try.prog 8 #[mv r c a n k, .int .u64 (s : Int)] w fun e w' => e = .returned (.tuple #[.bool false, .int .i64 E]) ∧ Below w.heap.size w w' := by
 have hE2 : (E == 0) = false := by simpa using hE
 go_enter Try.func8, Try.ntmps8
 go_wp2_with (go_at_call 23; refine (HL.out _).mono ?_; rintro e w1 ⟨rfl, hb⟩; have HB1 : Hid (Below w.heap.size w w1) := qa0 (qa1 _ _) hb; clear hb)
 go_ret2
 exact ⟨rfl, HB1.out⟩
theorem qjo (w : World) (r c n k s t : Nat) (a : Option Addr) (F : Nat → Nat) (b : Bool) (ha : Sl w a n F) (R : Rt r c n) (ht : t < 2 ^ r) (hbb : b = true ↔ RS (m2 F r c) r t c)
  (HL : Hid (∀ w' : World, Calls Try.prog 23 #[mv r c a n k, .int .u64 (s : Int)] w' fun e w'' => e = .returned (.tuple #[.int .u64 (t : Int), .int .i64 0]) ∧ Below w'.heap.size w' w'')) :
  Calls Try.prog 8 #[mv r c a n k, .int .u64 (s : Int)] w fun e w' => e = .returned (.tuple #[.bool b, .int .i64 0]) ∧ Below w.heap.size w w' := by
 have HC : Hid (∀ w' : World, Below w.heap.size w w' → Calls Try.prog 24 #[mv r c a n k, .int .u64 (t : Int)] w' fun e w'' => e = .returned (.tuple #[.bool b, .int .i64 0]) ∧ Below w'.heap.size w' w'') := fun w' hb => (rCov_ok w' r c n k t a F (ha.later hb) R ht).mono (fun e w'' h => by
  obtain ⟨b', he, hb', hl⟩ := h
  rw [qjl hb' hbb] at he
  exact ⟨he, hl⟩)
 clear ha R ht hbb
 go_enter Try.func8, Try.ntmps8
 go_wp2_with (first
  | (go_at_call 23; refine (HL.out _).mono ?_; rintro e w1 ⟨rfl, hb⟩; have HV1 := (Vr.new w (.int .i64 (r : Int)) (.int .i64 (c : Int)) (.slice a n k)).later hb; have v0 := HV1.c0; have v1 := HV1.c1; have v2 := HV1.c2; have HB1 : Hid (Below w.heap.size w w1) := qa0 (qa1 _ _) hb; clear hb HV1)
  | (go_at_call 24; refine (HC.out _ HB1.out).mono ?_; rintro e w2 ⟨rfl, hb⟩; have HB2 : Hid (Below w.heap.size w w2) := qa0 HB1.out hb; clear hb))
 go_ret2
 exact ⟨rfl, HB2.out⟩
theorem qfs (w : World) (r c E : Int) (n k s : Nat) (a : Option Addr)
  (HL : Hid (∀ w' : World, Below w.heap.size w w' → Calls Try.prog 8 #[mv r c a n k, .int .u64 (s : Int)] w' fun e w'' => e = .returned (.tuple #[.bool false, .int .i64 E]) ∧ Below w'.heap.size w' w'')) :
  Calls Try.prog 10 #[mv r c a n k, .int .u64 (s : Int)] w fun e w' => e = .returned (.tuple #[.int .u64 0, .bool false, .int .i64 E]) ∧ Below w.heap.size w w' := by
 go_enter Try.func10, Try.ntmps10
 go_wp2_with (go_at_call 8; refine (HL.out _ (qa1 _ _)).mono ?_; rintro e w1 ⟨rfl, hb⟩; have HB1 : Hid (Below w.heap.size w w1) := qa0 (qa1 _ _) hb; clear hb)
 go_ret3
 exact ⟨rfl, HB1.out⟩
theorem rsrc_yes (w : World) (r c n k s t p : Nat) (a : Option Addr) (F : Nat → Nat) (ha : Sl w a n F) (R : Rt r c n) (ht : t < 2 ^ r) (hp : BaS (m2 F r c) r t p) (hc : RS (m2 F r c) r t c)
  (HL : Hid (∀ w' : World, Calls Try.prog 23 #[mv r c a n k, .int .u64 (s : Int)] w' fun e w'' => e = .returned (.tuple #[.int .u64 (t : Int), .int .i64 0]) ∧ Below w'.heap.size w' w'')) :
  Calls Try.prog 10 #[mv r c a n k, .int .u64 (s : Int)] w fun e w' => e = .returned (.tuple #[.int .u64 (p : Int), .bool true, .int .i64 0]) ∧ Below w.heap.size w w' := by
 have HR : Hid (∀ w' : World, Below w.heap.size w w' → Calls Try.prog 8 #[mv r c a n k, .int .u64 (s : Int)] w' fun e w'' => e = .returned (.tuple #[.bool true, .int .i64 0]) ∧ Below w'.heap.size w' w'') := fun w' hb => qjo w' r c n k s t a F true (ha.later hb) R ht ⟨fun _ => hc, fun _ => rfl⟩ HL
 have HK : Hid (∀ w' : World, Below w.heap.size w w' → Calls Try.prog 27 #[mv r c a n k, .int .u64 (t : Int)] w' fun e w'' => e = .returned (.tuple #[.int .u64 (p : Int), .int .i64 0]) ∧ Below w'.heap.size w' w'') := fun w' hb => (rBase_ok w' r c n k t a F (ha.later hb) R ht).mono (fun e w'' h => by
  obtain ⟨p', he, hp', hl⟩ := h
  rw [hp'.one hp] at he
  exact ⟨he, hl⟩)
 clear ha R ht hp hc
 go_enter Try.func10, Try.ntmps10
 go_wp2_with (first
  | (go_at_call 8; refine (HR.out _ (qa1 _ _)).mono ?_; rintro e w1 ⟨rfl, hb⟩; have HV1 : Hid (Vr w1 w.heap.size (.int .i64 (r : Int)) (.int .i64 (c : Int)) (.slice a n k)) := (Vr.new w (.int .i64 (r : Int)) (.int .i64 (c : Int)) (.slice a n k)).later hb; have v0 := HV1.out.c0; have v1 := HV1.out.c1; have v2 := HV1.out.c2; have HB1 : Hid (Below w.heap.size w w1) := qa0 (qa1 _ _) hb; clear hb)
  | (go_at_call 23; refine (HL.out _).mono ?_; rintro e w2 ⟨rfl, hb⟩; have HV2 : Hid (Vr w2 w.heap.size (.int .i64 (r : Int)) (.int .i64 (c : Int)) (.slice a n k)) := HV1.out.later hb; have v0' := HV2.out.c0; have v1' := HV2.out.c1; have v2' := HV2.out.c2; have HB2 : Hid (Below w.heap.size w w2) := qa0 HB1.out hb; clear hb)
  | (go_at_call 27; refine (HK.out _ HB2.out).mono ?_; rintro e w3 ⟨rfl, hb⟩; have HB3 : Hid (Below w.heap.size w w3) := qa0 HB2.out hb; clear hb))
 go_ret3
 exact ⟨rfl, HB3.out⟩
open Go.RowKit Go.Shelf
/-- A set's rank is at most the number of columns. -/
theorem rs_cols {F : Nat → Nat} {r c n t k : Nat} (hF : ∀ i, i < n → F i < 256) (R : Rt r c n) (h : RS (m2 F r c) r t k) : k ≤ c :=
 Rk.le h (N := dl) (s := c) (qf4 (fun i _ _ => ⟨m2 F r c i, fun j => qan hF R i j, fun j => by
  unfold lc
  by_cases hj : j < c
  ·rw [qaw hj (fun i' _ hne => by rw [qce (Ne.symm hne), qa6]), qb6, qai _ (qan hF R i j)]
  ·rw [qah F (by omega), qab (fun i' hi' => by rw [qce (by omega), qa6])]⟩))
/-- What is said of lost blocks: an error, or whether they are recovered, and the sources. -/
def SayA (F : Nat → Nat) (r c : Int) (n s : Nat) (b : Bool) (q : Nat) (E : Int) : Prop :=
 (¬ GenP r c n ∧ b = false ∧ q = 0 ∧ E = 3) ∨ (∃ r' c' : Nat, r = (r' : Int) ∧ c = (c' : Int) ∧ GenP r c n ∧ Rt r' c' n ∧ ¬ s < 2 ^ r' ∧ b = false ∧ q = 0 ∧ E = 2) ∨
 (∃ r' c' t p : Nat, r = (r' : Int) ∧ c = (c' : Int) ∧ GenP r c n ∧ Rt r' c' n ∧ 1 ≤ c' ∧ c' ≤ r' ∧ s < 2 ^ r' ∧ t < 2 ^ r' ∧ bits .andNot .u64 ((2 ^ r' - 1 : Nat) : Int) (s : Int) = (t : Int) ∧ (∀ i, i < r' → (bt t i = 1 ↔ ¬ bt s i = 1)) ∧ BaS (m2 F r' c') r' t p ∧ RS (m2 F r' c') r' t (cn p r') ∧ cn p r' ≤ c' ∧ (b = true ↔ cn p r' = c') ∧ q = (if b then p else 0) ∧ E = 0)
/-- All four calls answer this. -/
structure SayC (w : World) (r c : Int) (n k s : Nat) (a : Option Addr) (b : Bool) (q : Nat) (E : Int) : Prop where
 vs : (∀ w' : World, Below w.heap.size w w' → Calls Try.prog 9 #[mv r c a n k, .int .u64 (s : Int)] w' fun e w'' => e = .returned (.tuple #[.int .u64 (q : Int), .bool b, .int .i64 E]) ∧ Below w'.heap.size w' w'')
 rs : (∀ w' : World, Below w.heap.size w w' → Calls Try.prog 10 #[mv r c a n k, .int .u64 (s : Int)] w' fun e w'' => e = .returned (.tuple #[.int .u64 (q : Int), .bool b, .int .i64 E]) ∧ Below w'.heap.size w' w'')
 vr : (∀ w' : World, Below w.heap.size w w' → Calls Try.prog 7 #[mv r c a n k, .int .u64 (s : Int)] w' fun e w'' => e = .returned (.tuple #[.bool b, .int .i64 E]) ∧ Below w'.heap.size w' w'')
 rr : (∀ w' : World, Below w.heap.size w w' → Calls Try.prog 8 #[mv r c a n k, .int .u64 (s : Int)] w' fun e w'' => e = .returned (.tuple #[.bool b, .int .i64 E]) ∧ Below w'.heap.size w' w'')
theorem qjp {w : World} {r c : Int} {n k s : Nat} {a : Option Addr} {b : Bool} {q : Nat} {E : Int}
  (h1 : (∀ w' : World, Below w.heap.size w w' → Calls Try.prog 25 #[mv r c a n k, .int .u64 (s : Int), .func (.func 26) #[] #[]] w' fun e w'' => e = .returned (.tuple #[.int .u64 (q : Int), .bool b, .int .i64 E]) ∧ Below w'.heap.size w' w''))
  (h2 : (∀ w' : World, Below w.heap.size w w' → Calls Try.prog 8 #[mv r c a n k, .int .u64 (s : Int)] w' fun e w'' => e = .returned (.tuple #[.bool b, .int .i64 E]) ∧ Below w'.heap.size w' w''))
  (h3 : (∀ w' : World, Below w.heap.size w w' → Calls Try.prog 10 #[mv r c a n k, .int .u64 (s : Int)] w' fun e w'' => e = .returned (.tuple #[.int .u64 (q : Int), .bool b, .int .i64 E]) ∧ Below w'.heap.size w' w'')) : SayC w r c n k s a b q E :=
 have hS : ∀ w' : World, Below w.heap.size w w' → Calls Try.prog 9 #[mv r c a n k, .int .u64 (s : Int)] w' fun e w'' => e = .returned (.tuple #[.int .u64 (q : Int), .bool b, .int .i64 E]) ∧ Below w'.heap.size w' w'' := fun w' hb => vsrc_of w' r c E n k s q a b (fun w'' hb2 => h1 w'' (qa0 hb hb2))
 ⟨hS, h3, fun w' hb => vrec_of w' r c E n k s q a b (fun w'' hb2 => hS w'' (qa0 hb hb2)), h2⟩
theorem say_c {w : World} {r c : Int} {n k s : Nat} {a : Option Addr} {F : Nat → Nat} {b : Bool} {q : Nat} {E : Int} (ha : Mt w a n k F) (hs6 : s < 18446744073709551616) (h : SayA F r c n s b q E) : SayC w r c n k s a b q E := by
 rcases h with ⟨G, rfl, rfl, rfl⟩ | ⟨r', c', rfl, rfl, G, R, hs, rfl, rfl, rfl⟩ | ⟨r', c', t, p, rfl, rfl, G, R, _, _, hs, ht, hta, htb, hp, hk, hle, hbb, rfl, rfl⟩
 ·have HL : Hid (∀ w' : World, Calls Try.prog 23 #[mv r c a n k, .int .u64 (s : Int)] w' fun e w'' => e = .returned (.tuple #[.int .u64 0, .int .i64 3]) ∧ Below w'.heap.size w' w'') := fun w' => qfr w' r c n k s a G
  have hR : ∀ w' : World, Below w.heap.size w w' → Calls Try.prog 8 #[mv r c a n k, .int .u64 (s : Int)] w' fun e w'' => e = .returned (.tuple #[.bool false, .int .i64 3]) ∧ Below w'.heap.size w' w'' := fun w' _ => qgy w' r c 3 n k s a (by decide) HL
  exact qjp (fun w' _ => qjn w' r c n k s a G) hR (fun w' hb => qfs w' r c 3 n k s a (fun w'' hb2 => hR w'' (qa0 hb hb2)))
 ·have HL : Hid (∀ w' : World, Calls Try.prog 23 #[mv r' c' a n k, .int .u64 (s : Int)] w' fun e w'' => e = .returned (.tuple #[.int .u64 0, .int .i64 2]) ∧ Below w'.heap.size w' w'') := fun w' => qjm w' r' c' n k s a G R.r64 hs6 hs
  have hR : ∀ w' : World, Below w.heap.size w w' → Calls Try.prog 8 #[mv r' c' a n k, .int .u64 (s : Int)] w' fun e w'' => e = .returned (.tuple #[.bool false, .int .i64 2]) ∧ Below w'.heap.size w' w'' := fun w' _ => qgy w' r' c' 2 n k s a (by decide) HL
  exact qjp (fun w' _ => vif_arg w' r' c' n k s a G R.r64 hs6 hs) hR (fun w' hb => qfs w' r' c' 2 n k s a (fun w'' hb2 => hR w'' (qa0 hb hb2)))
 ·have hM := qan ha.sl.1 R
  have hcov : RS (m2 F r' c') r' t c' ↔ cn p r' = c' := ⟨fun h => hk.one hM h, fun h => h ▸ hk⟩
  have HL : Hid (∀ w' : World, Calls Try.prog 23 #[mv r' c' a n k, .int .u64 (s : Int)] w' fun e w'' => e = .returned (.tuple #[.int .u64 (t : Int), .int .i64 0]) ∧ Below w'.heap.size w' w'') := fun w' => rleft_ok w' r' c' n k s t a G R.r64 hs hta
  have hR : ∀ w' : World, Below w.heap.size w w' → Calls Try.prog 8 #[mv r' c' a n k, .int .u64 (s : Int)] w' fun e w'' => e = .returned (.tuple #[.bool b, .int .i64 0]) ∧ Below w'.heap.size w' w'' := fun w' hb => qjo w' r' c' n k s t a F b (ha.sl.later hb) R ht (hbb.trans hcov.symm) HL
  refine qjp (fun w' hb => vif_ok w' r' c' n k s t p a F b _ (ha.later hb) R G hs ht htb hp (hbb.trans (by omega)) rfl) hR ?_
  intro w' hb
  cases b with
  | false => exact qfs w' r' c' 0 n k s a (fun w'' hb2 => hR w'' (qa0 hb hb2))
  | true => exact rsrc_yes w' r' c' n k s t p a F (ha.sl.later hb) R ht hp (hcov.2 (hbb.1 rfl)) HL
theorem say_a {r c : Int} {n s : Nat} {F : Nat → Nat} (hF : ∀ i, i < n → F i < 256) : ∃ (b : Bool) (q : Nat) (E : Int), SayA F r c n s b q E := by
 by_cases G : GenP r c n
 ·obtain ⟨r', c', e1, e2, R, hc1, hcr⟩ := G.nat
  subst e1 e2
  by_cases hs : s < 2 ^ r'
  ·obtain ⟨t, hta, ht, htb⟩ := left_num R.r64 hs
   obtain ⟨p, hp⟩ : ∃ p, BaS (m2 F r' c') r' t p := bld_ex _ r'
   have hM := qan hF R
   have hk : RS (m2 F r' c') r' t (cn p r') := Rk.span (hp.free hM).1 (hp.free hM).2
   obtain ⟨b, hbb⟩ : ∃ b : Bool, b = true ↔ cn p r' = c' := ⟨decide (cn p r' = c'), by simp⟩
   exact ⟨b, _, _, .inr (.inr ⟨r', c', t, p, rfl, rfl, G, R, hc1, hcr, hs, ht, hta, htb, hp, hk, rs_cols hF R hk, hbb, rfl, rfl⟩)⟩
  ·exact ⟨_, _, _, .inr (.inl ⟨r', c', rfl, rfl, G, R, hs, rfl, rfl, rfl⟩)⟩
 ·exact ⟨_, _, _, .inl ⟨G, rfl, rfl, rfl⟩⟩
theorem say_ex (w : World) (r c : Int) (n k s : Nat) (a : Option Addr) (F : Nat → Nat) (ha : Mt w a n k F) (hs6 : s < 18446744073709551616) : ∃ (b : Bool) (q : Nat) (E : Int), SayA F r c n s b q E ∧ SayC w r c n k s a b q E := by
 obtain ⟨b, q, E, h⟩ := say_a (r := r) (c := c) (s := s) ha.sl.1
 exact ⟨b, q, E, h, say_c ha hs6 h⟩
end Go.Proofs.Ytokdejhbjoglcaa
