/-
  Proved: for all bytes b what the program's ReadNum and Read read is written by Num and Write as the bytes that were read (P8.5); no condition.
-/
import Derived.Test.YtlfmekjkgegclabHq
import Derived.WalkKit
import Derived.SizedLaws
import Derived.ProofKit
import Derived.OpenShut
import Derived.ShutString
import Derived.ChangeOld
import Derived.Below
import Derived.Lib.SmallJoins
import Derived.Deep.Matrix
namespace Go.Proofs.Ytlfmekjkgegclab.wireForms
open Go.ChangeShapes Go.WideShapes Go.ChangeAt Go.RowKit Go.Joins
set_option linter.unusedVariables false
theorem own : ownKnob Try.prog.godebug = none := by kernel_rfl
theorem laidOut : laidOutB Try.prog = true := by kernel_rfl
/-- A slice of integers that came in. -/
def IsRow (k : IntKind) (w : World) (a : Option Addr) (len cap : Nat) (zs : List Int) : Prop :=
  (a = none ∧ len = 0 ∧ cap = 0 ∧ zs = []) ∨
  ∃ x, a = some x ∧ len ≤ cap ∧ cap ≤ 140737488351232 ∧ zs.length = cap ∧ (∀ i, i < zs.length → w.cell? (x.add i) = some (.int k (zs.getD i 0))) ∧ ∀ n ∈ zs, (Lit.int k n).wf = true
/-- A slice of slices of bytes that came in. -/
def IsRows (w : World) (a : Option Addr) (len cap : Nat) : Prop :=
  (a = none ∧ len = 0 ∧ cap = 0) ∨
  ∃ x, a = some x ∧ len ≤ cap ∧ cap ≤ 140737488351232 ∧ ∀ r, r < cap → ∃ b l c zs, w.cell? (x.add r) = some (.slice b l c) ∧ IsRow .u8 w b l c zs
theorem sized_in {H : Type} {P : Program} {ts : List TypeId} {ds : List (DataW H)} (h : (DataW.weightsEach P ts ds).all (· ≤ reachBytes) = true) {j : Nat} {t : TypeId} {d : DataW H} (ht : ts[j]? = some t) (hd : ds[j]? = some d) : (d.weights P t).all (· ≤ reachBytes) = true :=
  List.all_eq_true.2 fun n hn => List.all_eq_true.1 h n (DataW.weights_mem_each ht hd n hn)
theorem sized_all {H : Type} {P : Program} {e : TypeId} : ∀ {ds : List (DataW H)}, (DataW.weightsAll P e ds).all (· ≤ reachBytes) = true → ∀ d ∈ ds, (d.weights P e).all (· ≤ reachBytes) = true
  | [], _, d, hd => by simp at hd
  | d0 :: r, h, d, hd => by
    simp only [DataW.weightsAll, List.all_append, Bool.and_eq_true] at h
    rcases List.mem_cons.1 hd with rfl | hd
    · exact h.1
    · exact sized_all h.2 d hd

set_option maxRecDepth 20000 in
set_option maxHeartbeats 4000000 in
theorem walk (a0 : Option Addr) (len0 cap0 : Nat) (z0 : List Int) (w : World) (w0 : IsRow .u8 w a0 len0 cap0 z0) :
    Calls Try.prog 3 #[.slice a0 len0 cap0] w fun e w' => e = .returned (.bool true) ∧ Below w.heap.size w w' := by
  obtain ⟨f, hb0, hn0⟩ := bt_of_row w a0 len0 cap0 z0 w0
  have hroom := hb0.room
  have HF : Hid (∀ w' : World, Below w.heap.size w w' → Bt w' a0 len0 cap0 f) := fun w' hb => hb0.later hb
  have hf8 := hb0.sl.1
  rcases rn_cases f len0 with ⟨v, s, hr⟩ | ⟨E, hE, hr⟩
  · have H1 : Hid (∀ w' : World, Below w.heap.size w w' → Calls Try.prog 8 #[.slice a0 len0 cap0] w' fun e w'' => e = .returned (.tuple #[.int .i64 (v : Int), .int .i64 (s : Int), .int .i64 0]) ∧ Below w'.heap.size w' w'') := fun w' hb => wrn w' a0 len0 cap0 v s 0 f (hb0.later hb) hn0 (.inl ⟨rfl, hr⟩)
    obtain ⟨hnf, hby⟩ := hr.nf hf8
    have hs1 := hr.s1
    have hs2 := hr.fits
    have hv63 : v < 9223372036854775808 := by
      have h1 := v7_lt f s
      have h2 : 128 ^ s ≤ 128 ^ 9 := Nat.pow_le_pow_right (by decide) hr.s9
      have h3 : (128 : Nat) ^ 9 = 9223372036854775808 := by decide
      rw [hr.val]
      omega
    have H2 : Hid (∀ w' : World, Calls Try.prog 9 #[.int .i64 (v : Int)] w' fun e w'' => LsP w' w'' e s (nby v) 0) := fun w' => wnum_ok w' v s hv63 hnf
    have HE1 : Hid (∀ i, i < s → nby v i = f i) := fun i hi => (hby i hi).symm
    have d1 : decide ((s : Int) < 1) = false := decide_eq_false (by omega)
    have d2 : decide ((len0 : Int) < (s : Int)) = false := decide_eq_false (by omega)
    clear hr hnf hby
    rcases rd_ex f len0 with ⟨v2, s2, hd⟩ | ⟨E2, hd⟩
    · obtain ⟨t, HT⟩ : ∃ t, Hid (1 + (s2 + v2) + 4 = t) := ⟨_, rfl⟩
      obtain ⟨tag, HTag⟩ : ∃ t, Hid (f 0 = t) := ⟨_, rfl⟩
      obtain ⟨g, HG⟩ : ∃ g : Nat → Nat, Hid ((fun j => f (1 + (s2 + j))) = g) := ⟨_, rfl⟩
      obtain ⟨L, HL⟩ : ∃ L, Hid (v2 = L) := ⟨_, rfl⟩
      obtain ⟨h, HH⟩ : ∃ h : Nat → Nat, Hid (chf (f 0) (fun j => f (1 + (s2 + j))) v2 s2 = h) := ⟨_, rfl⟩
      have hfit := hd.fits
      have hsm := hd.small
      have hs21 := hd.num.s1
      have H3 : Hid (∀ w' : World, Below w.heap.size w w' → Calls Try.prog 11 #[.slice a0 len0 cap0] w' fun e w'' => CnP w' w'' e tag L g (t : Int) 0) := fun w' hb => by
        have := wrd_ok w' a0 len0 cap0 v2 s2 f (hb0.later hb) hn0 hd
        rw [HT.out, HTag.out, HG.out, HL.out] at this
        exact this
      have H4 : Hid (∀ (w' : World) (x : Option Addr) (d : Nat), Bt w' x L d g → Calls Try.prog 12 #[.agg #[.int .u8 (tag : Int), .slice x L d]] w' fun e w'' => LsP w' w'' e t h 0) := fun w' x d hx => by
        have := wwrite_ok w' (f 0) v2 d s2 x (fun j => f (1 + (s2 + j))) (hf8 0 (by omega)) (by rw [HG.out, HL.out]; exact hx) hsm (hd.nf hf8)
        rw [HT.out, HH.out, HTag.out, HL.out] at this
        exact this
      have HE2 : Hid (∀ i, i < t → h i = f i) := fun i hi => by rw [← HH.out]; exact chf_read hf8 hd i (by rw [HT.out]; exact hi)
      rw [HT.out] at hfit
      have ht2 : t ≤ len0 := hfit
      have ht6 : 6 ≤ t := by have := HT.out; omega
      have d3 : decide ((t : Int) < 6) = false := decide_eq_false (by omega)
      have d4 : decide ((len0 : Int) < (t : Int)) = false := decide_eq_false (by omega)
      clear hd
      clear hb0 hn0 w0 hf8
      go_enter Try.func3, Try.ntmps3
      go_wp2_with (first
        | (go_at_call 13; have _x := HB6; refine (anch8_any _).mono ?_; rintro e w7 ⟨rfl, hb⟩; have HB7 : Hid (Below w.heap.size w w7) := jtwo HB6.out hb; have HK2_7 : Hid (Bt w7 s2 s d2 (nby v)) := HK2_6.out.later hb; have HK4_7 : Hid (Bt w7 s4 L d4 g) := HK4_6.out.later hb; have HK5_7 : Hid (Bt w7 s5 t d5 h) := HK5_6.out.later hb; have HC4_7 : Hid (Vc w7 w4.heap.size (.int .u8 (tag : Int)) (.slice s4 L d4)) := HC4_5.out.later hb; have c0HC4_7 := HC4_7.out.c0; have c1HC4_7 := HC4_7.out.c1; clear hb)
        | (go_at_call 10; have _x := HB5; refine (same8 _ _ _ t _ _ h f HK5_5.out ((HF.out _ HB5.out).pre ht2) HE2.out).mono ?_; rintro e w6 ⟨rfl, rfl⟩; have HB6 : Hid (Below w.heap.size w w5) := HB5.out; have HK2_6 : Hid (Bt w5 s2 s d2 (nby v)) := HK2_5.out; have HK4_6 : Hid (Bt w5 s4 L d4 g) := HK4_5.out; have HK5_6 : Hid (Bt w5 s5 t d5 h) := HK5_5.out; skip)
        | (go_at_call 12; have _x := HB4; refine (H4.out _ _ _ HK4_4.out).mono ?_; rintro e w5 ⟨s5, d5, rfl, hk, hb⟩; have HB5 : Hid (Below w.heap.size w w5) := jtwo HB4.out hb; have HK2_5 : Hid (Bt w5 s2 s d2 (nby v)) := HK2_4.out.later hb; have HK4_5 : Hid (Bt w5 s4 L d4 g) := HK4_4.out.later hb; have HC4_5 : Hid (Vc w5 w4.heap.size (.int .u8 (tag : Int)) (.slice s4 L d4)) := HC4_4.out.later hb; have c0HC4_5 := HC4_5.out.c0; have c1HC4_5 := HC4_5.out.c1; have HK5_5 : Hid (Bt w5 s5 t d5 h) := hk; clear hk hb)
        | (go_at_call 11; have _x := HB3; refine (H3.out _ HB3.out).mono ?_; rintro e w4 ⟨s4, d4, rfl, hk, hb⟩; have hb0 := hb; replace hb := jtwo hb (jlow _ (.cells #[.int .u8 (tag : Int), .slice s4 L d4] 30)); have HB4 : Hid (Below w.heap.size w (w4.alloc (.cells #[.int .u8 (tag : Int), .slice s4 L d4] 30))) := jtwo HB3.out hb; have HK2_4 : Hid (Bt (w4.alloc (.cells #[.int .u8 (tag : Int), .slice s4 L d4] 30)) s2 s d2 (nby v)) := HK2_3.out.later hb; have HC4_4 : Hid (Vc (w4.alloc (.cells #[.int .u8 (tag : Int), .slice s4 L d4] 30)) w4.heap.size (.int .u8 (tag : Int)) (.slice s4 L d4)) := Vc.new _ _ _; have c0HC4_4 := HC4_4.out.c0; have c1HC4_4 := HC4_4.out.c1; have HK4_4 : Hid (Bt (w4.alloc (.cells #[.int .u8 (tag : Int), .slice s4 L d4] 30)) s4 L d4 g) := hk.later (jlow _ _); clear hk hb)
        | (go_at_call 10; have _x := HB2; refine (same8 _ _ _ s _ _ (nby v) f HK2_2.out ((HF.out _ HB2.out).pre hs2) HE1.out).mono ?_; rintro e w3 ⟨rfl, rfl⟩; have HB3 : Hid (Below w.heap.size w w2) := HB2.out; have HK2_3 : Hid (Bt w2 s2 s d2 (nby v)) := HK2_2.out; skip)
        | (go_at_call 9; have _x := HB1; refine (H2.out _).mono ?_; rintro e w2 ⟨s2, d2, rfl, hk, hb⟩; have HB2 : Hid (Below w.heap.size w w2) := jtwo HB1.out hb; have HK2_2 : Hid (Bt w2 s2 s d2 (nby v)) := hk; clear hk hb)
        | (go_at_call 8; refine (H1.out _ (Below.refl _ _)).mono ?_; rintro e w1 ⟨rfl, hb⟩; have HB1 : Hid (Below w.heap.size w w1) := jtwo (Below.refl _ _) hb; clear hb))
      go_ret
      exact ⟨rfl, HB7.out⟩
    · obtain ⟨g, HG⟩ : ∃ g : Nat → Nat, Hid (g = fun _ => 0) := ⟨_, rfl⟩
      have hE2 : ((E2 : Int) == 0) = false := by have := hd.ne; simp; omega
      have H3 : Hid (∀ w' : World, Below w.heap.size w w' → Calls Try.prog 11 #[.slice a0 len0 cap0] w' fun e w'' => CnP w' w'' e 0 0 g 0 (E2 : Int)) := fun w' hb => by
        rw [HG.out]
        exact wrd_bad w' a0 len0 cap0 E2 f (hb0.later hb) hn0 hd
      clear hd
      clear hb0 hn0 w0 hf8
      go_enter Try.func3, Try.ntmps3
      go_wp2_with (first
        | (go_at_call 13; have _x := HB4; refine (anch8_any _).mono ?_; rintro e w5 ⟨rfl, hb⟩; have HB5 : Hid (Below w.heap.size w w5) := jtwo HB4.out hb; have HK2_5 : Hid (Bt w5 s2 s d2 (nby v)) := HK2_4.out.later hb; have HK4_5 : Hid (Bt w5 s4 0 d4 g) := HK4_4.out.later hb; have HC4_5 : Hid (Vc w5 w4.heap.size (.int .u8 (0 : Nat)) (.slice s4 0 d4)) := HC4_4.out.later hb; have c0HC4_5 := HC4_5.out.c0; have c1HC4_5 := HC4_5.out.c1; clear hb)
        | (go_at_call 11; have _x := HB3; refine (H3.out _ HB3.out).mono ?_; rintro e w4 ⟨s4, d4, rfl, hk, hb⟩; have hb0 := hb; replace hb := jtwo hb (jlow _ (.cells #[.int .u8 (0 : Nat), .slice s4 0 d4] 30)); have HB4 : Hid (Below w.heap.size w (w4.alloc (.cells #[.int .u8 (0 : Nat), .slice s4 0 d4] 30))) := jtwo HB3.out hb; have HK2_4 : Hid (Bt (w4.alloc (.cells #[.int .u8 (0 : Nat), .slice s4 0 d4] 30)) s2 s d2 (nby v)) := HK2_3.out.later hb; have HC4_4 : Hid (Vc (w4.alloc (.cells #[.int .u8 (0 : Nat), .slice s4 0 d4] 30)) w4.heap.size (.int .u8 (0 : Nat)) (.slice s4 0 d4)) := Vc.new _ _ _; have c0HC4_4 := HC4_4.out.c0; have c1HC4_4 := HC4_4.out.c1; have HK4_4 : Hid (Bt (w4.alloc (.cells #[.int .u8 (0 : Nat), .slice s4 0 d4] 30)) s4 0 d4 g) := hk.later (jlow _ _); clear hk hb)
        | (go_at_call 10; have _x := HB2; refine (same8 _ _ _ s _ _ (nby v) f HK2_2.out ((HF.out _ HB2.out).pre hs2) HE1.out).mono ?_; rintro e w3 ⟨rfl, rfl⟩; have HB3 : Hid (Below w.heap.size w w2) := HB2.out; have HK2_3 : Hid (Bt w2 s2 s d2 (nby v)) := HK2_2.out; skip)
        | (go_at_call 9; have _x := HB1; refine (H2.out _).mono ?_; rintro e w2 ⟨s2, d2, rfl, hk, hb⟩; have HB2 : Hid (Below w.heap.size w w2) := jtwo HB1.out hb; have HK2_2 : Hid (Bt w2 s2 s d2 (nby v)) := hk; clear hk hb)
        | (go_at_call 8; refine (H1.out _ (Below.refl _ _)).mono ?_; rintro e w1 ⟨rfl, hb⟩; have HB1 : Hid (Below w.heap.size w w1) := jtwo (Below.refl _ _) hb; clear hb))
      go_ret
      exact ⟨rfl, HB5.out⟩
  · have H1 : Hid (∀ w' : World, Below w.heap.size w w' → Calls Try.prog 8 #[.slice a0 len0 cap0] w' fun e w'' => e = .returned (.tuple #[.int .i64 0, .int .i64 0, .int .i64 (E : Int)]) ∧ Below w'.heap.size w' w'') := fun w' hb => wrn w' a0 len0 cap0 0 0 E f (hb0.later hb) hn0 hr
    have hE1 : ((E : Int) == 0) = false := by simp; omega
    clear hr
    rcases rd_ex f len0 with ⟨v2, s2, hd⟩ | ⟨E2, hd⟩
    · obtain ⟨t, HT⟩ : ∃ t, Hid (1 + (s2 + v2) + 4 = t) := ⟨_, rfl⟩
      obtain ⟨tag, HTag⟩ : ∃ t, Hid (f 0 = t) := ⟨_, rfl⟩
      obtain ⟨g, HG⟩ : ∃ g : Nat → Nat, Hid ((fun j => f (1 + (s2 + j))) = g) := ⟨_, rfl⟩
      obtain ⟨L, HL⟩ : ∃ L, Hid (v2 = L) := ⟨_, rfl⟩
      obtain ⟨h, HH⟩ : ∃ h : Nat → Nat, Hid (chf (f 0) (fun j => f (1 + (s2 + j))) v2 s2 = h) := ⟨_, rfl⟩
      have hfit := hd.fits
      have hsm := hd.small
      have hs21 := hd.num.s1
      have H3 : Hid (∀ w' : World, Below w.heap.size w w' → Calls Try.prog 11 #[.slice a0 len0 cap0] w' fun e w'' => CnP w' w'' e tag L g (t : Int) 0) := fun w' hb => by
        have := wrd_ok w' a0 len0 cap0 v2 s2 f (hb0.later hb) hn0 hd
        rw [HT.out, HTag.out, HG.out, HL.out] at this
        exact this
      have H4 : Hid (∀ (w' : World) (x : Option Addr) (d : Nat), Bt w' x L d g → Calls Try.prog 12 #[.agg #[.int .u8 (tag : Int), .slice x L d]] w' fun e w'' => LsP w' w'' e t h 0) := fun w' x d hx => by
        have := wwrite_ok w' (f 0) v2 d s2 x (fun j => f (1 + (s2 + j))) (hf8 0 (by omega)) (by rw [HG.out, HL.out]; exact hx) hsm (hd.nf hf8)
        rw [HT.out, HH.out, HTag.out, HL.out] at this
        exact this
      have HE2 : Hid (∀ i, i < t → h i = f i) := fun i hi => by rw [← HH.out]; exact chf_read hf8 hd i (by rw [HT.out]; exact hi)
      rw [HT.out] at hfit
      have ht2 : t ≤ len0 := hfit
      have ht6 : 6 ≤ t := by have := HT.out; omega
      have d3 : decide ((t : Int) < 6) = false := decide_eq_false (by omega)
      have d4 : decide ((len0 : Int) < (t : Int)) = false := decide_eq_false (by omega)
      clear hd
      clear hb0 hn0 w0 hf8
      go_enter Try.func3, Try.ntmps3
      go_wp2_with (first
        | (go_at_call 13; have _x := HB4; refine (anch8_any _).mono ?_; rintro e w5 ⟨rfl, hb⟩; have HB5 : Hid (Below w.heap.size w w5) := jtwo HB4.out hb; have HK2_5 : Hid (Bt w5 s2 L d2 g) := HK2_4.out.later hb; have HK3_5 : Hid (Bt w5 s3 t d3 h) := HK3_4.out.later hb; have HC2_5 : Hid (Vc w5 w2.heap.size (.int .u8 (tag : Int)) (.slice s2 L d2)) := HC2_3.out.later hb; have c0HC2_5 := HC2_5.out.c0; have c1HC2_5 := HC2_5.out.c1; clear hb)
        | (go_at_call 10; have _x := HB3; refine (same8 _ _ _ t _ _ h f HK3_3.out ((HF.out _ HB3.out).pre ht2) HE2.out).mono ?_; rintro e w4 ⟨rfl, rfl⟩; have HB4 : Hid (Below w.heap.size w w3) := HB3.out; have HK2_4 : Hid (Bt w3 s2 L d2 g) := HK2_3.out; have HK3_4 : Hid (Bt w3 s3 t d3 h) := HK3_3.out; skip)
        | (go_at_call 12; have _x := HB2; refine (H4.out _ _ _ HK2_2.out).mono ?_; rintro e w3 ⟨s3, d3, rfl, hk, hb⟩; have HB3 : Hid (Below w.heap.size w w3) := jtwo HB2.out hb; have HK2_3 : Hid (Bt w3 s2 L d2 g) := HK2_2.out.later hb; have HC2_3 : Hid (Vc w3 w2.heap.size (.int .u8 (tag : Int)) (.slice s2 L d2)) := HC2_2.out.later hb; have c0HC2_3 := HC2_3.out.c0; have c1HC2_3 := HC2_3.out.c1; have HK3_3 : Hid (Bt w3 s3 t d3 h) := hk; clear hk hb)
        | (go_at_call 11; have _x := HB1; refine (H3.out _ HB1.out).mono ?_; rintro e w2 ⟨s2, d2, rfl, hk, hb⟩; have hb0 := hb; replace hb := jtwo hb (jlow _ (.cells #[.int .u8 (tag : Int), .slice s2 L d2] 30)); have HB2 : Hid (Below w.heap.size w (w2.alloc (.cells #[.int .u8 (tag : Int), .slice s2 L d2] 30))) := jtwo HB1.out hb; have HC2_2 : Hid (Vc (w2.alloc (.cells #[.int .u8 (tag : Int), .slice s2 L d2] 30)) w2.heap.size (.int .u8 (tag : Int)) (.slice s2 L d2)) := Vc.new _ _ _; have c0HC2_2 := HC2_2.out.c0; have c1HC2_2 := HC2_2.out.c1; have HK2_2 : Hid (Bt (w2.alloc (.cells #[.int .u8 (tag : Int), .slice s2 L d2] 30)) s2 L d2 g) := hk.later (jlow _ _); clear hk hb)
        | (go_at_call 8; refine (H1.out _ (Below.refl _ _)).mono ?_; rintro e w1 ⟨rfl, hb⟩; have HB1 : Hid (Below w.heap.size w w1) := jtwo (Below.refl _ _) hb; clear hb))
      go_ret
      exact ⟨rfl, HB5.out⟩
    · obtain ⟨g, HG⟩ : ∃ g : Nat → Nat, Hid (g = fun _ => 0) := ⟨_, rfl⟩
      have hE2 : ((E2 : Int) == 0) = false := by have := hd.ne; simp; omega
      have H3 : Hid (∀ w' : World, Below w.heap.size w w' → Calls Try.prog 11 #[.slice a0 len0 cap0] w' fun e w'' => CnP w' w'' e 0 0 g 0 (E2 : Int)) := fun w' hb => by
        rw [HG.out]
        exact wrd_bad w' a0 len0 cap0 E2 f (hb0.later hb) hn0 hd
      clear hd
      clear hb0 hn0 w0 hf8
      go_enter Try.func3, Try.ntmps3
      go_wp2_with (first
        | (go_at_call 13; have _x := HB2; refine (anch8_any _).mono ?_; rintro e w3 ⟨rfl, hb⟩; have HB3 : Hid (Below w.heap.size w w3) := jtwo HB2.out hb; have HK2_3 : Hid (Bt w3 s2 0 d2 g) := HK2_2.out.later hb; have HC2_3 : Hid (Vc w3 w2.heap.size (.int .u8 (0 : Nat)) (.slice s2 0 d2)) := HC2_2.out.later hb; have c0HC2_3 := HC2_3.out.c0; have c1HC2_3 := HC2_3.out.c1; clear hb)
        | (go_at_call 11; have _x := HB1; refine (H3.out _ HB1.out).mono ?_; rintro e w2 ⟨s2, d2, rfl, hk, hb⟩; have hb0 := hb; replace hb := jtwo hb (jlow _ (.cells #[.int .u8 (0 : Nat), .slice s2 0 d2] 30)); have HB2 : Hid (Below w.heap.size w (w2.alloc (.cells #[.int .u8 (0 : Nat), .slice s2 0 d2] 30))) := jtwo HB1.out hb; have HC2_2 : Hid (Vc (w2.alloc (.cells #[.int .u8 (0 : Nat), .slice s2 0 d2] 30)) w2.heap.size (.int .u8 (0 : Nat)) (.slice s2 0 d2)) := Vc.new _ _ _; have c0HC2_2 := HC2_2.out.c0; have c1HC2_2 := HC2_2.out.c1; have HK2_2 : Hid (Bt (w2.alloc (.cells #[.int .u8 (0 : Nat), .slice s2 0 d2] 30)) s2 0 d2 g) := hk.later (jlow _ _); clear hk hb)
        | (go_at_call 8; refine (H1.out _ (Below.refl _ _)).mono ?_; rintro e w1 ⟨rfl, hb⟩; have HB1 : Hid (Below w.heap.size w w1) := jtwo (Below.refl _ _) hb; clear hb))
      go_ret
      exact ⟨rfl, HB3.out⟩
set_option maxRecDepth 100000 in
set_option maxHeartbeats 2000000 in
theorem lifted (os : Os) (started : os.Started) (H : Type) (enc : TypeId × Value → H) :
    ReturnsInHanded {} Try.checked os 3 .any (Rows.wireFormsSpec.pre6 enc Try.prog Try.f3 Rows.wireFormsRow.domain false) (Rows.wireFormsSpec.post enc Try.prog Try.f3 false true false false) := by
  refine returnsInHanded_of_change_sized (C := Try.checked) own started (by kernel_rfl) Try.func3
    (ChangeSpec.witness6 (enc := enc) (C := Try.checked) false ⟨#[], #[.slice none 0 0], []⟩ 8 (by kernel_rfl) (by kernel_rfl) (by kernel_rfl) (by kernel_rfl)) ?_
  intro W base args ds gs before hval0 hW hcnd hsz0 _
  have hsz : (DataW.weightsEach Try.prog (Try.f3.params.toList ++ Rows.wireFormsSpec.plain.varTypes Try.prog) (ds ++ gs)).all (· ≤ reachBytes) = true := hsz0
  clear hsz0
  have hval : ∀ (j : Nat) t v, Try.f3.params[j]? = some t → args[j]? = some v → Value.okWide Try.prog W .any base t v := hval0
  have hW' := hW
  obtain ⟨p, q, hA0, hV, rfl, hfz, hnd⟩ := hW
  have hA : DataW.TrodAll enc Try.prog W 0 (fun _ => true) true Try.f3.params.toList args.toList ds p := hA0
  rw [Try.params3] at hA hval hsz
  obtain ⟨va0, vs0, d0, ds0, p0, q0, hargs, rfl, rfl, h0, tr0⟩ := trodAll_cons hA
  obtain ⟨rfl, rfl, rfl⟩ := trodAll_nil tr0
  obtain rfl : args = #[va0] := by cases args; simp_all
  obtain ⟨rfl, rfl⟩ := trodVars_none hV
  have k0 := h0
  have lt0 : ∀ x ∈ p0, x.block < W.heap.size := by obtain ⟨m, hm⟩ := k0; exact DataW.trod_lt m _ _ _ hm
  obtain ⟨a0, len0, cap0, rfl⟩ := okWide_slice Try.underlying22 (hval 0 22 va0 rfl rfl)
  obtain ⟨z0, w0⟩ : ∃ zs, IsRow .u8 W a0 len0 cap0 zs := by
    obtain ⟨fuel, hf⟩ := h0
    rcases open_ints Try.underlying22 Try.underlying5 (by kernel_rfl) hf with ⟨hcs, _⟩ | ⟨x, l, c, zs, hcs, _, hl, hm, hz, hxx, hcell, hwz⟩
    · simp [Value.cells] at hcs
      obtain ⟨rfl, rfl, rfl⟩ := hcs
      exact ⟨[], .inl ⟨rfl, rfl, rfl, rfl⟩⟩
    · simp [Value.cells] at hcs
      obtain ⟨rfl, rfl, rfl⟩ := hcs
      have hd := congrArg Prod.fst hxx
      have hs := sized_slice hsz (j := 0) (t := 22) (e := 5) rfl (congrArg some hd) Try.underlying22
      rw [show Try.prog.bytesOf 5 = 1 from by kernel_rfl] at hs
      have hzl : zs.length = cap0 := by simpa using hz
      simp only [lits, List.length_map, List.length_take, List.length_drop, reachBytes] at hs
      exact ⟨zs, .inr ⟨_, rfl, hl, by omega, by simpa using hz, hcell, hwz⟩⟩
  clear hA0 hval0
  refine (walk a0 len0 cap0 z0 W w0).mono fun e W' ⟨he, bel⟩ => ?_
  subst he
  exact ⟨_, rfl, _, _, _, [], _, [], hW', trodAll_mk1 (shut_bool Try.underlying4 _), (trodAll_cons_mk (Below.trod laidOut (by kernel_rfl) (of_decide_eq_true (by kernel_rfl)) k0 bel lt0) trodAll_mk0), rfl, bel.frame _, fun h => by cases h⟩
theorem over : Rows.wireFormsRow.holds Try.pinned (OpenSpec.ofChange Rows.wireFormsSpec) :=
  OpenClaim.holds_of_wide 3 Try.f3 rfl rfl rfl rfl rfl rfl rfl ⟨rfl, rfl, rfl, rfl, rfl⟩ rfl rfl rfl rfl rfl (by kernel_rfl) Try.func3 (by kernel_rfl)
    (of_decide_eq_true (by kernel_rfl)) (by unfold Func.isWrapper; first | (rw [if_pos (by decide +kernel)]; kernel_rfl) | (rw [if_neg (by decide +kernel)]; exact ⟨rfl, rfl⟩))
    (fun os started H enc _ => lifted os started H enc)
theorem proved : Rows.WireFormsSaid := over
#print axioms proved
end Go.Proofs.Ytlfmekjkgegclab.wireForms
