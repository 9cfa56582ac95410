/-
  Proved: for every chunk c, of whose form one byte is put against another number than 0, the program's Read tells an error or a chunk that is not c (P8.6); no condition.
-/
import Derived.Test.YtlfmekjkgegclabHr
import Derived.WalkKit
import Derived.SizedLaws
import Derived.ProofKit
import Derived.OpenShut
import Derived.ShutString
import Derived.ChangeOld
import Derived.Below
import Derived.Lib.SmallJoins
import Derived.Deep.Matrix
namespace Go.Proofs.Ytlfmekjkgegclab.wireTurned
open Go.ChangeShapes Go.WideShapes Go.ChangeAt Go.RowKit Go.Joins
set_option linter.unusedVariables false
theorem own : ownKnob Try.prog.godebug = none := by kernel_rfl
theorem laidOut : laidOutB Try.prog = true := by kernel_rfl
/-- A slice of integers that came in. -/
def IsRow (k : IntKind) (w : World) (a : Option Addr) (len cap : Nat) (zs : List Int) : Prop :=
  (a = none ∧ len = 0 ∧ cap = 0 ∧ zs = []) ∨
  ∃ x, a = some x ∧ len ≤ cap ∧ cap ≤ 140737488351232 ∧ zs.length = cap ∧ (∀ i, i < zs.length → w.cell? (x.add i) = some (.int k (zs.getD i 0))) ∧ ∀ n ∈ zs, (Lit.int k n).wf = true
/-- A slice of slices of bytes that came in. -/
def IsRows (w : World) (a : Option Addr) (len cap : Nat) : Prop :=
  (a = none ∧ len = 0 ∧ cap = 0) ∨
  ∃ x, a = some x ∧ len ≤ cap ∧ cap ≤ 140737488351232 ∧ ∀ r, r < cap → ∃ b l c zs, w.cell? (x.add r) = some (.slice b l c) ∧ IsRow .u8 w b l c zs
theorem sized_in {H : Type} {P : Program} {ts : List TypeId} {ds : List (DataW H)} (h : (DataW.weightsEach P ts ds).all (· ≤ reachBytes) = true) {j : Nat} {t : TypeId} {d : DataW H} (ht : ts[j]? = some t) (hd : ds[j]? = some d) : (d.weights P t).all (· ≤ reachBytes) = true :=
  List.all_eq_true.2 fun n hn => List.all_eq_true.1 h n (DataW.weights_mem_each ht hd n hn)
theorem sized_all {H : Type} {P : Program} {e : TypeId} : ∀ {ds : List (DataW H)}, (DataW.weightsAll P e ds).all (· ≤ reachBytes) = true → ∀ d ∈ ds, (d.weights P e).all (· ≤ reachBytes) = true
  | [], _, d, hd => by simp at hd
  | d0 :: r, h, d, hd => by
    simp only [DataW.weightsAll, List.all_append, Bool.and_eq_true] at h
    rcases List.mem_cons.1 hd with rfl | hd
    · exact h.1
    · exact sized_all h.2 d hd
theorem cellsC : Try.prog.cellsOf 30 = 2 := by kernel_rfl

set_option maxRecDepth 20000 in
set_option maxHeartbeats 4000000 in
theorem walk (n0 : Int) (a0 : Option Addr) (len0 cap0 : Nat) (z0 : List Int) (n1 : Int) (n2 : Int) (w : World) (u0 : (Lit.int .u8 n0).wf = true) (w0 : IsRow .u8 w a0 len0 cap0 z0) (w1 : (Lit.int .i64 n1).wf = true) (w2 : (Lit.int .u8 n2).wf = true) :
    Calls Try.prog 5 #[.agg #[.int .u8 n0, .slice a0 len0 cap0], .int .i64 n1, .int .u8 n2] w fun e w' => e = .returned (.bool true) ∧ Below w.heap.size w w' := by
  obtain ⟨f, hb0, hn0⟩ := bt_of_row w a0 len0 cap0 z0 w0
  obtain ⟨tag, rfl, ht⟩ := u8_of_wf8 u0
  obtain ⟨n1a, n1b⟩ := i64_of_wf8 w1
  obtain ⟨turn, rfl, htu⟩ := u8_of_wf8 w2
  have hc1 := (Vc.new w (.int .u8 (tag : Int)) (.slice a0 len0 cap0)).c1
  have HB0 : Hid (Below w.heap.size w (w.alloc (.cells #[.int .u8 (tag : Int), .slice a0 len0 cap0] 30))) := jlow _ _
  by_cases hn : len0 ≤ 4194304
  · have e0 : decide ((4194304 : Int) < (len0 : Int)) = false := decide_eq_false (by omega)
    obtain ⟨L, hL⟩ := nf_ex len0
    have hL1 := hL.1
    have hL9 := nf_nine hL (by omega)
    obtain ⟨T, HT⟩ : ∃ T, Hid (1 + (L + len0) + 4 = T) := ⟨_, rfl⟩
    obtain ⟨H, HH⟩ : ∃ H : Nat → Nat, Hid (chf tag f len0 L = H) := ⟨_, rfl⟩
    have hT6 : 6 ≤ T := by have := HT.out; omega
    have hTm : T ≤ 4194318 := by have := HT.out; omega
    have HW : Hid (∀ w' : World, Below w.heap.size w w' → Calls Try.prog 12 #[.agg #[.int .u8 (tag : Int), .slice a0 len0 cap0]] w' fun e w'' => LsF w' w'' e T H 0) := fun w' hb => by
      have := wwrite_f w' tag len0 cap0 L a0 f ht (hb0.later hb) hn hL
      rw [HT.out, HH.out] at this
      exact this
    have e1 : decide ((T : Int) < 6) = false := decide_eq_false (by omega)
    by_cases h1 : n1 < 0
    · have e2 : decide (n1 < 0) = true := decide_eq_true h1
      clear hb0 hn0 w0 u0 w1 w2 hL
      go_enter Try.func5, Try.ntmps5
      go_wp2_with (first
        | (go_at_call 12; refine (HW.out _ (jlow _ _)).mono ?_; rintro e w1 ⟨x1, d1, rfl, h1, h3, h2⟩; have HC1 : Hid (Vc w1 w.heap.size (.int .u8 (tag : Int)) (.slice a0 len0 cap0)) := (Vc.new w _ _).later h2; have p0 := HC1.out.c0; have p1 := HC1.out.c1; have HB1 : Hid (Below w.heap.size w w1) := jtwo (jlow _ _) h2; have HK1 := jhid8 h1; have HF1 : Hid (Frs8 w1 (w.heap.size + 1) x1 d1) := (by have h := h3; rw [size_alloc8] at h; exact h); clear h1 h2 h3)
        | (go_at_call 13; refine (anch8_any _).mono ?_; rintro e w2 ⟨rfl, hb⟩; have HB2 : Hid (Below w.heap.size w w2) := jtwo HB1.out hb; clear hb))
      go_ret
      exact ⟨rfl, HB2.out⟩
    · obtain ⟨q, rfl⟩ := Int.eq_ofNat_of_zero_le (show 0 ≤ n1 by omega)
      have e2 : decide ((q : Int) < 0) = false := decide_eq_false h1
      by_cases h2 : T ≤ q
      · have e3 : decide ((T : Int) ≤ (q : Int)) = true := decide_eq_true (by omega)
        have e4 : decide (T ≤ q) = true := decide_eq_true h2
        clear hb0 hn0 w0 u0 w1 w2 hL
        go_enter Try.func5, Try.ntmps5
        go_wp2_with (first
          | (go_at_call 12; refine (HW.out _ (jlow _ _)).mono ?_; rintro e w1 ⟨x1, d1, rfl, h1, h3, h2⟩; have HC1 : Hid (Vc w1 w.heap.size (.int .u8 (tag : Int)) (.slice a0 len0 cap0)) := (Vc.new w _ _).later h2; have p0 := HC1.out.c0; have p1 := HC1.out.c1; have HB1 : Hid (Below w.heap.size w w1) := jtwo (jlow _ _) h2; have HK1 := jhid8 h1; have HF1 : Hid (Frs8 w1 (w.heap.size + 1) x1 d1) := (by have h := h3; rw [size_alloc8] at h; exact h); clear h1 h2 h3)
          | (go_at_call 13; refine (anch8_any _).mono ?_; rintro e w2 ⟨rfl, hb⟩; have HB2 : Hid (Below w.heap.size w w2) := jtwo HB1.out hb; clear hb))
        go_ret
        exact ⟨rfl, HB2.out⟩
      · have e3 : decide ((T : Int) ≤ (q : Int)) = false := decide_eq_false (by omega)
        have e4 : decide (T ≤ q) = false := decide_eq_false h2
        by_cases h3 : turn = 0
        · subst h3
          clear hb0 hn0 w0 u0 w1 w2 hL
          go_enter Try.func5, Try.ntmps5
          go_wp2_with (first
            | (go_at_call 12; refine (HW.out _ (jlow _ _)).mono ?_; rintro e w1 ⟨x1, d1, rfl, h1, h3, h2⟩; have HC1 : Hid (Vc w1 w.heap.size (.int .u8 (tag : Int)) (.slice a0 len0 cap0)) := (Vc.new w _ _).later h2; have p0 := HC1.out.c0; have p1 := HC1.out.c1; have HB1 : Hid (Below w.heap.size w w1) := jtwo (jlow _ _) h2; have HK1 := jhid8 h1; have HF1 : Hid (Frs8 w1 (w.heap.size + 1) x1 d1) := (by have h := h3; rw [size_alloc8] at h; exact h); clear h1 h2 h3)
            | (go_at_call 13; refine (anch8_any _).mono ?_; rintro e w2 ⟨rfl, hb⟩; have HB2 : Hid (Below w.heap.size w w2) := jtwo HB1.out hb; clear hb))
          go_ret
          exact ⟨rfl, HB2.out⟩
        · have hqT : q < T := by omega
          have e5 : ((turn : Int) == 0) = false := by simp; omega
          have hH8 : ∀ i, i < T → H i < 256 := by rw [← HT.out, ← HH.out]; exact chf_lt ht hb0.sl.1
          obtain ⟨z, HHq⟩ : ∃ z, Hid (H q = z) := ⟨_, rfl⟩
          have hz8 : z < 256 := by rw [← HHq.out]; exact hH8 q hqT
          obtain ⟨y, HY⟩ : ∃ y, Hid (z ^^^ turn = y) := ⟨_, rfl⟩
          have hxor : bits .xor .u8 (z : Int) (turn : Int) = (y : Int) := by rw [← HY.out]; exact u8_xor_nat z turn hz8 htu
          have hy256 : y < 256 := by rw [← HY.out]; exact Nat.xor_lt_two_pow (n := 8) hz8 htu
          have hyz : y ≠ z := fun e => by
            rw [← HY.out] at e
            have h4 : z ^^^ turn ^^^ z = z ^^^ z := by rw [e]
            rw [Nat.xor_self, show z ^^^ turn ^^^ z = turn ^^^ (z ^^^ z) by ac_rfl, Nat.xor_self, Nat.xor_zero] at h4
            exact h3 h4
          obtain ⟨G, HG⟩ : ∃ G : Nat → Nat, Hid ((fun i => if i = q then y else H i) = G) := ⟨_, rfl⟩
          have hG8 : ∀ i, i < T → G i < 256 := fun i hi => by
            rw [← HG.out]
            show (if i = q then y else H i) < 256
            split
            · exact hy256
            · exact hH8 i hi
          have HF0 : Hid (∀ w' : World, Below w.heap.size w w' → Bt w' a0 len0 cap0 f) := fun w' hb => hb0.later hb
          have HF00 : Hid (Bt w a0 len0 cap0 f) := hb0
          have z0' : (0 : Int) ≤ (q : Int) := by omega
          have z1' : (q : Int) < (T : Int) := by omega
          rcases rd_ex G T with ⟨v, s, hd⟩ | ⟨E, hd⟩
          · obtain ⟨tag2, HT2⟩ : ∃ t, Hid (G 0 = t) := ⟨_, rfl⟩
            obtain ⟨L2, HL2⟩ : ∃ t, Hid (v = t) := ⟨_, rfl⟩
            obtain ⟨g2, HG2⟩ : ∃ t : Nat → Nat, Hid ((fun j => G (1 + (s + j))) = t) := ⟨_, rfl⟩
            obtain ⟨P, HP⟩ : ∃ t, Hid (1 + (s + v) + 4 = t) := ⟨_, rfl⟩
            have HRd : Hid (∀ (w' : World) (g o d : Nat), Bt w' (some ⟨g, o, none⟩) T d (fun i => if i = q then y else H i) → Calls Try.prog 11 #[.slice (some ⟨g, o, none⟩) T d] w' fun e w'' => CnP w' w'' e tag2 L2 g2 (P : Int) 0) := fun w' g o d hx => by
              rw [HG.out] at hx
              have := wrd_ok w' _ T d v s G hx (by omega) hd
              rw [HT2.out, HG2.out, HP.out, HL2.out] at this
              exact this
            have HLk : Hid (likeC tag tag2 len0 L2 f g2 = false) := by
              show _ = _
              rw [← HT2.out, ← HL2.out, ← HG2.out]
              have hd2 := hd
              rw [← HT.out] at hd2
              refine turned (q := q) (y := y) hL (by rw [HT.out]; exact hqT) (by rw [HT.out]; exact hG8) (fun i hi => ?_) (by rw [HH.out, HHq.out]; exact hyz) hd2
              rw [← HG.out, HH.out]
            clear hb0 hn0 w0 u0 w1 w2 hL hd hH8 hG8
            go_enter Try.func5, Try.ntmps5
            go_wp2_with (first
              | (go_at_call 12; refine (HW.out _ (jlow _ _)).mono ?_; rintro e w1 ⟨x1, d1, rfl, h1, h3, h2⟩; have HC1 : Hid (Vc w1 w.heap.size (.int .u8 (tag : Int)) (.slice a0 len0 cap0)) := (Vc.new w _ _).later h2; have p0 := HC1.out.c0; have p1 := HC1.out.c1; have HB1 : Hid (Below w.heap.size w w1) := jtwo (jlow _ _) h2; have HK1 := jhid8 h1; have HF1 : Hid (Frs8 w1 (w.heap.size + 1) x1 d1) := (by have h := h3; rw [size_alloc8] at h; exact h); clear h1 h2 h3; obtain ⟨g, o, ex, hcq⟩ := HK1.out.sl.2 q hqT; have hfr := (HF1.out _ ex); obtain ⟨g', o', eg, hgB, hfz⟩ := hfr; subst ex; cases eg; rw [HHq.out] at hcq; have hfq := (hfz q (Nat.lt_of_lt_of_le hqT HK1.out.room)).2; have HGB := jhid8 hgB; clear hfz hgB)
              | (go_at_call 11; refine (HRd.out _ g o d1 (bt_set HK1.out hqT hy256)).mono ?_; rintro e w2 ⟨x2, d2, rfl, h1, h2⟩; have HV1 : Hid (Vc (w1.setCell ⟨g, o + q, none⟩ (.int .u8 (y : Int))) w.heap.size (.int .u8 (tag : Int)) (.slice a0 len0 cap0)) := vc_off HC1.out (by have := HGB.out; omega); have HS1 : Hid (Below w.heap.size w (w1.setCell ⟨g, o + q, none⟩ (.int .u8 (y : Int)))) := set_below HB1.out HB1.out.size (by have := HGB.out; omega); have HP1 : Hid (Bt (w1.setCell ⟨g, o + q, none⟩ (.int .u8 (y : Int))) a0 len0 cap0 f) := bt_off (HF0.out _ HB1.out) (off_old HF00.out (by have := HGB.out; omega)); have hal := jtwo h2 (jlow w2 (.cells #[.int .u8 (tag2 : Int), .slice x2 L2 d2] 30)); have HB2 : Hid (Below w.heap.size w (w2.alloc (.cells #[.int .u8 (tag2 : Int), .slice x2 L2 d2] 30))) := jtwo HS1.out hal; have HV2 := jhid8 (HV1.out.later hal); have HP2 := jhid8 (HP1.out.later hal); have HD2 := jhid8 (Vc.new w2 (.int .u8 (tag2 : Int)) (.slice x2 L2 d2)); have HK2 := jhid8 (h1.later (jlow w2 (.cells #[.int .u8 (tag2 : Int), .slice x2 L2 d2] 30))); clear h1 h2 hal)
              | (go_at_call 13; refine (anch8_any _).mono ?_; rintro e w3 ⟨rfl, hb⟩; have HB3 : Hid (Below w.heap.size w w3) := jtwo HB2.out hb; have HV3 := jhid8 (HV2.out.later hb); have HP3 := jhid8 (HP2.out.later hb); have HD3 := jhid8 (HD2.out.later hb); have HK3 := jhid8 (HK2.out.later hb); have r0 := HV3.out.c0; have r1 := HV3.out.c1; have t0 := HD3.out.c0; have t1 := HD3.out.c1; clear hb)
              | (go_at_call 15; refine (rlike8 _ tag tag2 len0 L2 cap0 d2 a0 x2 f g2 HP3.out.sl HK3.out.sl).mono ?_; rw [HLk.out]; rintro e w4 ⟨rfl, hb⟩; have HB4 : Hid (Below w.heap.size w w4) := jtwo HB3.out hb; clear hb))
            go_ret
            exact ⟨rfl, HB4.out⟩
          · obtain ⟨tag2, HT2⟩ : ∃ t : Nat, Hid (t = 0) := ⟨_, rfl⟩
            obtain ⟨L2, HL2⟩ : ∃ t : Nat, Hid (t = 0) := ⟨_, rfl⟩
            obtain ⟨g2, HG2⟩ : ∃ t : Nat → Nat, Hid (t = fun _ => 0) := ⟨_, rfl⟩
            have hE0 : ((E : Int) == 0) = false := by have := hd.ne; simp; omega
            have hE1 : ((E : Int) != 0) = true := by have := hd.ne; simp; omega
            have HRd : Hid (∀ (w' : World) (g o d : Nat), Bt w' (some ⟨g, o, none⟩) T d (fun i => if i = q then y else H i) → Calls Try.prog 11 #[.slice (some ⟨g, o, none⟩) T d] w' fun e w'' => CnP w' w'' e tag2 L2 g2 0 (E : Int)) := fun w' g o d hx => by
              rw [HG.out] at hx
              rw [HT2.out, HL2.out, HG2.out]
              exact wrd_bad w' _ T d E G hx (by omega) hd
            clear hb0 hn0 w0 u0 w1 w2 hL hd hH8 hG8
            go_enter Try.func5, Try.ntmps5
            go_wp2_with (first
              | (go_at_call 12; refine (HW.out _ (jlow _ _)).mono ?_; rintro e w1 ⟨x1, d1, rfl, h1, h3, h2⟩; have HC1 : Hid (Vc w1 w.heap.size (.int .u8 (tag : Int)) (.slice a0 len0 cap0)) := (Vc.new w _ _).later h2; have p0 := HC1.out.c0; have p1 := HC1.out.c1; have HB1 : Hid (Below w.heap.size w w1) := jtwo (jlow _ _) h2; have HK1 := jhid8 h1; have HF1 : Hid (Frs8 w1 (w.heap.size + 1) x1 d1) := (by have h := h3; rw [size_alloc8] at h; exact h); clear h1 h2 h3; obtain ⟨g, o, ex, hcq⟩ := HK1.out.sl.2 q hqT; have hfr := (HF1.out _ ex); obtain ⟨g', o', eg, hgB, hfz⟩ := hfr; subst ex; cases eg; rw [HHq.out] at hcq; have hfq := (hfz q (Nat.lt_of_lt_of_le hqT HK1.out.room)).2; have HGB := jhid8 hgB; clear hfz hgB)
              | (go_at_call 11; refine (HRd.out _ g o d1 (bt_set HK1.out hqT hy256)).mono ?_; rintro e w2 ⟨x2, d2, rfl, h1, h2⟩; have HV1 : Hid (Vc (w1.setCell ⟨g, o + q, none⟩ (.int .u8 (y : Int))) w.heap.size (.int .u8 (tag : Int)) (.slice a0 len0 cap0)) := vc_off HC1.out (by have := HGB.out; omega); have HS1 : Hid (Below w.heap.size w (w1.setCell ⟨g, o + q, none⟩ (.int .u8 (y : Int)))) := set_below HB1.out HB1.out.size (by have := HGB.out; omega); have HP1 : Hid (Bt (w1.setCell ⟨g, o + q, none⟩ (.int .u8 (y : Int))) a0 len0 cap0 f) := bt_off (HF0.out _ HB1.out) (off_old HF00.out (by have := HGB.out; omega)); have hal := jtwo h2 (jlow w2 (.cells #[.int .u8 (tag2 : Int), .slice x2 L2 d2] 30)); have HB2 : Hid (Below w.heap.size w (w2.alloc (.cells #[.int .u8 (tag2 : Int), .slice x2 L2 d2] 30))) := jtwo HS1.out hal; have HV2 := jhid8 (HV1.out.later hal); have HP2 := jhid8 (HP1.out.later hal); have HD2 := jhid8 (Vc.new w2 (.int .u8 (tag2 : Int)) (.slice x2 L2 d2)); have HK2 := jhid8 (h1.later (jlow w2 (.cells #[.int .u8 (tag2 : Int), .slice x2 L2 d2] 30))); clear h1 h2 hal)
              | (go_at_call 13; refine (anch8_any _).mono ?_; rintro e w3 ⟨rfl, hb⟩; have HB3 : Hid (Below w.heap.size w w3) := jtwo HB2.out hb; have HV3 := jhid8 (HV2.out.later hb); have HP3 := jhid8 (HP2.out.later hb); have HD3 := jhid8 (HD2.out.later hb); have HK3 := jhid8 (HK2.out.later hb); have r0 := HV3.out.c0; have r1 := HV3.out.c1; have t0 := HD3.out.c0; have t1 := HD3.out.c1; clear hb))
            go_ret
            exact ⟨rfl, HB3.out⟩
  · have e0 : decide ((4194304 : Int) < (len0 : Int)) = true := decide_eq_true (by omega)
    clear hb0 hn0 w0 u0 w1 w2
    go_enter Try.func5, Try.ntmps5
    go_wp2_with (go_at_call 13; refine (anch8_any _).mono ?_; rintro e w1 ⟨rfl, hb⟩; have HB1 : Hid (Below w.heap.size w w1) := jtwo HB0.out hb; clear hb)
    go_ret
    exact ⟨rfl, HB1.out⟩
set_option maxRecDepth 100000 in
set_option maxHeartbeats 2000000 in
theorem lifted (os : Os) (started : os.Started) (H : Type) (enc : TypeId × Value → H) :
    ReturnsInHanded {} Try.checked os 5 .any (Rows.wireTurnedSpec.pre6 enc Try.prog Try.f5 Rows.wireTurnedRow.domain false) (Rows.wireTurnedSpec.post enc Try.prog Try.f5 false true false false) := by
  refine returnsInHanded_of_change_sized (C := Try.checked) own started (by kernel_rfl) Try.func5
    (ChangeSpec.witness6 (enc := enc) (C := Try.checked) false ⟨#[], #[.agg #[.int .u8 0, .slice none 0 0], .int .i64 0, .int .u8 0], []⟩ 8 (by kernel_rfl) (by kernel_rfl) (by kernel_rfl) (by kernel_rfl)) ?_
  intro W base args ds gs before hval0 hW hcnd hsz0 _
  have hsz : (DataW.weightsEach Try.prog (Try.f5.params.toList ++ Rows.wireTurnedSpec.plain.varTypes Try.prog) (ds ++ gs)).all (· ≤ reachBytes) = true := hsz0
  clear hsz0
  have hval : ∀ (j : Nat) t v, Try.f5.params[j]? = some t → args[j]? = some v → Value.okWide Try.prog W .any base t v := hval0
  have hW' := hW
  obtain ⟨p, q, hA0, hV, rfl, hfz, hnd⟩ := hW
  have hA : DataW.TrodAll enc Try.prog W 0 (fun _ => true) true Try.f5.params.toList args.toList ds p := hA0
  rw [Try.params5] at hA hval hsz
  obtain ⟨va0, vs0, d0, ds0, p0, q0, hargs, rfl, rfl, h0, tr0⟩ := trodAll_cons hA
  obtain ⟨va1, vs1, d1, ds1, p1, q1, rfl, rfl, rfl, h1, tr1⟩ := trodAll_cons tr0
  obtain ⟨va2, vs2, d2, ds2, p2, q2, rfl, rfl, rfl, h2, tr2⟩ := trodAll_cons tr1
  obtain ⟨rfl, rfl, rfl⟩ := trodAll_nil tr2
  obtain rfl : args = #[va0, va1, va2] := by cases args; simp_all
  obtain ⟨rfl, rfl⟩ := trodVars_none hV
  have k0 := h0
  have lt0 : ∀ x ∈ p0, x.block < W.heap.size := by obtain ⟨m, hm⟩ := k0; exact DataW.trod_lt m _ _ _ hm
  obtain ⟨f0, s0, y0, e0, m0, rfl, rfl, rfl, hf0, hs0⟩ := open_agg2 Try.underlying30 (by kernel_rfl) cellsC (hval 0 30 va0 rfl rfl) h0
  obtain ⟨n0, er0, rfl, u0⟩ := DataW.trod_int Try.underlying5 hf0
  simp only [List.cons.injEq, and_true] at er0
  subst er0
  obtain ⟨a0, len0, cap0, rfl⟩ : ∃ a l c, s0 = .slice a l c := by
    rcases open_ints Try.underlying22 Try.underlying5 (by kernel_rfl) hs0 with ⟨hcs, _⟩ | ⟨x, l, c, zs, hcs, _⟩
    · simp only [List.cons.injEq, and_true] at hcs; exact ⟨_, _, _, hcs⟩
    · simp only [List.cons.injEq, and_true] at hcs; exact ⟨_, _, _, hcs⟩
  obtain ⟨z0, w0⟩ : ∃ zs, IsRow .u8 W a0 len0 cap0 zs := by
    obtain ⟨fuel, hf⟩ := (⟨m0, hs0⟩ : ∃ fuel, DataW.trod enc Try.prog W 0 (fun _ => true) true fuel 22 [.slice a0 len0 cap0] = some e0)
    rcases open_ints Try.underlying22 Try.underlying5 (by kernel_rfl) hf with ⟨hcs, _⟩ | ⟨x, l, c, zs, hcs, _, hl, hm, hz, hxx, hcell, hwz⟩
    · simp at hcs
      obtain ⟨rfl, rfl, rfl⟩ := hcs
      exact ⟨[], .inl ⟨rfl, rfl, rfl, rfl⟩⟩
    · simp at hcs
      obtain ⟨rfl, rfl, rfl⟩ := hcs
      have hd := congrArg Prod.fst hxx
      have hs := sized_slice (sized_in hsz (j := 0) (t := 30) rfl rfl) (j := 1) (t := 22) (e := 5) rfl (congrArg some hd) Try.underlying22
      rw [show Try.prog.bytesOf 5 = 1 from by kernel_rfl] at hs
      have hzl : zs.length = cap0 := by simpa using hz
      simp only [lits, List.length_map, List.length_take, List.length_drop, reachBytes] at hs
      exact ⟨zs, .inr ⟨_, rfl, hl, by omega, by simpa using hz, hcell, hwz⟩⟩
  have k1 := h1
  have lt1 : ∀ x ∈ p1, x.block < W.heap.size := by obtain ⟨m, hm⟩ := k1; exact DataW.trod_lt m _ _ _ hm
  obtain ⟨n1, rfl, w1⟩ : ∃ n, va1 = .int .i64 n ∧ (Lit.int .i64 n).wf = true := by
    obtain ⟨n, rfl, _, _, hw⟩ := open_int Try.underlying3 (hval 1 3 va1 rfl rfl) h1
    exact ⟨n, rfl, hw⟩
  have k2 := h2
  have lt2 : ∀ x ∈ p2, x.block < W.heap.size := by obtain ⟨m, hm⟩ := k2; exact DataW.trod_lt m _ _ _ hm
  obtain ⟨n2, rfl, w2⟩ : ∃ n, va2 = .int .u8 n ∧ (Lit.int .u8 n).wf = true := by
    obtain ⟨n, rfl, _, _, hw⟩ := open_int Try.underlying5 (hval 2 5 va2 rfl rfl) h2
    exact ⟨n, rfl, hw⟩
  clear hA0 hval0
  refine (walk n0 a0 len0 cap0 z0 n1 n2 W u0 w0 w1 w2).mono fun e W' ⟨he, bel⟩ => ?_
  subst he
  exact ⟨_, rfl, _, _, _, [], _, [], hW', trodAll_mk1 (shut_bool Try.underlying4 _), (trodAll_cons_mk (Below.trod laidOut (by kernel_rfl) (of_decide_eq_true (by kernel_rfl)) k0 bel lt0) (trodAll_cons_mk (Below.trod laidOut (by kernel_rfl) (of_decide_eq_true (by kernel_rfl)) k1 bel lt1) (trodAll_cons_mk (Below.trod laidOut (by kernel_rfl) (of_decide_eq_true (by kernel_rfl)) k2 bel lt2) trodAll_mk0))), rfl, bel.frame _, fun h => by cases h⟩
theorem over : Rows.wireTurnedRow.holds Try.pinned (OpenSpec.ofChange Rows.wireTurnedSpec) :=
  OpenClaim.holds_of_wide 5 Try.f5 rfl rfl rfl rfl rfl rfl rfl ⟨rfl, rfl, rfl, rfl, rfl⟩ rfl rfl rfl rfl rfl (by kernel_rfl) Try.func5 (by kernel_rfl)
    (of_decide_eq_true (by kernel_rfl)) (by unfold Func.isWrapper; first | (rw [if_pos (by decide +kernel)]; kernel_rfl) | (rw [if_neg (by decide +kernel)]; exact ⟨rfl, rfl⟩))
    (fun os started H enc _ => lifted os started H enc)
theorem proved : Rows.WireTurnedSaid := over
#print axioms proved
end Go.Proofs.Ytlfmekjkgegclab.wireTurned
