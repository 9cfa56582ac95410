/-
  Contracts of the rows' reference: bad, rank, Rank, Free, Covers.
  Contracts of the rows' reference: Rank, Free, Covers.
  Contracts of the rows' reference: Span, Basis, Needed.
  Contract of the rows' reference: Circuit.
-/
import Derived.Test.YtblagbghpfopcaaGreatQffsh00
import Derived.Test.YtblagbghpfopcaaGreatQffsh17
import Derived.Test.YtblagbghpfopcaaGreatQffsh08
import Derived.Test.YtblagbghpfopcaaGreatQffsh19
import Derived.Test.YtblagbghpfopcaaGreatQffsh20
set_option maxRecDepth 100000
set_option maxHeartbeats 16000000
namespace Go.Proofs.YtblagbghpfopcaaGreat
open Go.RowKit
theorem jhid7 {p : Prop} (h : p) : Hid p := h
theorem qgo {w : World} {b : Option Addr} {m : Nat} {q : Nat → Int} (h : Jl w b .i64 m q) : Il w b m q := h
theorem qed {F q : Nat → Nat} {k c r i : Nat} (hq : ∀ i, i < k → q i < r) (hi : i < k) : m2 (pkf F q c) k c i = m2 F r c (q i) := funext fun j => by
 by_cases hj : j < c
 ·rw [qan _ hi hj, qan _ (hq i hi) hj, qfh F q c i j hj]
 ·rw [qad _ (by omega), qad _ (by omega)]
theorem qmr {F : Nat → Nat} {r c n s t : Nat} (hF : ∀ i, i < n → F i < 256) (R : Rt r c n) (h : Rk (m2 (pkf F (lf s r) c) (cn s r) c) (cn s r) t) : RS (m2 F r c) r s t :=
 (qmq (qax hF R)).1 (h.at (fun i j hi => by rw [qed (fun t ht => (qaj ht).1) hi]))
theorem rbad_ok (w : World) (r c n k s : Nat) (a : Option Addr) (R : Rt r c n) (h : s < 2 ^ r) :
  Calls Tryz.prog 83 #[mv r c a n k, .int .u64 (s : Int)] w fun e w' => e = .returned (.int .i64 0) ∧ Below w.heap.size w w' := by
 have HP : Hid (RightP r c n) := R.p
 have hr := R.r64
 have hs6 := qca hr h
 obtain ⟨A, HA⟩ : ∃ A : Nat, Hid ((2 ^ r - 1 : Nat) = A) := ⟨_, rfl⟩
 obtain ⟨z, hz1, hz2⟩ := qj9 hs6 hr HA.out
 have han : bits .andNot .u64 (s : Int) (A : Int) = 0 := by rw [hz1, hz2.2 h]; rfl
 clear R hz1 hz2 h hs6
 go_enter Tryz.func83, Tryz.ntmps83
 go_wp2_with (first
  | (go_at_call 68; refine (qas _ _ _ _ _ _ HP.out).mono ?_; rintro e w1 ⟨rfl, hb⟩; have HV1 := (Vr.new w (.int .i64 (r : Int)) (.int .i64 (c : Int)) (.slice a n k)).later hb; have v0 := HV1.c0; have HB1 : Hid (Below w.heap.size w w1) := qa1 (qa0 _ _) hb; clear hb HV1)
  | (go_at_call 67; refine (qec r _ hr).mono ?_; rintro e w' ⟨rfl, rfl⟩; rw [HA.out]))
 go_ret
 exact ⟨rfl, HB1.out⟩
theorem qms (w : World) (r c n k s : Nat) (a : Option Addr) (F : Nat → Nat) (ha : Sl w a n F) (R : Rt r c n) (hs : s < 2 ^ r) :
  Calls Tryz.prog 54 #[mv r c a n k, .int .u64 (s : Int)] w fun e w' => ∃ t : Nat, e = .returned (.int .i64 (t : Int)) ∧ RS (m2 F r c) r s t ∧ Below w.heap.size w w' := by
 have hr := R.r64
 have hs6 := qca hr hs
 have HA : Hid (Sl w a n F) := ha
 have HRt : Hid (Rt r c n) := R
 have HS : Hid (s < 2 ^ r) := hs
 obtain ⟨K, f, hK, HFr, HConv, HL⟩ : ∃ (K : Nat) (f : Nat → Nat), K ≤ r ∧ Hid (∀ i, i < K → f i < r) ∧ Hid (∀ t, Rk (m2 (pkf F f c) K c) K t → RS (m2 F r c) r s t) ∧ Hid (∀ w' : World, Calls Tryz.prog 21 #[.int .u64 (s : Int)] w' fun e w'' => ∃ x d, e = .returned (.slice x K d) ∧ Il w'' x K (fun i => (f i : Int)) ∧ Below w'.heap.size w' w'') := by
  refine ⟨cn s r, lf s r, qb8 r s, fun i hi => (qaj hi).1, fun t h => qmr ha.1 R h, fun w' => (qgk s w' hs6).mono (fun e w'' h => ?_)⟩
  obtain ⟨v, he, ho, hb⟩ := h
  rw [qdw hr hs] at ho
  have ho2 := ho.congr (fun t _ => qh6 hr hs t)
  obtain ⟨x, d, rfl, _⟩ := ho2.form
  exact ⟨x, d, he, qgo ho2.jl, hb⟩
 obtain ⟨N, HN⟩ : ∃ N, Hid (K * c = N) := ⟨_, rfl⟩
 have HRk : Hid (Rt K c N) := ⟨by omega, R.c64, HN.out⟩
 have HPF : Hid (∀ i, i < N → pkf F f c i < 256) := fun i hi => qdt ha.1 R HFr.out i (by rw [HN.out]; exact hi)
 clear ha R hs hs6
 go_enter Tryz.func54, Tryz.ntmps54
 go_wp2
 -- REGION
 refine wp_region_held (S := fun w' => w'.cell? ⟨w.heap.size, 0, none⟩ = some (.int .i64 (r : Int)) ∧ w'.cell? ⟨w.heap.size, 1, none⟩ = some (.int .i64 (c : Int)) ∧ w'.cell? ⟨w.heap.size, 2, none⟩ = some (.slice a n k)) (by kernel_rfl) ?_
 change wpAnyH _ _ _ _ _ _ _ _ (World.drew _)
 obtain ⟨W0, HW0⟩ : ∃ W0, Hid ((w.alloc (.cells #[.int .i64 (r : Int), .int .i64 (c : Int), .slice a n k] 24)).drew = W0) := ⟨_, rfl⟩
 rw [HW0.out]
 have HX0 : Hid (Vr W0 w.heap.size (.int .i64 (r : Int)) (.int .i64 (c : Int)) (.slice a n k)) := by rw [← HW0.out]; exact (Vr.new w _ _ _).later (Below.refl _ _).drew
 have HB0 : Hid (Below w.heap.size w W0) := by rw [← HW0.out]; exact qa1 (qa0 _ _) (Below.refl _ _).drew
 refine wtkq 0 ?vq1 rfl (by kernel_rfl) (fun _ _ _ h => h) (by rfl) ?yq1 ⟨HX0.out.c0, HX0.out.c1, HX0.out.c2⟩ ?zq1
 case yq1 => (intro w hSw; (try dsimp only at hSw); go_simp; try with_reducible rfl)
 try simp only [mz1, mz3, Act.put, mz4, mz5, mz6]
 refine wtkq 1 ?vq2 rfl (by kernel_rfl) (fun _ _ _ h => h) (by rfl) ?yq2 ⟨HX0.out.c0, HX0.out.c1, HX0.out.c2⟩ ?zq2
 case yq2 => (intro w hSw; (try dsimp only at hSw); go_simp; try with_reducible rfl)
 try simp only [mz1, mz2, mz3, Act.put, mz4, mz5, mz6]
 refine wpAnyH_ready (rs := [2, 7]) (by kernel_rfl) (by simp) ?_
 refine AllReadyH.cons rfl (fun KK hKK => ?_) (AllReadyH.cons rfl (fun KK hKK => ?_) AllReadyH.nil)
 ·go_simp
  refine (HL.out _).mono ?_
  rintro e w1 ⟨xs1, d1, rfl, hj1, hb1⟩
  have HI1 : Hid (Il w1 xs1 K (fun i => (f i : Int))) := hj1
  have HB1 : Hid (Below w.heap.size w w1) := qa1 HB0.out hb1
  have HV1 : Hid (Vr w1 w.heap.size (.int .i64 (r : Int)) (.int .i64 (c : Int)) (.slice a n k)) := HX0.out.later hb1
  clear hj1 hb1
  refine hKK.out _ _ ⟨HV1.out.c0, HV1.out.c1, HV1.out.c2⟩ (fun _ => ?_)
  clear hKK KK
  try simp only [mz1, mz2, mz3, Act.put, mz4, mz5, mz6]
  refine wpAnyH_ready (rs := [3, 7]) (by kernel_rfl) (by simp) ?_
  refine AllReadyH.cons rfl (fun KK hKK => ?_) (AllReadyH.cons rfl (fun KK hKK => ?_) AllReadyH.nil)
  ·go_simp
   refine (qbz _ r c n k K d1 N a xs1 F f (HA.out.later HB1.out) HRt.out HI1.out HFr.out (by omega) HN).mono ?_
   rintro e w2 ⟨s2, d2, rfl, ho2, hb2⟩
   have HB2 : Hid (Below w.heap.size w w2) := qa1 HB1.out hb2
   have HV2 : Hid (Vr w2 w.heap.size (.int .i64 (r : Int)) (.int .i64 (c : Int)) (.slice a n k)) := HV1.out.later hb2
   have HO2 : Hid (w2.ownsRow w1.heap.size 5 1 (.slice s2 N d2) N (row N (pkf F f c)).toList) := ho2
   clear ho2 hb2
   refine hKK.out _ _ ⟨HV2.out.c0, HV2.out.c1, HV2.out.c2⟩ (fun _ => ?_)
   clear hKK KK
   try simp only [mz1, mz2, mz3, Act.put, mz4, mz5, mz6]
   refine wtkq 4 ?vq3 rfl (by kernel_rfl) (fun _ _ _ h => h) (by rfl) ?yq3 ⟨HV2.out.c0, HV2.out.c1, HV2.out.c2⟩ ?zq3
   case yq3 => (intro w hSw; (try dsimp only at hSw); go_simp; try with_reducible rfl)
   try simp only [mz1, mz2, mz3, Act.put, mz4, mz5, mz6]
   refine wtkq 5 ?vq4 rfl (by kernel_rfl) (fun _ _ _ h => h) (by rfl) ?yq4 ⟨HV2.out.c0, HV2.out.c1, HV2.out.c2⟩ ?zq4
   case yq4 => (intro w hSw; (try dsimp only at hSw); go_simp; try with_reducible rfl)
   try simp only [mz1, mz2, mz3, Act.put, mz4, mz5, mz6]
   refine wtkq 6 ?vq5 rfl (by kernel_rfl) (fun _ _ _ h => h) (by rfl) ?yq5 ⟨HV2.out.c0, HV2.out.c1, HV2.out.c2⟩ ?zq5
   case yq5 => (intro w hSw; (try dsimp only at hSw); go_simp; try with_reducible rfl)
   try simp only [mz1, mz2, mz3, Act.put, mz4, mz5, mz6]
   refine wpAnyH_ready (rs := [7]) (by kernel_rfl) (by simp) ?_
   refine AllReadyH.cons rfl (fun KK hKK => ?_) AllReadyH.nil
   go_simp
   have HZa2 : Hid (Vr (w2.alloc (.cells #[.int .i64 0, .int .i64 0, .slice none 0 0] 24)) w2.heap.size (.int .i64 0) (.int .i64 0) (.slice none 0 0)) := Vr.new _ _ _ _
   have HBa2 : Hid (Below w.heap.size w (w2.alloc (.cells #[.int .i64 0, .int .i64 0, .slice none 0 0] 24))) := qa1 HB2.out (qa0 _ _)
   have HVa2 : Hid (Vr (w2.alloc (.cells #[.int .i64 0, .int .i64 0, .slice none 0 0] 24)) w.heap.size (.int .i64 (r : Int)) (.int .i64 (c : Int)) (.slice a n k)) := HV2.out.later (qa0 _ _)
   have HOa2 : Hid ((w2.alloc (.cells #[.int .i64 0, .int .i64 0, .slice none 0 0] 24)).ownsRow w1.heap.size 5 1 (.slice s2 N d2) N (row N (pkf F f c)).toList) := World.ownsRow.alloc HO2.out _
   refine hKK.out _ _ ⟨HVa2.out.c0, HVa2.out.c1, HVa2.out.c2⟩ (fun _ => ?_)
   clear hKK KK
   try simp only [mz1, mz2, mz3, Act.put, mz4, mz5, mz6]
   refine wpAnyH_ready (rs := [8]) (by kernel_rfl) (by simp) ?_
   refine AllReadyH.cons rfl (fun KK hKK => ?_) AllReadyH.nil
   refine qay rfl _ _ rfl (w2.heap.size) _ _ _ (.int .i64 (K : Int)) (.int .i64 (c : Int)) (.slice s2 N d2) rfl rfl HZa2.out rfl rfl rfl ?_
   intro w4 HV4 HG4
   have hne4 : (Value.slice s2 N d2).ownBlock ≠ some (w2.heap.size) := own_lt HO2.out
   have HO4 : Hid (w4.ownsRow w1.heap.size 5 1 (.slice s2 N d2) N (row N (pkf F f c)).toList) := qg5 HOa2.out HG4.out hne4
   have HW4 : Hid (Vr w4 w.heap.size (.int .i64 (r : Int)) (.int .i64 (c : Int)) (.slice a n k)) := HVa2.out.kept HG4.out (by have := HV2.out.lt; omega)
   refine hKK.out _ _ ⟨HW4.out.c0, HW4.out.c1, HW4.out.c2⟩ (fun _ => ?_)
   clear hKK KK
   try simp only [mz1, mz2, mz3, Act.put]
   refine wtkq 9 ?vq6 rfl (by kernel_rfl) (fun _ _ _ h => h) (by rfl) ?yq6 ⟨HW4.out.c0, HW4.out.c1, HW4.out.c2⟩ ?zq6
   case yq6 => (intro w hSw; (try dsimp only at hSw); go_simp; try with_reducible rfl)
   try simp only [mz1, mz2, mz3, Act.put, mz4, mz5, mz6]
   refine wpAnyH_done (by kernel_rfl) ?_ _
   have HP4 : Hid (Sl w4 s2 N (pkf F f c)) := qcf HO4.out HPF.out
   have HN4 : Hid (s2 = none → N = 0 ∧ d2 = 0) := qbn HO4.out
   have x0 := HV4.out.c0
   have x1 := HV4.out.c1
   have x2 := HV4.out.c2
   have HB4 : Hid (Below w.heap.size w w4) := HBa2.out.trans (jbelow HG4.out HBa2.out.size (fun g e => by cases e; have := HV2.out.lt; omega))
   go_wp2_with (go_at_call 84; refine (qe7 _ K c N d2 s2 (pkf F f c) HP4.out HN4.out HRk.out).mono ?_; rintro e w5 ⟨t, rfl, hk, hb5⟩; have HT : Hid (RS (m2 F r c) r s t) := HConv.out t hk; have HB5 : Hid (Below w.heap.size w w5) := qa1 HB4.out hb5; clear hk hb5)
   go_ret
   exact ⟨t, rfl, HT.out, HB5.out⟩
  ·go_simp
   have HZa1 : Hid (Vr (w1.alloc (.cells #[.int .i64 0, .int .i64 0, .slice none 0 0] 24)) w1.heap.size (.int .i64 0) (.int .i64 0) (.slice none 0 0)) := Vr.new _ _ _ _
   have HBa1 : Hid (Below w.heap.size w (w1.alloc (.cells #[.int .i64 0, .int .i64 0, .slice none 0 0] 24))) := qa1 HB1.out (qa0 _ _)
   have HVa1 : Hid (Vr (w1.alloc (.cells #[.int .i64 0, .int .i64 0, .slice none 0 0] 24)) w.heap.size (.int .i64 (r : Int)) (.int .i64 (c : Int)) (.slice a n k)) := HV1.out.later (qa0 _ _)
   have HIa1 : Hid (Il (w1.alloc (.cells #[.int .i64 0, .int .i64 0, .slice none 0 0] 24)) xs1 K (fun i => (f i : Int))) := HI1.out.later (qa0 _ _)
   refine hKK.out _ _ ⟨HVa1.out.c0, HVa1.out.c1, HVa1.out.c2⟩ (fun _ => ?_)
   clear hKK KK
   try simp only [mz1, mz2, mz3, Act.put, mz4, mz5, mz6]
   refine wpAnyH_ready (rs := [3]) (by kernel_rfl) (by simp) ?_
   refine AllReadyH.cons rfl (fun KK hKK => ?_) AllReadyH.nil
   go_simp
   refine (qbz _ r c n k K d1 N a xs1 F f (HA.out.later HBa1.out) HRt.out HIa1.out HFr.out (by omega) HN).mono ?_
   rintro e w2 ⟨s2, d2, rfl, ho2, hb2⟩
   have HB2 : Hid (Below w.heap.size w w2) := qa1 HBa1.out hb2
   have HV2 : Hid (Vr w2 w.heap.size (.int .i64 (r : Int)) (.int .i64 (c : Int)) (.slice a n k)) := HVa1.out.later hb2
   have HO2 : Hid (w2.ownsRow (w1.alloc (.cells #[.int .i64 0, .int .i64 0, .slice none 0 0] 24)).heap.size 5 1 (.slice s2 N d2) N (row N (pkf F f c)).toList) := ho2
   have HZ2 : Hid (Vr w2 w1.heap.size (.int .i64 0) (.int .i64 0) (.slice none 0 0)) := HZa1.out.later hb2
   have hbz : w1.heap.size < (w1.alloc (.cells #[.int .i64 0, .int .i64 0, .slice none 0 0] 24)).heap.size := HZa1.out.lt
   clear ho2 hb2
   refine hKK.out _ _ ⟨HV2.out.c0, HV2.out.c1, HV2.out.c2⟩ (fun _ => ?_)
   clear hKK KK
   try simp only [mz1, mz2, mz3, Act.put, mz4, mz5, mz6]
   refine wtkq 4 ?vq7 rfl (by kernel_rfl) (fun _ _ _ h => h) (by rfl) ?yq7 ⟨HV2.out.c0, HV2.out.c1, HV2.out.c2⟩ ?zq7
   case yq7 => (intro w hSw; (try dsimp only at hSw); go_simp; try with_reducible rfl)
   try simp only [mz1, mz2, mz3, Act.put, mz4, mz5, mz6]
   refine wtkq 5 ?vq8 rfl (by kernel_rfl) (fun _ _ _ h => h) (by rfl) ?yq8 ⟨HV2.out.c0, HV2.out.c1, HV2.out.c2⟩ ?zq8
   case yq8 => (intro w hSw; (try dsimp only at hSw); go_simp; try with_reducible rfl)
   try simp only [mz1, mz2, mz3, Act.put, mz4, mz5, mz6]
   refine wtkq 6 ?vq9 rfl (by kernel_rfl) (fun _ _ _ h => h) (by rfl) ?yq9 ⟨HV2.out.c0, HV2.out.c1, HV2.out.c2⟩ ?zq9
   case yq9 => (intro w hSw; (try dsimp only at hSw); go_simp; try with_reducible rfl)
   try simp only [mz1, mz2, mz3, Act.put, mz4, mz5, mz6]
   refine wpAnyH_ready (rs := [8]) (by kernel_rfl) (by simp) ?_
   refine AllReadyH.cons rfl (fun KK hKK => ?_) AllReadyH.nil
   refine qay rfl _ _ rfl (w1.heap.size) _ _ _ (.int .i64 (K : Int)) (.int .i64 (c : Int)) (.slice s2 N d2) rfl rfl HZ2.out rfl rfl rfl ?_
   intro w4 HV4 HG4
   have hne4 : (Value.slice s2 N d2).ownBlock ≠ some (w1.heap.size) := fun e => by have := qaa HO2.out _ e; omega
   have HO4 : Hid (w4.ownsRow (w1.alloc (.cells #[.int .i64 0, .int .i64 0, .slice none 0 0] 24)).heap.size 5 1 (.slice s2 N d2) N (row N (pkf F f c)).toList) := qg5 HO2.out HG4.out hne4
   have HW4 : Hid (Vr w4 w.heap.size (.int .i64 (r : Int)) (.int .i64 (c : Int)) (.slice a n k)) := HV2.out.kept HG4.out (by have := HV1.out.lt; omega)
   refine hKK.out _ _ ⟨HW4.out.c0, HW4.out.c1, HW4.out.c2⟩ (fun _ => ?_)
   clear hKK KK
   try simp only [mz1, mz2, mz3, Act.put]
   refine wtkq 9 ?vq10 rfl (by kernel_rfl) (fun _ _ _ h => h) (by rfl) ?yq10 ⟨HW4.out.c0, HW4.out.c1, HW4.out.c2⟩ ?zq10
   case yq10 => (intro w hSw; (try dsimp only at hSw); go_simp; try with_reducible rfl)
   try simp only [mz1, mz2, mz3, Act.put, mz4, mz5, mz6]
   refine wpAnyH_done (by kernel_rfl) ?_ _
   have HP4 : Hid (Sl w4 s2 N (pkf F f c)) := qcf HO4.out HPF.out
   have HN4 : Hid (s2 = none → N = 0 ∧ d2 = 0) := qbn HO4.out
   have x0 := HV4.out.c0
   have x1 := HV4.out.c1
   have x2 := HV4.out.c2
   have HB4 : Hid (Below w.heap.size w w4) := HB2.out.trans (jbelow HG4.out HB2.out.size (fun g e => by cases e; have := HV1.out.lt; omega))
   go_wp2_with (go_at_call 84; refine (qe7 _ K c N d2 s2 (pkf F f c) HP4.out HN4.out HRk.out).mono ?_; rintro e w5 ⟨t, rfl, hk, hb5⟩; have HT : Hid (RS (m2 F r c) r s t) := HConv.out t hk; have HB5 : Hid (Below w.heap.size w w5) := qa1 HB4.out hb5; clear hk hb5)
   go_ret
   exact ⟨t, rfl, HT.out, HB5.out⟩
 ·go_simp
  have HZa0 : Hid (Vr (W0.alloc (.cells #[.int .i64 0, .int .i64 0, .slice none 0 0] 24)) W0.heap.size (.int .i64 0) (.int .i64 0) (.slice none 0 0)) := Vr.new _ _ _ _
  have HBa0 : Hid (Below w.heap.size w (W0.alloc (.cells #[.int .i64 0, .int .i64 0, .slice none 0 0] 24))) := qa1 HB0.out (qa0 _ _)
  have HVa0 : Hid (Vr (W0.alloc (.cells #[.int .i64 0, .int .i64 0, .slice none 0 0] 24)) w.heap.size (.int .i64 (r : Int)) (.int .i64 (c : Int)) (.slice a n k)) := HX0.out.later (qa0 _ _)
  refine hKK.out _ _ ⟨HVa0.out.c0, HVa0.out.c1, HVa0.out.c2⟩ (fun _ => ?_)
  clear hKK KK
  try simp only [mz1, mz2, mz3, Act.put, mz4, mz5, mz6]
  refine wpAnyH_ready (rs := [2]) (by kernel_rfl) (by simp) ?_
  refine AllReadyH.cons rfl (fun KK hKK => ?_) AllReadyH.nil
  go_simp
  refine (HL.out _).mono ?_
  rintro e w1 ⟨xs1, d1, rfl, hj1, hb1⟩
  have HI1 : Hid (Il w1 xs1 K (fun i => (f i : Int))) := hj1
  have HB1 : Hid (Below w.heap.size w w1) := qa1 HBa0.out hb1
  have HV1 : Hid (Vr w1 w.heap.size (.int .i64 (r : Int)) (.int .i64 (c : Int)) (.slice a n k)) := HVa0.out.later hb1
  have HZ1 : Hid (Vr w1 W0.heap.size (.int .i64 0) (.int .i64 0) (.slice none 0 0)) := HZa0.out.later hb1
  clear hj1 hb1
  refine hKK.out _ _ ⟨HV1.out.c0, HV1.out.c1, HV1.out.c2⟩ (fun _ => ?_)
  clear hKK KK
  try simp only [mz1, mz2, mz3, Act.put, mz4, mz5, mz6]
  refine wpAnyH_ready (rs := [3]) (by kernel_rfl) (by simp) ?_
  refine AllReadyH.cons rfl (fun KK hKK => ?_) AllReadyH.nil
  go_simp
  refine (qbz _ r c n k K d1 N a xs1 F f (HA.out.later HB1.out) HRt.out HI1.out HFr.out (by omega) HN).mono ?_
  rintro e w2 ⟨s2, d2, rfl, ho2, hb2⟩
  have HB2 : Hid (Below w.heap.size w w2) := qa1 HB1.out hb2
  have HV2 : Hid (Vr w2 w.heap.size (.int .i64 (r : Int)) (.int .i64 (c : Int)) (.slice a n k)) := HV1.out.later hb2
  have HO2 : Hid (w2.ownsRow w1.heap.size 5 1 (.slice s2 N d2) N (row N (pkf F f c)).toList) := ho2
  have HZ2 : Hid (Vr w2 W0.heap.size (.int .i64 0) (.int .i64 0) (.slice none 0 0)) := HZ1.out.later hb2
  have hbz : W0.heap.size < w1.heap.size := HZ1.out.lt
  clear ho2 hb2
  refine hKK.out _ _ ⟨HV2.out.c0, HV2.out.c1, HV2.out.c2⟩ (fun _ => ?_)
  clear hKK KK
  try simp only [mz1, mz2, mz3, Act.put, mz4, mz5, mz6]
  refine wtkq 4 ?vq11 rfl (by kernel_rfl) (fun _ _ _ h => h) (by rfl) ?yq11 ⟨HV2.out.c0, HV2.out.c1, HV2.out.c2⟩ ?zq11
  case yq11 => (intro w hSw; (try dsimp only at hSw); go_simp; try with_reducible rfl)
  try simp only [mz1, mz2, mz3, Act.put, mz4, mz5, mz6]
  refine wtkq 5 ?vq12 rfl (by kernel_rfl) (fun _ _ _ h => h) (by rfl) ?yq12 ⟨HV2.out.c0, HV2.out.c1, HV2.out.c2⟩ ?zq12
  case yq12 => (intro w hSw; (try dsimp only at hSw); go_simp; try with_reducible rfl)
  try simp only [mz1, mz2, mz3, Act.put, mz4, mz5, mz6]
  refine wtkq 6 ?vq13 rfl (by kernel_rfl) (fun _ _ _ h => h) (by rfl) ?yq13 ⟨HV2.out.c0, HV2.out.c1, HV2.out.c2⟩ ?zq13
  case yq13 => (intro w hSw; (try dsimp only at hSw); go_simp; try with_reducible rfl)
  try simp only [mz1, mz2, mz3, Act.put, mz4, mz5, mz6]
  refine wpAnyH_ready (rs := [8]) (by kernel_rfl) (by simp) ?_
  refine AllReadyH.cons rfl (fun KK hKK => ?_) AllReadyH.nil
  refine qay rfl _ _ rfl (W0.heap.size) _ _ _ (.int .i64 (K : Int)) (.int .i64 (c : Int)) (.slice s2 N d2) rfl rfl HZ2.out rfl rfl rfl ?_
  intro w4 HV4 HG4
  have hne4 : (Value.slice s2 N d2).ownBlock ≠ some (W0.heap.size) := fun e => by have := qaa HO2.out _ e; omega
  have HO4 : Hid (w4.ownsRow w1.heap.size 5 1 (.slice s2 N d2) N (row N (pkf F f c)).toList) := qg5 HO2.out HG4.out hne4
  have HW4 : Hid (Vr w4 w.heap.size (.int .i64 (r : Int)) (.int .i64 (c : Int)) (.slice a n k)) := HV2.out.kept HG4.out (by have := HX0.out.lt; omega)
  refine hKK.out _ _ ⟨HW4.out.c0, HW4.out.c1, HW4.out.c2⟩ (fun _ => ?_)
  clear hKK KK
  try simp only [mz1, mz2, mz3, Act.put]
  refine wtkq 9 ?vq14 rfl (by kernel_rfl) (fun _ _ _ h => h) (by rfl) ?yq14 ⟨HW4.out.c0, HW4.out.c1, HW4.out.c2⟩ ?zq14
  case yq14 => (intro w hSw; (try dsimp only at hSw); go_simp; try with_reducible rfl)
  try simp only [mz1, mz2, mz3, Act.put, mz4, mz5, mz6]
  refine wpAnyH_done (by kernel_rfl) ?_ _
  have HP4 : Hid (Sl w4 s2 N (pkf F f c)) := qcf HO4.out HPF.out
  have HN4 : Hid (s2 = none → N = 0 ∧ d2 = 0) := qbn HO4.out
  have x0 := HV4.out.c0
  have x1 := HV4.out.c1
  have x2 := HV4.out.c2
  have HB4 : Hid (Below w.heap.size w w4) := HB2.out.trans (jbelow HG4.out HB2.out.size (fun g e => by cases e; have := HX0.out.lt; omega))
  go_wp2_with (go_at_call 84; refine (qe7 _ K c N d2 s2 (pkf F f c) HP4.out HN4.out HRk.out).mono ?_; rintro e w5 ⟨t, rfl, hk, hb5⟩; have HT : Hid (RS (m2 F r c) r s t) := HConv.out t hk; have HB5 : Hid (Below w.heap.size w w5) := qa1 HB4.out hb5; clear hk hb5)
  go_ret
  exact ⟨t, rfl, HT.out, HB5.out⟩
open Go.RowKit
theorem qjg (w : World) (r c n k s : Nat) (a : Option Addr) (F : Nat → Nat) (ha : Sl w a n F) (R : Rt r c n) (hs : s < 2 ^ r) :
  Calls Tryz.prog 53 #[mv r c a n k, .int .u64 (s : Int)] w fun e w' => ∃ t : Nat, e = .returned (.tuple #[.int .i64 (t : Int), .int .i64 0]) ∧ RS (m2 F r c) r s t ∧ Below w.heap.size w w' := by
 have HC : Hid (∀ w' : World, Calls Tryz.prog 83 #[mv r c a n k, .int .u64 (s : Int)] w' fun e w'' => e = .returned (.int .i64 0) ∧ Below w'.heap.size w' w'') := fun w' => rbad_ok w' r c n k s a R hs
 have HK : Hid (∀ w' : World, Below w.heap.size w w' → Calls Tryz.prog 54 #[mv r c a n k, .int .u64 (s : Int)] w' fun e w'' => ∃ t : Nat, e = .returned (.int .i64 (t : Int)) ∧ RS (m2 F r c) r s t ∧ Below w'.heap.size w' w'') := fun w' hb => qms w' r c n k s a F (ha.later hb) R hs
 clear ha R hs
 go_enter Tryz.func53, Tryz.ntmps53
 go_wp2_with (first
  | (go_at_call 83; refine (HC.out _).mono ?_; rintro e w1 ⟨rfl, hb⟩; have HV1 := (Vr.new w (.int .i64 (r : Int)) (.int .i64 (c : Int)) (.slice a n k)).later hb; have v0 := HV1.c0; have v1 := HV1.c1; have v2 := HV1.c2; have HB1 : Hid (Below w.heap.size w w1) := qa1 (qa0 _ _) hb; clear hb HV1)
  | (go_at_call 54; refine (HK.out _ HB1.out).mono ?_; rintro e w2 ⟨t, rfl, ht, hb⟩; have HT : Hid (RS (m2 F r c) r s t) := ht; have HB2 : Hid (Below w.heap.size w w2) := qa1 HB1.out hb; clear hb ht))
 go_ret2
 exact ⟨t, rfl, HT.out, HB2.out⟩
open Go.RowKit
theorem or_lt7 {s i r : Nat} (hs : s < 2 ^ r) (hi : i < r) : s ||| 2 ^ i < 2 ^ r := Nat.or_lt_two_pow hs (Nat.pow_lt_pow_right (by decide) hi)
theorem j_or7 {s T u i r : Nat} (hr : r ≤ 64) (hs : s < 2 ^ r) (hi : i < r) (hT : 2 ^ i = T) (hu : s ||| T = u) : bits .or .u64 (s : Int) (T : Int) = (u : Int) := by
 have h1 := qbc (show i < 64 by omega)
 rw [u64_or_nat s T (qca hr hs) (by omega), hu]
theorem j_rem7 {s T u i r : Nat} (hr : r ≤ 64) (hs : s < 2 ^ r) (hi : i < r) (hT : 2 ^ i = T) (hu : rem s i = u) : bits .andNot .u64 (s : Int) (T : Int) = (u : Int) := by
 have h1 := qbc (show i < 64 by omega)
 rw [u64_andNot_nat s T (qca hr hs) (by omega), ← hu, ← hT]
 rfl
theorem qmt {s i r : Nat} (hs : s < 2 ^ r) : rem s i < 2 ^ r := Nat.lt_of_le_of_lt Nat.and_le_left hs
theorem rem_back {s i r : Nat} (hr : r ≤ 64) (hs : s < 2 ^ r) (hi : i < r) (hb : bt s i = 1) : ∀ j, j < r → (bt (rem s i ||| 2 ^ i) j = 1 ↔ bt s j = 1) := fun j _ => by
 rw [qbq, qbv, qdy (qca hr hs) (by omega)]
 constructor
 ·rintro (h | h)
  ·exact h.1
  ·rw [h]; exact hb
 ·intro h
  by_cases e : j = i
  ·exact .inr e
  ·exact .inl ⟨h, e⟩
end Go.Proofs.YtblagbghpfopcaaGreat
