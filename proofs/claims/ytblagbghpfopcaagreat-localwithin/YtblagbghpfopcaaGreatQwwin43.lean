/-
  Contracts of the program's matroid: rowsOf, ofNoughts.
  Contracts of the program's matroid: ofNoughts.
  Contracts of the program's matroid: Rank, Free, Covers.
  Contracts of the program's matroid: Span, Needed.
  Contracts of the program's matroid: Basis.
  Contracts of the program's matroid: Circuit.
  The program's matroid and the rows' reference, together.
  The program's calls on sets of rows and the reference's answer the same.
  The checks' own anchor: one rank and one circuit that the document fixes.
  What the checks of stage 7 need besides: right; ranks as numbers; lists' lengths.
  The program's Span, Basis, Free and Needed as numbers; a set that lies in another.
  The checks' own anchor: one place and one number that the document fixes.
  For what stays: a copy; two lists or matrices that are alike.
-/
import Derived.Test.YtblagbghpfopcaaGreatQwwin00
import Derived.Test.YtblagbghpfopcaaGreatQwwin41
import Derived.Test.YtblagbghpfopcaaGreatQwwin38
import Derived.Test.YtblagbghpfopcaaGreatQwwin27
import Derived.Test.YtblagbghpfopcaaGreatQwwin18
import Derived.Test.YtblagbghpfopcaaGreatQwwin40
import Derived.Test.YtblagbghpfopcaaGreatQwwin17
import Derived.Test.YtblagbghpfopcaaGreatQwwin13
import Derived.Test.YtblagbghpfopcaaGreatQwwin09
set_option maxRecDepth 100000
set_option maxHeartbeats 16000000
namespace Go.Proofs.YtblagbghpfopcaaGreat
open Go.RowKit
theorem rows_any (w : World) (r c r' c' E : Int) (n k s kq n' : Nat) (a : Option Addr) (q : Nat → Int) (Q : World → Option Addr → Nat → Prop)
  (HL : Hid (∀ w' : World, Calls Tryz.prog 28 #[.int .u64 (s : Int)] w' fun e w'' => ∃ x d, e = .returned (.slice x kq d) ∧ Il w'' x kq q ∧ Below w'.heap.size w' w''))
  (HP : Hid (∀ (w' : World) (x : Option Addr) (d : Nat), Below w.heap.size w w' → w.heap.size + 2 ≤ w'.heap.size → Il w' x kq q → Calls Tryz.prog 29 #[mv r c a n k, .slice x kq d] w' fun e w'' => ∃ a' k', e = .returned (.tuple #[mv r' c' a' n' k', .int .i64 E]) ∧ Q w'' a' k' ∧ Below w'.heap.size w' w''))
  (HQ : Hid (∀ (w1 w2 : World) (a' : Option Addr) (k' : Nat), Q w1 a' k' → w1.grownBy w2 (some (w.heap.size + 1)) → Q w2 a' k')) :
  Calls Tryz.prog 97 #[mv r c a n k, .int .u64 (s : Int)] w fun e w' => ∃ a' k', e = .returned (.tuple #[mv r' c' a' n' k', .int .i64 E]) ∧ Q w' a' k' ∧ Below w.heap.size w w' := by
 go_enter Tryz.func97, Tryz.ntmps97
 go_wp2
 refine wp_region_held (S := fun w' => w'.cell? ⟨w.heap.size, 0, none⟩ = some (.int .i64 r) ∧ w'.cell? ⟨w.heap.size, 1, none⟩ = some (.int .i64 c) ∧ w'.cell? ⟨w.heap.size, 2, none⟩ = some (.slice a n k)) (by kernel_rfl) ?_
 change wpAnyH _ _ _ _ _ _ _ _ (World.drew _)
 obtain ⟨W0, HW0⟩ : ∃ W0, Hid (((w.alloc (.cells #[.int .i64 r, .int .i64 c, .slice a n k] 24)).alloc (.cells #[.int .i64 0, .int .i64 0, .slice none 0 0] 24)).drew = W0) := ⟨_, rfl⟩
 rw [HW0.out]
 have HX0 : Hid (Vr W0 w.heap.size (.int .i64 r) (.int .i64 c) (.slice a n k)) := by rw [← HW0.out]; exact ((Vr.new w _ _ _).later (qa1 _ _)).later (Below.refl _ _).drew
 have HY0 : Hid (Vr W0 (w.heap.size + 1) (.int .i64 0) (.int .i64 0) (.slice none 0 0)) := by rw [← HW0.out]; show Vr _ _ _ _ _; have := (Vr.new (w.alloc (.cells #[.int .i64 r, .int .i64 c, .slice a n k] 24)) (.int .i64 0) (.int .i64 0) (.slice none 0 0)).later (Below.refl _ _).drew; simpa using this
 have HB0 : Hid (Below w.heap.size w W0) := by rw [← HW0.out]; exact qa0 (qa0 (qa1 _ _) (qa1 _ _)) (Below.refl _ _).drew
 have hz0 : w.heap.size + 2 ≤ W0.heap.size := HY0.out.lt
 refine wtkq 0 ?v0 rfl (by kernel_rfl) (fun _ _ _ h => h) (by rfl) ?y0 ⟨HX0.out.c0, HX0.out.c1, HX0.out.c2⟩ ?z0
 case y0 => (intro w hSw; (try dsimp only at hSw); go_simp; try with_reducible rfl)
 try simp only [mz1, mz3, Act.put, mz4, mz5, mz6]
 refine wtkq 1 ?v1 rfl (by kernel_rfl) (fun _ _ _ h => h) (by rfl) ?y1 ⟨HX0.out.c0, HX0.out.c1, HX0.out.c2⟩ ?z1
 case y1 => (intro w hSw; (try dsimp only at hSw); go_simp; try with_reducible rfl)
 try simp only [mz1, mz2, mz3, Act.put, mz4, mz5, mz6]
 refine wpAnyH_ready (rs := [2]) (by kernel_rfl) (by simp) ?_
 refine AllReadyH.cons rfl (fun K hK => ?_) AllReadyH.nil
 go_simp
 refine (HL.out _).mono ?_
 rintro e w1 ⟨x1, d1, rfl, hj1, hb1⟩
 have HI1 : Hid (Il w1 x1 kq q) := hj1
 have HB1 : Hid (Below w.heap.size w w1) := qa0 HB0.out hb1
 have HV1 : Hid (Vr w1 w.heap.size (.int .i64 r) (.int .i64 c) (.slice a n k)) := HX0.out.later hb1
 have HY1 : Hid (Vr w1 (w.heap.size + 1) (.int .i64 0) (.int .i64 0) (.slice none 0 0)) := HY0.out.later hb1
 have hz1 : w.heap.size + 2 ≤ w1.heap.size := Nat.le_trans hz0 hb1.size
 clear hj1 hb1
 refine hK.out _ _ ⟨HV1.out.c0, HV1.out.c1, HV1.out.c2⟩ (fun _ => ?_)
 clear hK K
 try simp only [mz1, mz2, mz3, Act.put, mz4, mz5, mz6]
 refine wpAnyH_ready (rs := [3]) (by kernel_rfl) (by simp) ?_
 refine AllReadyH.cons rfl (fun K hK => ?_) AllReadyH.nil
 go_simp
 refine (HP.out _ _ _ HB1.out hz1 HI1.out).mono ?_
 rintro e w2 ⟨a2, k2, rfl, hq2, hb2⟩
 have HQ2 : Hid (Q w2 a2 k2) := hq2
 have HB2 : Hid (Below w.heap.size w w2) := qa0 HB1.out hb2
 have HV2 : Hid (Vr w2 w.heap.size (.int .i64 r) (.int .i64 c) (.slice a n k)) := HV1.out.later hb2
 have HY2 : Hid (Vr w2 (w.heap.size + 1) (.int .i64 0) (.int .i64 0) (.slice none 0 0)) := HY1.out.later hb2
 clear hq2 hb2
 refine hK.out _ _ ⟨HV2.out.c0, HV2.out.c1, HV2.out.c2⟩ (fun _ => ?_)
 clear hK K
 try simp only [mz1, mz2, mz3, Act.put, mz4, mz5, mz6]
 refine wtkq 4 ?v4 rfl (by kernel_rfl) (fun _ _ _ h => h) (by rfl) ?y4 ⟨HV2.out.c0, HV2.out.c1, HV2.out.c2⟩ ?z4
 case y4 => (intro w hSw; (try dsimp only at hSw); go_simp; try with_reducible rfl)
 try simp only [mz1, mz2, mz3, Act.put, mz4, mz5, mz6]
 refine wtkq 5 ?v5 rfl (by kernel_rfl) (fun _ _ _ h => h) (by rfl) ?y5 ⟨HV2.out.c0, HV2.out.c1, HV2.out.c2⟩ ?z5
 case y5 => (intro w hSw; (try dsimp only at hSw); go_simp; try with_reducible rfl)
 try simp only [mz1, mz2, mz3, Act.put, mz4, mz5, mz6]
 refine wpAnyH_ready (rs := [6]) (by kernel_rfl) (by simp) ?_
 refine AllReadyH.cons rfl (fun K hK => ?_) AllReadyH.nil
 refine qaq rfl _ _ rfl (w.heap.size + 1) _ _ _ (.int .i64 r') (.int .i64 c') (.slice a2 n' k2) rfl rfl HY2.out rfl rfl rfl ?_
 intro w4 HV4 HG4
 have HQ4 : Hid (Q w4 a2 k2) := HQ.out _ _ _ _ HQ2.out HG4.out
 have HW4 : Hid (Vr w4 w.heap.size (.int .i64 r) (.int .i64 c) (.slice a n k)) := HV2.out.kept HG4.out (by omega)
 have HB4 : Hid (Below w.heap.size w w4) := HB2.out.trans (jbelow HG4.out HB2.out.size (fun g e => by cases e; omega))
 refine hK.out _ _ ⟨HW4.out.c0, HW4.out.c1, HW4.out.c2⟩ (fun _ => ?_)
 clear hK K
 try simp only [mz1, mz2, mz3, Act.put]
 refine wtkq 7 ?v7 rfl (by kernel_rfl) (fun _ _ _ h => h) (by rfl) ?y7 ⟨HW4.out.c0, HW4.out.c1, HW4.out.c2⟩ ?z7
 case y7 => (intro w hSw; (try dsimp only at hSw); go_simp; try with_reducible rfl)
 try simp only [mz1, mz2, mz3, Act.put, mz4, mz5, mz6]
 refine wpAnyH_done (by kernel_rfl) ?_ _
 have x0 := HV4.out.c0
 have x1 := HV4.out.c1
 have x2 := HV4.out.c2
 go_wp2
 refine bodyPost_ret (v := .tuple #[mv r' c' a2 n' k2, .int .i64 E]) (by simp [results, Tryz.results97, go_sem, x0, x1, x2, mv]) rfl ?_
 exact ⟨a2, k2, rfl, HQ4.out, HB4.out⟩
theorem qmo {s K : Nat} {f : Nat → Nat} (hs : s < 18446744073709551616) (hK : cn s 64 = K) (hf : ∀ i, i < K → lf s 64 i = f i) : Hid (∀ w' : World, Calls Tryz.prog 28 #[.int .u64 (s : Int)] w' fun e w'' => ∃ x d, e = .returned (.slice x K d) ∧ Il w'' x K (fun i => (f i : Int)) ∧ Below w'.heap.size w' w'') :=
 fun w' => (qg5 s w' hs).mono (fun e w'' h => by
  obtain ⟨v, he, ho, hb⟩ := h
  rw [hK] at ho
  have ho2 := ho.congr hf
  obtain ⟨x, d, rfl, _⟩ := ho2.form
  exact ⟨x, d, he, qit ho2.jl, hb⟩)
/-- The rows of a set. -/
theorem rows_ok (w : World) (r c n k s N : Nat) (a : Option Addr) (F : Nat → Nat) (ha : Mt w a n k F) (R : Rt r c n) (hs : s < 2 ^ r) (HN : Hid (cn s r * c = N)) :
  Calls Tryz.prog 97 #[mv r c a n k, .int .u64 (s : Int)] w fun e w' => ∃ g, e = .returned (.tuple #[mv (cn s r : Nat) c (some ⟨g, 0, none⟩) N N, .int .i64 0]) ∧ RowAt w' g 5 N (pkf F (lf s r) c) ∧ Below w.heap.size w w' := by
 have hr := R.r64
 have hs6 := qc7 hr hs
 have hcl := qb0 r s
 refine (rows_any w r c (cn s r : Nat) c 0 n k s (cn s r) N a (fun i => (lf s r i : Int)) (fun w' a' k' => k' = N ∧ ∃ g, a' = some ⟨g, 0, none⟩ ∧ RowAt w' g 5 N (pkf F (lf s r) c) ∧ w.heap.size + 2 ≤ g) (qmo hs6 (qfe hr hs) (fun i _ => qm8 hr hs i)) (fun w' x d hb hz hi => ?_) (fun w1 w2 a' k' h hg => ?_)).mono (fun e w' h => ?_)
 ·refine (qg6 w' r c n k (cn s r) d N a x F (lf s r) (ha.later hb) R hi (fun i hi => (qal hi).1) (by omega) HN).mono (fun e w'' h => ?_)
  obtain ⟨g, he, hr, hg, hb2⟩ := h
  exact ⟨some ⟨g, 0, none⟩, N, he, ⟨rfl, g, rfl, hr, by omega⟩, hb2⟩
 ·obtain ⟨rfl, g, rfl, hr, hg2⟩ := h
  exact ⟨rfl, g, rfl, hr.kept hg (by omega), hg2⟩
 ·obtain ⟨a', k', rfl, ⟨rfl, g, rfl, hr, _⟩, hb⟩ := h
  exact ⟨g, rfl, hr, hb⟩
open Go.RowKit
theorem qmp {w w' : World} {d t n K : Nat} {H : Nat → Nat} {e : Ending} (hH : ∀ i, i < n → H i < 256) (R : Rt K d n) (ht : t < K) (h : ∃ v, e = .returned (.tuple #[v, .int .i64 0]) ∧ w'.ownsRow w.heap.size 5 1 v d (row d (fun j => H (t * d + j))).toList ∧ Below w.heap.size w w') :
  ∃ s c, e = .returned (.tuple #[.slice s d c, .int .i64 0]) ∧ Sl w' s d (fun j => H (t * d + j)) ∧ Below w.heap.size w w' := by
 obtain ⟨v, he, ho, hb⟩ := h
 obtain ⟨s, c, rfl, hs, _⟩ := ql1 ho (fun j hj => hH _ (R.at ht hj))
 exact ⟨s, c, he, hs, hb⟩
open Go.RowKit
theorem qjz (w : World) (r c n k s : Nat) (a : Option Addr) (F : Nat → Nat) (ha : Mt w a n k F) (R : Rt r c n) (hs : s < 2 ^ r) :
  ∃ (K N : Nat) (P : Nat → Nat), K ≤ 64 ∧ Hid (K = cn s r) ∧ Hid (P = pkf F (lf s r) c) ∧ Hid (Rt K c N) ∧ Hid (∀ i, i < N → P i < 256) ∧ Hid (∀ w' : World, Below w.heap.size w w' → Calls Tryz.prog 97 #[mv r c a n k, .int .u64 (s : Int)] w' fun e w'' => ∃ g, e = .returned (.tuple #[mv K c (some ⟨g, 0, none⟩) N N, .int .i64 0]) ∧ Mt w'' (some ⟨g, 0, none⟩) N N P ∧ Below w'.heap.size w' w'') := by
 have hr := R.r64
 have hcl := qb0 r s
 have hP : ∀ i, i < cn s r * c → pkf F (lf s r) c i < 256 := fun i hi => qfa ha.sl.1 R (fun i hi => (qal hi).1) i hi
 refine ⟨cn s r, cn s r * c, pkf F (lf s r) c, by omega, rfl, rfl, ⟨by omega, R.c64, rfl⟩, hP, fun w' hb => ?_⟩
 refine (rows_ok w' r c n k s _ a F (ha.later hb) R hs rfl).mono (fun e w'' h => ?_)
 obtain ⟨g, he, hr, hb⟩ := h
 exact ⟨g, he, hr.mt hP, hb⟩
theorem tRank_ok (w : World) (r c n k s : Nat) (a : Option Addr) (F : Nat → Nat) (ha : Mt w a n k F) (R : Rt r c n) (hs : s < 2 ^ r) :
  Calls Tryz.prog 78 #[mv r c a n k, .int .u64 (s : Int)] w fun e w' => ∃ t : Nat, e = .returned (.tuple #[.int .i64 (t : Int), .int .i64 0]) ∧ RS (m2 F r c) r s t ∧ Below w.heap.size w w' := by
 obtain ⟨K, N, P, hK, HK, HP, HRk, _, HC⟩ := qjz w r c n k s a F ha R hs
 have HT : Hid (∀ t, Rk (m2 P K c) K t → RS (m2 F r c) r s t) := fun t h => by rw [HK.out, HP.out] at h; exact qmc ha.sl.1 R h
 clear ha R hs HK HP
 go_enter Tryz.func78, Tryz.ntmps78
 go_wp2_with (first
  | (go_at_call 97; refine (HC.out _ (qa1 _ _)).mono ?_; rintro e w1 ⟨g, rfl, hm1, hb1⟩; have HM1 : Hid (Mt w1 (some ⟨g, 0, none⟩) N N P) := hm1; have HB1 : Hid (Below w.heap.size w w1) := qa0 (qa1 _ _) hb1; have va := Vr.new w1 (.int .i64 (K : Int)) (.int .i64 (c : Int)) (.slice (some ⟨g, 0, none⟩) N N); have a0 := va.c0; have a1 := va.c1; have a2 := va.c2; clear hm1 hb1 va)
  | (go_at_call 98; refine (grank_ok _ K c N N (some ⟨g, 0, none⟩) P (HM1.out.later (qa1 _ _)) HRk.out).mono ?_; rintro e w2 ⟨t, rfl, hk, hb2⟩; have HT2 : Hid (RS (m2 F r c) r s t) := HT.out t hk; have HB2 : Hid (Below w.heap.size w w2) := qa0 (qa0 HB1.out (qa1 _ _)) hb2; clear hk hb2))
 go_ret2
 exact ⟨t, rfl, HT2.out, HB2.out⟩
open Go.RowKit
theorem qmq {b b' : Bool} {P : Prop} (h : b = true ↔ P) (h' : b' = true ↔ P) : b = b' := by
 cases b <;> cases b' <;> simp_all
theorem NeS.one {M : Nat → Nat → Nat} {R s p q : Nat} (h : NeS M R s p) (h2 : NeS M R s q) : p = q := by
 apply qfh
 intro i
 by_cases hi : i < R
 ·rw [h.2 i hi, h2.2 i hi]
 ·rw [qci h.1 (by omega), qci h2.1 (by omega)]
theorem qmr (P : Nat → Prop) : ∀ n, ∃ p, Bld P n p := by
 intro n
 induction n with
 | zero => exact ⟨0, Bld.start P⟩
 | succ n ih =>
  obtain ⟨p, hp⟩ := ih
  by_cases h : P n
  ·exact ⟨_, hp.yes h⟩
  ·exact ⟨_, hp.no h⟩
open Go.RowKit
/-- The document's five rows. -/
def g5 (i : Nat) : Nat := if i = 0 then 1 else if i = 3 then 1 else if i = 4 then 1 else if i = 5 then 1 else if i = 6 then 2 else if i = 7 then 2 else 0
theorem g5_lt (i : Nat) : g5 i < 256 := by
 unfold g5
 repeat' split
 all_goals decide
theorem g5_rt : Rt 5 2 10 := ⟨by decide, by decide, rfl⟩
theorem g5_el : El2 (m2 g5 5 2) := qax (fun i _ => g5_lt i) g5_rt
theorem ss_col {M : Nat → Nat → Nat} {R s j : Nat} {y : Nat → Nat} (h : SS M R s y) (h0 : ∀ i, i < R → bt s i = 1 → M i j = 0) : y j = 0 := by
 obtain ⟨a, _, hy⟩ := h
 rw [hy j]
 refine qad (fun i hi => ?_)
 show fm (a i) (mk M s i j) = 0
 unfold mk
 split
 ·rw [h0 i hi (by assumption), qa7]
 ·rw [qa7]
theorem g5_row (w : World) : RowAt (w.alloc (.cells #[.int .u8 1, .int .u8 0, .int .u8 0, .int .u8 1, .int .u8 1, .int .u8 1, .int .u8 2, .int .u8 2, .int .u8 0, .int .u8 0] 5)) w.heap.size 5 10 g5 := by
 unfold RowAt
 rw [qbz]
 kernel_rfl
open Go.RowKit
theorem BadE.two {r c E : Int} {n s : Nat} (h : BadE r c n s E) : E = 3 ∨ E = 2 := h.elim (fun h => .inl h.2) (fun h => .inr h.2.2)
/-- The rank as a number. -/
theorem qix {w : World} {r c n k s t : Nat} {a : Option Addr} {F : Nat → Nat} (ha : Mt w a n k F) (R : Rt r c n) (hs : s < 2 ^ r) (ht : RS (m2 F r c) r s t) :
  ∀ w' : World, Below w.heap.size w w' → Calls Tryz.prog 78 #[mv r c a n k, .int .u64 (s : Int)] w' fun e w'' => e = .returned (.tuple #[.int .i64 (t : Int), .int .i64 0]) ∧ Below w'.heap.size w' w'' := fun w' hb =>
 (tRank_ok w' r c n k s a F (ha.later hb) R hs).mono (fun e w'' h => by
  obtain ⟨t', he, ht', hbb⟩ := h
  rw [ht'.one (qax ha.sl.1 R) ht] at he
  exact ⟨he, hbb⟩)
theorem qgd {r s : Nat} (hr : r ≤ 64) (hs : s < 2 ^ r) : ∀ w' : World, Calls Tryz.prog 21 #[.int .u64 (s : Int)] w' fun e w'' => ∃ x d, e = .returned (.slice x (cn s r) d) ∧ Below w'.heap.size w' w'' := fun w' =>
 (qih s w' (qc7 hr hs)).mono (fun e w'' h => by
  obtain ⟨v, he, ho, hb⟩ := h
  rw [qfe hr hs] at ho
  obtain ⟨x, d, rfl, _⟩ := ho.form
  exact ⟨x, d, he, hb⟩)
open Go.RowKit
theorem same7 (w : World) (a b : Option Addr) (n k d : Nat) (f : Nat → Nat) (ha : Mt w a n k f) (hb : Mt w b n d f) : Calls Tryz.prog 9 #[.slice a n k, .slice b n d] w fun e w' => e = .returned (.bool true) ∧ Below w.heap.size w w' :=
 (qkw w a b n k d f ha.sl hb.sl).mono (fun _ _ h => ⟨h.1, by rw [h.2]; exact Below.refl _ _⟩)
end Go.Proofs.YtblagbghpfopcaaGreat
