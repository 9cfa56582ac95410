/-
  Contracts of the program's matroid: Rank, Free, Covers.
  Contracts of the program's matroid: Span, Needed.
  Contracts of the program's matroid: Basis.
  Contracts of the program's matroid: Circuit.
  Contracts of the rows' reference: the errors of Span, Basis, Needed, Circuit.
  The program's matroid and the rows' reference, together.
  The program's calls on sets of rows and the reference's answer the same.
  The checks' own anchor: one rank and one circuit that the document fixes.
  What the checks of stage 7 need besides: right; ranks as numbers; lists' lengths.
  The program's Span, Basis, Free and Needed as numbers; a set that lies in another.
  The checks' own anchor: one place and one number that the document fixes.
  For what stays: a copy; two lists or matrices that are alike.
-/
import Derived.Test.YtblagbghpfopcaaGreatQffsh00
import Derived.Test.YtblagbghpfopcaaGreatQffsh38
import Derived.Test.YtblagbghpfopcaaGreatQffsh21
import Derived.Test.YtblagbghpfopcaaGreatQffsh11
import Derived.Test.YtblagbghpfopcaaGreatQffsh09
import Derived.Test.YtblagbghpfopcaaGreatQffsh08
set_option maxRecDepth 100000
set_option maxHeartbeats 16000000
namespace Go.Proofs.YtblagbghpfopcaaGreat
open Go.RowKit
theorem qkh (w : World) (r c n k s : Nat) (a : Option Addr) (F : Nat → Nat) (ha : Mt w a n k F) (R : Rt r c n) (hs : s < 2 ^ r) :
  ∃ (K N : Nat) (P : Nat → Nat), K ≤ 64 ∧ Hid (K = cn s r) ∧ Hid (P = pkf F (lf s r) c) ∧ Hid (Rt K c N) ∧ Hid (∀ i, i < N → P i < 256) ∧ Hid (∀ w' : World, Below w.heap.size w w' → Calls Tryz.prog 97 #[mv r c a n k, .int .u64 (s : Int)] w' fun e w'' => ∃ g, e = .returned (.tuple #[mv K c (some ⟨g, 0, none⟩) N N, .int .i64 0]) ∧ Mt w'' (some ⟨g, 0, none⟩) N N P ∧ Below w'.heap.size w' w'') := by
 have hr := R.r64
 have hcl := qb8 r s
 have hP : ∀ i, i < cn s r * c → pkf F (lf s r) c i < 256 := fun i hi => qdt ha.sl.1 R (fun i hi => (qaj hi).1) i hi
 refine ⟨cn s r, cn s r * c, pkf F (lf s r) c, by omega, rfl, rfl, ⟨by omega, R.c64, rfl⟩, hP, fun w' hb => ?_⟩
 refine (rows_ok w' r c n k s _ a F (ha.later hb) R hs rfl).mono (fun e w'' h => ?_)
 obtain ⟨g, he, hr, hb⟩ := h
 exact ⟨g, he, hr.mt hP, hb⟩
theorem tRank_ok (w : World) (r c n k s : Nat) (a : Option Addr) (F : Nat → Nat) (ha : Mt w a n k F) (R : Rt r c n) (hs : s < 2 ^ r) :
  Calls Tryz.prog 78 #[mv r c a n k, .int .u64 (s : Int)] w fun e w' => ∃ t : Nat, e = .returned (.tuple #[.int .i64 (t : Int), .int .i64 0]) ∧ RS (m2 F r c) r s t ∧ Below w.heap.size w w' := by
 obtain ⟨K, N, P, hK, HK, HP, HRk, _, HC⟩ := qkh w r c n k s a F ha R hs
 have HT : Hid (∀ t, Rk (m2 P K c) K t → RS (m2 F r c) r s t) := fun t h => by rw [HK.out, HP.out] at h; exact qmr ha.sl.1 R h
 clear ha R hs HK HP
 go_enter Tryz.func78, Tryz.ntmps78
 go_wp2_with (first
  | (go_at_call 97; refine (HC.out _ (qa0 _ _)).mono ?_; rintro e w1 ⟨g, rfl, hm1, hb1⟩; have HM1 : Hid (Mt w1 (some ⟨g, 0, none⟩) N N P) := hm1; have HB1 : Hid (Below w.heap.size w w1) := qa1 (qa0 _ _) hb1; have va := Vr.new w1 (.int .i64 (K : Int)) (.int .i64 (c : Int)) (.slice (some ⟨g, 0, none⟩) N N); have a0 := va.c0; have a1 := va.c1; have a2 := va.c2; clear hm1 hb1 va)
  | (go_at_call 98; refine (grank_ok _ K c N N (some ⟨g, 0, none⟩) P (HM1.out.later (qa0 _ _)) HRk.out).mono ?_; rintro e w2 ⟨t, rfl, hk, hb2⟩; have HT2 : Hid (RS (m2 F r c) r s t) := HT.out t hk; have HB2 : Hid (Below w.heap.size w w2) := qa1 (qa1 HB1.out (qa0 _ _)) hb2; clear hk hb2))
 go_ret2
 exact ⟨t, rfl, HT2.out, HB2.out⟩
open Go.RowKit
theorem qn2 {b b' : Bool} {P : Prop} (h : b = true ↔ P) (h' : b' = true ↔ P) : b = b' := by
 cases b <;> cases b' <;> simp_all
theorem bld_ex (P : Nat → Prop) : ∀ n, ∃ p, Bld P n p := by
 intro n
 induction n with
 | zero => exact ⟨0, Bld.start P⟩
 | succ n ih =>
  obtain ⟨p, hp⟩ := ih
  by_cases h : P n
  ·exact ⟨_, hp.yes h⟩
  ·exact ⟨_, hp.no h⟩
open Go.RowKit
/-- The document's five rows. -/
def g5 (i : Nat) : Nat := if i = 0 then 1 else if i = 3 then 1 else if i = 4 then 1 else if i = 5 then 1 else if i = 6 then 2 else if i = 7 then 2 else 0
theorem g5_lt (i : Nat) : g5 i < 256 := by
 unfold g5
 repeat' split
 all_goals decide
theorem g5_rt : Rt 5 2 10 := ⟨by decide, by decide, rfl⟩
theorem g5_el : El2 (m2 g5 5 2) := qax (fun i _ => g5_lt i) g5_rt
theorem ss_col {M : Nat → Nat → Nat} {R s j : Nat} {y : Nat → Nat} (h : SS M R s y) (h0 : ∀ i, i < R → bt s i = 1 → M i j = 0) : y j = 0 := by
 obtain ⟨a, _, hy⟩ := h
 rw [hy j]
 refine qag (fun i hi => ?_)
 show fm (a i) (mk M s i j) = 0
 unfold mk
 split
 ·rw [h0 i hi (by assumption), qa9]
 ·rw [qa9]
theorem g5_row (w : World) : RowAt (w.alloc (.cells #[.int .u8 1, .int .u8 0, .int .u8 0, .int .u8 1, .int .u8 1, .int .u8 1, .int .u8 2, .int .u8 2, .int .u8 0, .int .u8 0] 5)) w.heap.size 5 10 g5 := by
 unfold RowAt
 rw [qcc]
 kernel_rfl
open Go.RowKit
/-- The rank as a number. -/
theorem qjj {w : World} {r c n k s t : Nat} {a : Option Addr} {F : Nat → Nat} (ha : Mt w a n k F) (R : Rt r c n) (hs : s < 2 ^ r) (ht : RS (m2 F r c) r s t) :
  ∀ w' : World, Below w.heap.size w w' → Calls Tryz.prog 78 #[mv r c a n k, .int .u64 (s : Int)] w' fun e w'' => e = .returned (.tuple #[.int .i64 (t : Int), .int .i64 0]) ∧ Below w'.heap.size w' w'' := fun w' hb =>
 (tRank_ok w' r c n k s a F (ha.later hb) R hs).mono (fun e w'' h => by
  obtain ⟨t', he, ht', hbb⟩ := h
  rw [ht'.one (qax ha.sl.1 R) ht] at he
  exact ⟨he, hbb⟩)
open Go.RowKit
theorem same7 (w : World) (a b : Option Addr) (n k d : Nat) (f : Nat → Nat) (ha : Mt w a n k f) (hb : Mt w b n d f) : Calls Tryz.prog 9 #[.slice a n k, .slice b n d] w fun e w' => e = .returned (.bool true) ∧ Below w.heap.size w w' :=
 (qgw w a b n k d f ha.sl hb.sl).mono (fun _ _ h => ⟨h.1, by rw [h.2]; exact Below.refl _ _⟩)
theorem like7 (w : World) (r c : Int) (a b : Option Addr) (n k d : Nat) (f : Nat → Nat) (ha : Mt w a n k f) (hb : Mt w b n d f) : Calls Tryz.prog 24 #[mv r c a n k, mv r c b n d] w fun e w' => e = .returned (.bool true) ∧ Below w.heap.size w w' := by
 have := qk1 w r c r c a b n n k d f f ha.sl hb.sl
 rw [qk3 (fun _ _ => rfl)] at this
 exact this
theorem own_mt7 {w : World} {base n d : Nat} {s : Option Addr} {f : Nat → Nat} (h : w.ownsRow base 5 1 (.slice s n d) n (row n f).toList) (hf : ∀ i, i < n → f i < 256) : Mt w s n d f := by
 refine ⟨qcf h hf, ?_, qbn h⟩
 rcases h.2 with ⟨e, h0⟩ | ⟨g, cap, cur, e, _, _, hc, _⟩
 ·cases e; omega
 ·cases e; omega
theorem cp7 (w : World) (r c : Int) (n k : Nat) (a : Option Addr) (F : Nat → Nat) (ha : Mt w a n k F) (hn : n ≤ 140737488351232) :
  Calls Tryz.prog 22 #[mv r c a n k] w fun e w' => ∃ s d, e = .returned (mv r c s n d) ∧ Mt w' s n d F ∧ Below w.heap.size w w' :=
 (qfl w r c n k a F ha.sl hn ha.nil).mono fun _ _ ⟨s, d, he, ho, hb⟩ => ⟨s, d, he, own_mt7 ho ha.sl.1, hb⟩
end Go.Proofs.YtblagbghpfopcaaGreat
