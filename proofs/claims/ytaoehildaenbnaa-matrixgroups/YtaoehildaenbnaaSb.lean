/-
  Contracts of the matrices' reference: Make, Same of lists, Like, Identity, Row.
-/
import Derived.Test.YtaoehildaenbnaaSa
import Derived.Lib.Bytes
namespace Go.Proofs.Ytaoehildaenbnaa
open Go.RowKit
set_option maxHeartbeats 400000 in
theorem rmake_ok (w : World) (r c n : Nat) (hr : r ≤ 64) (hc : c ≤ 64) (HN : Hid (r * c = n)) :
    Calls Try.prog 10 #[.int .i64 (r : Int), .int .i64 (c : Int)] w fun e w' => ∃ g, e = .returned (.tuple #[mv r c (some ⟨g, 0, none⟩) n n, .int .i64 0]) ∧ RowAt w' g 5 n (fun _ => 0) ∧ w.heap.size ≤ g ∧ Below w.heap.size w w' := by
  have g1 : decide ((r : Int) < 0) = false := by simp
  have g2 : decide ((64 : Int) < (r : Int)) = false := by simp; omega
  have g3 : decide ((c : Int) < 0) = false := by simp
  have g4 : decide ((64 : Int) < (c : Int)) = false := by simp; omega
  go_enter Try.func10, Try.ntmps10
  go_wp2_with (first
    | (go_at_call 39; refine (zero_any _ r c n hr hc HN).mono ?_; rintro e w1 ⟨g, rfl, hr1, hg1, hb1⟩; have HR : Hid (RowAt w1 g 5 n (fun _ => 0)) := hr1; have hg2 : w.heap.size + 1 ≤ g := by { have := hg1; simpa using this }; have HB : Hid (Below w.heap.size w w1) := two_below (alloc_low _ _) hb1; have HV : Hid (Vr w1 w.heap.size (.int .i64 0) (.int .i64 0) (.slice none 0 0)) := (Vr.new w _ _ _).later hb1; clear hr1 hg1 hb1)
    | (refine wpList_store_var rfl _ _ rfl w.heap.size _ _ _ (.int .i64 (r : Int)) (.int .i64 (c : Int)) (.slice (some ⟨g, 0, none⟩) n n) rfl rfl HV.out rfl rfl rfl ?_; intro w2 HV2 HG2))
  have c0 := HV2.out.c0
  have c1 := HV2.out.c1
  have c2 := HV2.out.c2
  refine bodyPost_ret (v := .tuple #[mv r c (some ⟨g, 0, none⟩) n n, .int .i64 0]) (by simp [results, Try.results10, go_sem, c0, c1, c2, mv]) rfl ?_
  exact ⟨g, rfl, HR.out.kept HG2.out (by omega), by omega, below_row HB.out HG2.out (Nat.le_refl _)⟩
/-- Sides that may be. -/
def SideP (r c : Int) : Prop := 0 ≤ r ∧ r ≤ 64 ∧ 0 ≤ c ∧ c ≤ 64
theorem bad_side {r c : Int} (h : ¬ SideP r c) : (decide (r < 0) = true) ∨ (decide (r < 0) = false ∧ decide (64 < r) = true) ∨ (decide (r < 0) = false ∧ decide (64 < r) = false ∧ decide (c < 0) = true) ∨ (decide (r < 0) = false ∧ decide (64 < r) = false ∧ decide (c < 0) = false ∧ decide (64 < c) = true) := by
  simp only [decide_eq_true_eq, decide_eq_false_iff_not, SideP] at *
  omega
set_option maxHeartbeats 1000000 in
theorem rmake_bad (w : World) (r c : Int) (h : ¬ SideP r c) :
    Calls Try.prog 10 #[.int .i64 r, .int .i64 c] w fun e w' => e = .returned (.tuple #[mv 0 0 none 0 0, .int .i64 2]) ∧ Below w.heap.size w w' := by
  have HV : Hid (Vr (w.alloc (.cells #[.int .i64 0, .int .i64 0, .slice none 0 0] 24)) w.heap.size (.int .i64 0) (.int .i64 0) (.slice none 0 0)) := Vr.new w _ _ _
  rcases bad_side h with g1 | ⟨g1, g2⟩ | ⟨g1, g2, g3⟩ | ⟨g1, g2, g3, g4⟩
  all_goals
    clear h
    go_enter Try.func10, Try.ntmps10
    go_wp2_with (refine wpList_store_var rfl _ _ rfl w.heap.size _ _ _ (.int .i64 0) (.int .i64 0) (.slice none 0 0) rfl rfl HV.out rfl rfl rfl ?_; intro w2 HV2 HG2)
    have c0 := HV2.out.c0
    have c1 := HV2.out.c1
    have c2 := HV2.out.c2
    refine bodyPost_ret (v := .tuple #[mv 0 0 none 0 0, .int .i64 2]) (by simp [results, Try.results10, go_sem, c0, c1, c2, mv]) rfl ?_
    exact ⟨rfl, below_row (alloc_low _ _) HG2.out (Nat.le_refl _)⟩
/-! Lists that are not the same. -/
/-- Are two lists the same? -/
def sameB (n m : Nat) (f h : Nat → Nat) : Bool := decide (n = m ∧ ∀ i, i < n → f i = h i)
theorem u8_inj {x y : Nat} (hx : x < 256) (hy : y < 256) (e : UInt8.ofNat x = UInt8.ofNat y) : x = y := by
  have := congrArg UInt8.toNat e
  simp at this
  omega
theorem str_list (n : Nat) (f : Nat → Nat) : (strOf n f).toList = (List.range n).map fun i => UInt8.ofNat (f i) := by
  unfold strOf
  rw [Go.Lib.strOfNums_toList]
  simp [Go.Lib.bytesOf]
theorem sameB_str {n m : Nat} {f h : Nat → Nat} (hf : ∀ i, i < n → f i < 256) (hh : ∀ i, i < m → h i < 256) : ((strOf n f).toList == (strOf m h).toList) = sameB n m f h := by
  rw [str_list, str_list, Bool.eq_iff_iff]
  unfold sameB
  rw [decide_eq_true_iff, beq_iff_eq]
  constructor
  · intro e
    have hl : n = m := by simpa using congrArg List.length e
    subst hl
    refine ⟨rfl, fun i hi => ?_⟩
    have := congrArg (fun l => l[i]?) e
    simp [hi] at this
    exact u8_inj (hf i hi) (hh i hi) (by simpa using this)
  · rintro ⟨rfl, e⟩
    apply List.map_congr_left
    intro i hi
    rw [e i (by simpa using hi)]
set_option maxHeartbeats 400000 in
theorem same_exact (w : World) (a b : Option Addr) (n m c d : Nat) (f h : Nat → Nat) (ha : Sl w a n f) (hb : Sl w b m h) :
    Calls Try.prog 20 #[.slice a n c, .slice b m d] w fun e w' => e = .returned (.bool (sameB n m f h)) ∧ w = w' := by
  have h1 : (convert 22 9 (.slice a n c)).run Try.prog w = .ok (.string (strOf n f)) w := sl_string ha
  have h2 : (convert 22 9 (.slice b m d)).run Try.prog w = .ok (.string (strOf m h)) w := sl_string hb
  rw [← sameB_str ha.1 hb.1]
  obtain ⟨s, hs⟩ : ∃ s, strOf n f = s := ⟨_, rfl⟩
  obtain ⟨t, ht⟩ : ∃ s, strOf m h = s := ⟨_, rfl⟩
  rw [hs, ht]
  rw [hs] at h1
  rw [ht] at h2
  clear hs ht ha hb
  go_enter Try.func20, Try.ntmps20
  go_wp2
  go_ret
  exact ⟨rfl, rfl⟩
/-- Alike, in numbers. -/
def likeB (r c r' c' : Int) (n m : Nat) (f h : Nat → Nat) : Bool := (r == r') && ((c == c') && sameB n m f h)
set_option maxHeartbeats 1000000 in
theorem like_exact (w : World) (r c r' c' : Int) (a b : Option Addr) (n m k d : Nat) (f h : Nat → Nat) (ha : Sl w a n f) (hb : Sl w b m h) :
    Calls Try.prog 36 #[mv r c a n k, mv r' c' b m d] w fun e w' => e = .returned (.bool (likeB r c r' c' n m f h)) ∧ Below w.heap.size w w' := by
  have HA : Hid (Sl ((w.alloc (.cells #[.int .i64 r, .int .i64 c, .slice a n k] 24)).alloc (.cells #[.int .i64 r', .int .i64 c', .slice b m d] 24)) a n f) := (ha.later (alloc_low _ _)).later (alloc_low _ _)
  have HB : Hid (Sl ((w.alloc (.cells #[.int .i64 r, .int .i64 c, .slice a n k] 24)).alloc (.cells #[.int .i64 r', .int .i64 c', .slice b m d] 24)) b m h) := (hb.later (alloc_low _ _)).later (alloc_low _ _)
  obtain ⟨s, HS⟩ : ∃ s, Hid (sameB n m f h = s) := ⟨_, rfl⟩
  clear ha hb
  cases g1 : (r == r') with
  | false =>
    rw [show likeB r c r' c' n m f h = false from by unfold likeB; rw [g1]; rfl]
    go_enter Try.func36, Try.ntmps36
    go_wp2
    go_ret
    exact ⟨rfl, two_below (alloc_low _ _) (alloc_low _ _)⟩
  | true =>
    cases g2 : (c == c') with
    | false =>
      rw [show likeB r c r' c' n m f h = false from by unfold likeB; rw [g1, g2]; rfl]
      go_enter Try.func36, Try.ntmps36
      go_wp2
      go_ret
      exact ⟨rfl, two_below (alloc_low _ _) (alloc_low _ _)⟩
    | true =>
      rw [show likeB r c r' c' n m f h = s from by unfold likeB; rw [g1, g2, HS.out]; rfl]
      go_enter Try.func36, Try.ntmps36
      go_wp2_with (go_at_call 20; refine (same_exact _ _ _ _ _ _ _ f h HA.out HB.out).mono ?_; rw [HS.out]; rintro e w' ⟨rfl, rfl⟩)
      go_ret
      exact ⟨rfl, two_below (alloc_low _ _) (alloc_low _ _)⟩
end Go.Proofs.Ytaoehildaenbnaa
