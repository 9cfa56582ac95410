/-
  Contracts of the matrices' reference: Identity, Row, Same.
-/
import Derived.Test.YtaoehildaenbnaaSb
namespace Go.Proofs.Ytaoehildaenbnaa
open Go.RowKit
/-- The identity's entries, the first k rows of it. -/
def idk (n k p : Nat) : Nat := if p % (n + 1) = 0 ∧ p / (n + 1) < k then 1 else 0
/-- The identity's entries. -/
def idf (n p : Nat) : Nat := if p % (n + 1) = 0 then 1 else 0
theorem idk_step (n k j : Nat) : (if j = k * n + k then 1 else idk n k j) = idk n (k + 1) j := by
  unfold idk
  have e : k * n + k = (n + 1) * k := by rw [Nat.mul_comm k n, Nat.add_mul, Nat.one_mul]
  by_cases h : j = k * n + k
  · rw [if_pos h, h, e, if_pos ⟨Nat.mul_mod_right _ _, by rw [Nat.mul_div_cancel_left _ (by omega)]; omega⟩]
  · rw [if_neg h]
    by_cases h0 : j % (n + 1) = 0
    · have hk : j / (n + 1) ≠ k := fun e2 => h (by have := Nat.div_add_mod j (n + 1); rw [h0, e2] at this; rw [e]; omega)
      by_cases h1 : j / (n + 1) < k
      · rw [if_pos ⟨h0, h1⟩, if_pos ⟨h0, by omega⟩]
      · rw [if_neg (fun x => h1 x.2), if_neg (fun x => by have := x.2; omega)]
    · rw [if_neg (fun x => h0 x.1), if_neg (fun x => h0 x.1)]
theorem idk_all (n j : Nat) (hj : j < n * n) : idk n n j = idf n j := by
  unfold idk idf
  have : j / (n + 1) < n := (Nat.div_lt_iff_lt_mul (by omega)).2 (Nat.lt_of_lt_of_le hj (Nat.mul_le_mul_left n (by omega)))
  by_cases h : j % (n + 1) = 0
  · rw [if_pos ⟨h, this⟩, if_pos h]
  · rw [if_neg (fun x => h x.1), if_neg h]
theorem idf_lt (n p : Nat) : idf n p < 256 := by unfold idf; split <;> decide
/-- The identity's entry (i, j). -/
theorem idf_at (n i j : Nat) (hi : i < n) (hj : j < n) : idf n (i * n + j) = if i = j then 1 else 0 := by
  unfold idf
  by_cases h : i = j
  · subst h
    rw [if_pos rfl, if_pos]
    rw [show i * n + i = (n + 1) * i by rw [Nat.mul_comm i n, Nat.add_mul, Nat.one_mul]]
    exact Nat.mul_mod_right _ _
  · rw [if_neg h, if_neg]
    intro h0
    apply h
    have e := Nat.div_add_mod (i * n + j) (n + 1)
    rw [h0, Nat.add_zero] at e
    obtain ⟨q, hq⟩ : ∃ q, (i * n + j) / (n + 1) = q := ⟨_, rfl⟩
    rw [hq, Nat.add_mul, Nat.one_mul] at e
    rcases Nat.lt_trichotomy q i with hl | he | hg
    · obtain ⟨d, rfl⟩ : ∃ d, i = q + d + 1 := ⟨i - q - 1, by omega⟩
      have h4 : (q + d + 1) * n = n * q + n * d + n := by rw [Nat.add_mul, Nat.add_mul, Nat.one_mul, Nat.mul_comm q, Nat.mul_comm d]
      have h5 : q = n * d + n + j := by omega
      have h6 : 0 ≤ n * d := Nat.zero_le _
      omega
    · subst he
      rw [Nat.mul_comm] at e
      omega
    · obtain ⟨d, rfl⟩ : ∃ d, q = i + d + 1 := ⟨q - i - 1, by omega⟩
      have : n * (i + d + 1) = i * n + n * d + n := by rw [Nat.mul_add, Nat.mul_add, Nat.mul_one, Nat.mul_comm n i]
      omega
set_option maxRecDepth 20000 in
set_option maxHeartbeats 1000000 in
theorem rident_ok (w : World) (n m : Nat) (hn : n ≤ 64) (HM : Hid (n * n = m)) :
    Calls Try.prog 12 #[.int .i64 (n : Int)] w fun e w' => ∃ g, e = .returned (.tuple #[mv n n (some ⟨g, 0, none⟩) m m, .int .i64 0]) ∧ RowAt w' g 5 m (idf n) ∧ w.heap.size ≤ g ∧ Below w.heap.size w w' := by
  have hm : m ≤ 4096 := by rw [← HM.out]; exact Nat.mul_le_mul hn hn
  go_enter Try.func12, Try.ntmps12
  go_wp2_with (first
    | (go_at_call 10; refine (rmake_ok _ n n m hn hn HM).mono ?_; rintro e w1 ⟨g, rfl, hr1, hg1, hb1⟩; have HR : Hid (RowAt w1 g 5 m (fun _ => 0)) := hr1; have hg2 : w.heap.size + 1 ≤ g := by { have := hg1; simpa using this }; have HB : Hid (Below w.heap.size w w1) := two_below (alloc_low _ _) hb1; have HV : Hid (Vr w1 w.heap.size (.int .i64 0) (.int .i64 0) (.slice none 0 0)) := (Vr.new w _ _ _).later hb1; clear hr1 hg1 hb1))
  have HBeg : Hid (Vr (w1.alloc (.cells #[.int .i64 (n : Int), .int .i64 (n : Int), .slice (some ⟨g, 0, none⟩) m m] 24)) w1.heap.size (.int .i64 (n : Int)) (.int .i64 (n : Int)) (.slice (some ⟨g, 0, none⟩) m m)) := Vr.new w1 _ _ _
  have glt := HR.out.lt
  have vlt := HV.out.lt
  go_loopw [6] (fun i wr => ∃ k : Nat, k ≤ n ∧ i = .int .i64 (k : Int) ∧ RowAt wr g 5 m (idk n k) ∧ Vr wr w1.heap.size (.int .i64 (n : Int)) (.int .i64 (n : Int)) (.slice (some ⟨g, 0, none⟩) m m) ∧ Vr wr w.heap.size (.int .i64 0) (.int .i64 0) (.slice none 0 0) ∧ Below w.heap.size w wr) (fun i _ => n - (intOf i).toNat)
  case atStart => exact ⟨0, by omega, rfl, (HR.out.later (alloc_low _ _)).congr (fun i _ => by unfold idk; rw [if_neg (fun x => absurd x.2 (Nat.not_lt_zero _))]), HBeg.out, HV.out.later (alloc_low _ _), two_below HB.out (alloc_low _ _)⟩
  case round =>
    clear HBeg HR HV HB
    obtain ⟨k, hk, rfl, hr, hv, hv2, hbr⟩ := hrel
    by_cases hlt : k < n
    · obtain ⟨p, HP⟩ : ∃ p, Hid (k * n + k = p) := ⟨_, rfl⟩
      have hpm : p < m := by
        rw [← HP.out, ← HM.out]
        exact Nat.lt_of_lt_of_le (show k * n + k < (k + 1) * n by rw [Nat.add_mul, Nat.one_mul]; omega) (Nat.mul_le_mul_right n hlt)
      have e1 : ((k : Int) * (n : Int)) = ((k * n : Nat) : Int) := by simp
      have hkn : k * n ≤ p := by rw [← HP.out]; omega
      have w1' : IntKind.i64.wrap ((k : Int) * (n : Int)) = (k : Int) * (n : Int) := by rw [e1, IntKind.wrap_i64]; omega
      have w2' : IntKind.i64.wrap ((k : Int) * (n : Int) + (k : Int)) = (p : Int) := by rw [e1, IntKind.wrap_i64]; have := HP.out; omega
      have hc := hr.cell p hpm
      have hf := hr.free p
      have c2 := hv.c2
      have R : Hid (RowAt (wr.setCell ⟨g, p, none⟩ (.int .u8 1)) g 5 m (idk n (k + 1)) ∧ Vr (wr.setCell ⟨g, p, none⟩ (.int .u8 1)) w1.heap.size (.int .i64 (n : Int)) (.int .i64 (n : Int)) (.slice (some ⟨g, 0, none⟩) m m) ∧ Vr (wr.setCell ⟨g, p, none⟩ (.int .u8 1)) w.heap.size (.int .i64 0) (.int .i64 0) (.slice none 0 0) ∧ Below w.heap.size w (wr.setCell ⟨g, p, none⟩ (.int .u8 1))) :=
        ⟨(hr.set p 1).congr (fun j _ => by rw [← HP.out]; exact idk_step n k j), hv.kept (grown_setCell _ _ _ _) (by omega), hv2.kept (grown_setCell _ _ _ _) (by omega), hbr.setCell (by show w.heap.size ≤ g; omega) _⟩
      clear hr hv hv2 hbr e1
      go_wp2
      exact ⟨⟨k + 1, by omega, by go_num, R.out.1, R.out.2.1, R.out.2.2.1, R.out.2.2.2⟩, by simp [intOf]; omega⟩
    · obtain rfl : k = n := by omega
      have c0 := hv.c0
      have c1 := hv.c1
      have c2 := hv.c2
      have HR : Hid (RowAt wr g 5 m (idk k k)) := hr
      have HV2 : Hid (Vr wr w.heap.size (.int .i64 0) (.int .i64 0) (.slice none 0 0)) := hv2
      have HB : Hid (Below w.heap.size w wr) := hbr
      clear hr hv hv2 hbr
      go_wp2_with (refine wpList_store_var rfl _ _ rfl w.heap.size _ _ _ (.int .i64 (k : Int)) (.int .i64 (k : Int)) (.slice (some ⟨g, 0, none⟩) m m) rfl rfl HV2.out rfl rfl rfl ?_; intro w3 HV3 HG3)
      have d0 := HV3.out.c0
      have d1 := HV3.out.c1
      have d2 := HV3.out.c2
      refine bodyPost_ret (v := .tuple #[mv k k (some ⟨g, 0, none⟩) m m, .int .i64 0]) (by simp [results, Try.results12, go_sem, d0, d1, d2, mv]) rfl ?_
      exact ⟨g, rfl, (HR.out.kept HG3.out (by omega)).congr (fun j hj => idk_all k j (by rw [HM.out]; exact hj)), by omega, below_row HB.out HG3.out (Nat.le_refl _)⟩
set_option maxRecDepth 20000 in
set_option maxHeartbeats 1000000 in
theorem rident_bad (w : World) (n : Int) (h : ¬ (0 ≤ n ∧ n ≤ 64)) :
    Calls Try.prog 12 #[.int .i64 n] w fun e w' => e = .returned (.tuple #[mv 0 0 none 0 0, .int .i64 2]) ∧ Below w.heap.size w w' := by
  have HS : Hid (¬ SideP n n) := fun x => h ⟨x.1, x.2.1⟩
  clear h
  go_enter Try.func12, Try.ntmps12
  go_wp2_with (first
    | (go_at_call 10; refine (rmake_bad _ n n HS.out).mono ?_; rintro e w1 ⟨rfl, hb1⟩; have HB : Hid (Below w.heap.size w w1) := two_below (alloc_low _ _) hb1; have HV : Hid (Vr w1 w.heap.size (.int .i64 0) (.int .i64 0) (.slice none 0 0)) := (Vr.new w _ _ _).later hb1; clear hb1))
  have HV0 : Hid (Vr (w1.alloc (.cells #[.int .i64 0, .int .i64 0, .slice none 0 0] 24)) w.heap.size (.int .i64 0) (.int .i64 0) (.slice none 0 0)) := HV.out.later (alloc_low _ _)
  go_loopw [6] (fun i wr => i = .int .i64 0 ∧ wr = w1.alloc (.cells #[.int .i64 0, .int .i64 0, .slice none 0 0] 24)) (fun _ _ => 0)
  case atStart => exact ⟨rfl, rfl⟩
  case round =>
    obtain ⟨rfl, rfl⟩ := hrel
    cases g1 : decide ((0 : Int) < n) with
    | true =>
      go_wp2_with (refine wpList_store_var rfl _ _ rfl w.heap.size _ _ _ (.int .i64 0) (.int .i64 0) (.slice none 0 0) rfl rfl HV0.out rfl rfl rfl ?_; intro w3 HV3 HG3)
      have d0 := HV3.out.c0
      have d1 := HV3.out.c1
      have d2 := HV3.out.c2
      refine bodyPost_ret (v := .tuple #[mv 0 0 none 0 0, .int .i64 2]) (by simp [results, Try.results12, go_sem, d0, d1, d2, mv]) rfl ?_
      exact ⟨rfl, below_row (two_below HB.out (alloc_low _ _)) HG3.out (Nat.le_refl _)⟩
    | false =>
      go_wp2_with (refine wpList_store_var rfl _ _ rfl w.heap.size _ _ _ (.int .i64 0) (.int .i64 0) (.slice none 0 0) rfl rfl HV0.out rfl rfl rfl ?_; intro w3 HV3 HG3)
      have d0 := HV3.out.c0
      have d1 := HV3.out.c1
      have d2 := HV3.out.c2
      refine bodyPost_ret (v := .tuple #[mv 0 0 none 0 0, .int .i64 2]) (by simp [results, Try.results12, go_sem, d0, d1, d2, mv]) rfl ?_
      exact ⟨rfl, below_row (two_below HB.out (alloc_low _ _)) HG3.out (Nat.le_refl _)⟩
end Go.Proofs.Ytaoehildaenbnaa
