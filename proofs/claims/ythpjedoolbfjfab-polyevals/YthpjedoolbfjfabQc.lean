/-
  Contracts of the program's polynomials: withRoot, FromRoots, Add.
-/
import Derived.Test.YthpjedoolbfjfabQb
namespace Go.Proofs.Ythpjedoolbfjfab
open Go.RowKit
theorem tlen_congr {f h : Nat → Nat} {n : Nat} (e : ∀ i, i < n → f i = h i) : tlen f n = tlen h n := by
  induction n with
  | zero => rfl
  | succ n ih => simp only [tlen]; rw [e n (by omega), ih (fun i hi => e i (by omega))]
/-- The copy one place up. -/
def up1 (f : Nat → Nat) (n j : Nat) : Nat := if 1 ≤ j ∧ j < 1 + n then f (j - 1) else 0
theorem up1_lt {f : Nat → Nat} {n : Nat} (hf : ∀ i, i < n → f i < 256) (j : Nat) : up1 f n j < 256 := by
  unfold up1
  split
  · exact hf _ (by omega)
  · decide
theorem up1_pm {f : Nat → Nat} {n r : Nat} (hf : ∀ i, i < n → f i < 256) (hr : r < 256) (j : Nat) (hj : j < n + 1) : rs (up1 f n) f r 0 n j = pm (zx f n) (lin r) j := by
  rw [pm_comm (zx_el hf) (lin_el hr)]
  have L := lin_pm r (zx f n) (zx_el hf)
  unfold rs up1
  cases j with
  | zero =>
    rw [L.2, if_neg (c := 1 ≤ 0 ∧ _) (by omega)]
    unfold zx
    by_cases h : 0 < n
    · rw [if_pos (by omega), if_pos h, Nat.zero_xor]
    · rw [if_neg (by omega), if_neg h, fm_zero]
  | succ i =>
    rw [L.1 i, if_pos (c := 1 ≤ i + 1 ∧ _) (by omega)]
    unfold zx
    rw [if_pos (c := i < n) (by omega)]
    by_cases h : i + 1 < n
    · rw [if_pos (by omega), if_pos h, Nat.xor_comm]; rfl
    · rw [if_neg (by omega), if_neg h, fm_zero, Nat.zero_xor]; rfl
theorem splice_row {L X : List Value} {o n N : Nat} {F G : Nat → Nat} (hL : L = (row N F).toList) (hX : X = (row n G).toList) (hfit : o + n ≤ N) : (splice L o X).toArray = row N (fun j => if o ≤ j ∧ j < o + n then G (j - o) else F j) := by
  apply Array.toList_inj.mp
  have hlen : L.length = N := by rw [hL]; simp [row_size]
  have := splice_own (L := L) (G := G) (F := F) hfit (by omega) (by rw [hL, List.take_of_length_le (by simp [row_size])])
  have hx : X.length = n := by rw [hX]; simp [row_size]
  rw [← this, ← hX]
  unfold splice
  rw [hx, List.take_of_length_le (l := L.take o ++ (X ++ L.drop (o + n))) (by simp; omega)]
set_option maxHeartbeats 1000000 in
theorem withroot_any (w : World) (s : Option Addr) (n c r : Nat) (f F : Nat → Nat) (h : Lk w s n c f) (hr : r < 256) (hn : n ≤ 100000000000000) (HF : Hid (∀ i, i < n + 1 → pm (zx f n) (lin r) i = F i)) :
    Calls Try.prog 31 #[.slice s n c, .int .u8 (r : Int)] w fun e w' => e = .returned (.slice (some ⟨w.heap.size, 0, none⟩) (n + 1) (n + 1)) ∧ Ow w' w.heap.size (some ⟨w.heap.size, 0, none⟩) (n + 1) (n + 1) F ∧ Below w.heap.size w w' := by
  obtain ⟨i0, hi, hz0, hz1, hz2⟩ := info_parts info8
  have hml : n + 1 ≤ maxLen := by unfold maxLen; omega
  have hsz : (Try.prog.info? 5).map (·.size) = some 1 := info5
  obtain ⟨zs, HZ⟩ : ∃ zs, Hid (zs = (row (n + 1) fun _ => 0).toList) := ⟨_, rfl⟩
  obtain ⟨ls, HX⟩ : ∃ xs, Hid (xs = (row n f).toList) := ⟨_, rfl⟩
  have hlen : ls.length = n := by rw [HX.out]; simp [row_size]
  have hzlen : zs.length = n + 1 := by rw [HZ.out]; simp [row_size]
  have HM : Hid (ls.length = Nat.min n n) := by show _ = _; rw [hlen]; exact (Nat.min_self n).symm
  have hfit : 1 + ls.length ≤ zs.length := by omega
  have HO : Hid (∀ v ∈ ls, v.oneCell' = true) := by
    show ∀ v ∈ ls, _
    rw [HX.out]
    intro v hv
    obtain ⟨j, hj⟩ := List.getElem?_of_mem hv
    rw [(row_listget n f j v hj).2]; rfl
  have HL : Hid (Lk w s n c f) := h
  have HV : Hid (∀ i, i < n → f i < 256) := h.1.1
  clear h hlen hzlen
  by_cases hn0 : n = 0
  · subst hn0
    go_enter Try.func31, Try.ntmps31
    go_wp2_with (first
      | (at_make; refine wpList_make_full _ rfl _ _ 22 rfl w.heap.size 5 i0 (.int .u8 0) 1 Try.underlying22 hi hz0 hz1 .i64 .i64 _ _ 1 rfl rfl rfl rfl (by rw [hz2]; omega) hml (Nat.le_refl _) ?_; intro w1 hown hgrow; have HR : Hid (w1.heap[w.heap.size]? = some (.cells zs.toArray 5 (0, 0))) := row_list (made_at hown) HZ.out; have HB : Hid (Below w.heap.size w w1) := grown_none.mp hgrow; clear hown hgrow)
      | (refine wpList_copy_splice rfl _ _ 22 22 rfl 5 Try.underlying22 hsz (some ⟨w.heap.size, 0, none⟩) s 0 0 0 c rfl rfl w.heap.size 1 zs 5 HR.out ls HM.out (fun h0 => absurd h0 (by rw [HM.out]; exact Nat.not_lt_zero _)) hfit HO.out w.heap.size w HB.out (Nat.le_refl _) ?_; intro w2 HG2 hB2; have HRow : Hid (RowAt w2 w.heap.size 5 1 (up1 f 0)) := by { show w2.heap[_]? = _; rw [HG2.out, splice_row HZ.out HX.out (by omega)]; rfl }; have HB2 : Hid (Below w.heap.size w w2) := hB2; clear HG2 hB2)
      | (go_at_call 27; refine (addm_own _ w.heap.size w.heap.size 0 0 1 1 _ r _ s (up1 f 0) f hr (HRow.out.ow (Nat.le_refl _) (by omega)) (by omega) (fun i _ => up1_lt HV.out i) (HL.out.1.later HB2.out) (by omega)).mono ?_; rintro e w3 ⟨rfl, ho3, hg3⟩; have HO3 : Hid (Ow w3 w.heap.size (some ⟨w.heap.size, 0, none⟩) 1 1 (rs (up1 f 0) f r 0 0)) := ho3; have HG3 : Hid (w2.grownBy w3 (some w.heap.size)) := hg3; clear ho3 hg3))
    go_ret
    exact ⟨rfl, HO3.out.cong (fun i hi => by rw [up1_pm HV.out hr i hi, HF.out i hi]), below_row HB2.out HG3.out (Nat.le_refl _)⟩
  · go_enter Try.func31, Try.ntmps31
    go_wp2_with (first
      | (at_make; refine wpList_make_full _ rfl _ _ 22 rfl w.heap.size 5 i0 (.int .u8 0) 1 Try.underlying22 hi hz0 hz1 .i64 .i64 _ _ (n + 1) rfl rfl rfl rfl (by rw [hz2]; omega) hml (Nat.le_refl _) ?_; intro w1 hown hgrow; have HR : Hid (w1.heap[w.heap.size]? = some (.cells zs.toArray 5 (0, 0))) := row_list (made_at hown) HZ.out; have HB : Hid (Below w.heap.size w w1) := grown_none.mp hgrow; clear hown hgrow)
      | (refine wpList_copy_splice rfl _ _ 22 22 rfl 5 Try.underlying22 hsz (some ⟨w.heap.size, 1, none⟩) s n n n c rfl rfl w.heap.size 1 zs 5 HR.out ls HM.out (fun h0 => ⟨rfl, (copy_src HL.out.1 HB.out HX.out w.heap.size h0).2⟩) hfit HO.out w.heap.size w HB.out (Nat.le_refl _) ?_; intro w2 HG2 hB2; have HRow : Hid (RowAt w2 w.heap.size 5 (n + 1) (up1 f n)) := by { show w2.heap[_]? = _; rw [HG2.out, splice_row HZ.out HX.out (by omega)]; rfl }; have HB2 : Hid (Below w.heap.size w w2) := hB2; clear HG2 hB2)
      | (go_at_call 27; refine (addm_own _ w.heap.size w.heap.size 0 n (n + 1) (n + 1) _ r _ s (up1 f n) f hr (HRow.out.ow (Nat.le_refl _) (by omega)) (by omega) (fun i _ => up1_lt HV.out i) (HL.out.1.later HB2.out) (by omega)).mono ?_; rintro e w3 ⟨rfl, ho3, hg3⟩; have HO3 : Hid (Ow w3 w.heap.size (some ⟨w.heap.size, 0, none⟩) (n + 1) (n + 1) (rs (up1 f n) f r 0 n)) := ho3; have HG3 : Hid (w2.grownBy w3 (some w.heap.size)) := hg3; clear ho3 hg3))
    go_ret
    exact ⟨rfl, HO3.out.cong (fun i hi => by rw [up1_pm HV.out hr i hi, HF.out i hi]), below_row HB2.out HG3.out (Nat.le_refl _)⟩
set_option maxRecDepth 20000 in
set_option maxHeartbeats 1000000 in
theorem fromroots_any (w : World) (a : Option Addr) (n c : Nat) (f : Nat → Nat) (ha : Lk w a n c f) (hn : n ≤ 511) :
    Calls Try.prog 17 #[.slice a n c] w fun e w' => ∃ s k, e = .returned (.tuple #[.slice s (n + 1) k, .int .i64 0]) ∧ Ow w' w.heap.size s (n + 1) k (fr f n) ∧ Below w.heap.size w w' := by
  have HA : Hid (Lk w a n c f) := ha
  have HV : Hid (∀ i, i < n → f i < 256) := ha.1.1
  have h1 : Hid (Ow (w.alloc (.cells #[.int .u8 1] 5)) w.heap.size (some ⟨w.heap.size, 0, none⟩) 1 1 uno) := RowAt.ow (by unfold RowAt; rw [new_at]; kernel_rfl) (Nat.le_refl _) (by omega)
  clear ha
  go_enter Try.func17, Try.ntmps17
  go_wp2
  go_loopw [4, 13] (fun v i wr => ∃ k sp kp, k ≤ n ∧ i = .int .i64 (k : Int) ∧ v = .slice sp (k + 1) kp ∧ Ow wr w.heap.size sp (k + 1) kp (fr f k) ∧ Below w.heap.size w wr) (fun _ i _ => n - (intOf i).toNat)
  case atStart => exact ⟨0, _, _, by omega, rfl, rfl, h1.out, alloc_below _ _⟩
  case round =>
    clear h1
    obtain ⟨k, sp, kp, hk, rfl, rfl, hp, hbr⟩ := hrel
    have HP : Hid (Ow wr w.heap.size sp (k + 1) kp (fr f k)) := hp
    have HB : Hid (Below w.heap.size w wr) := hbr
    by_cases hlt : k < n
    · obtain ⟨ba, oa, ea, hca⟩ := (HA.out.1.later hbr).2 k hlt
      obtain ⟨x, HX⟩ : ∃ x, Hid (f k = x) := ⟨_, rfl⟩
      rw [HX.out] at hca
      have hx : x < 256 := by rw [← HX.out]; exact HV.out k hlt
      have ok := fr_ok f k
      have HLk : Hid (Lk wr sp (k + 1) kp (fr f k)) := hp.lk (fun i _ => ok.1 i) (by omega)
      have H4 : Hid (∀ i, i < k + 1 + 1 → pm (zx (fr f k) (k + 1)) (lin x) i = fr f (k + 1) i) := fun i _ => by
        show _ = pm (fr f k) (lin (f k)) i
        rw [HX.out]
        exact pm_congr (zx_self ok.2.1) (fun _ => rfl) i
      clear hp hbr ok
      subst ea
      go_wp2_with (go_at_call 31; refine (withroot_any _ _ (k + 1) _ x _ (fr f (k + 1)) HLk.out hx (by omega) H4).mono ?_; rintro e w2 ⟨rfl, ho2, hb2⟩)
      have hsz := HB.out.size
      exact ⟨⟨k + 1, _, _, by omega, by go_num, rfl, own_mono ho2 hsz, two_below HB.out hb2⟩, by simp [intOf]; omega⟩
    · obtain rfl : k = n := by omega
      go_wp2
      go_ret2
      exact ⟨sp, kp, rfl, HP.out, HB.out⟩
set_option maxHeartbeats 400000 in
theorem fromroots_long (w : World) (a : Option Addr) (n c : Nat) (hn : 511 < n) :
    Calls Try.prog 17 #[.slice a n c] w fun e w' => e = .returned (.tuple #[.slice none 0 0, .int .i64 4]) ∧ w = w' := by
  go_enter Try.func17, Try.ntmps17
  go_wp2
  go_ret2
  exact ⟨rfl, rfl⟩
end Go.Proofs.Ythpjedoolbfjfab
