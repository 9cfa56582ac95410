/-
  Contracts of the program's matrices: rowsOf.
-/
import Derived.Test.YtaoehildaenbnabMk
namespace Go.Proofs.Ytaoehildaenbnab
open Go.RowKit
/-- A row of values. -/
def vrow (n : Nat) (v : Nat → Value) : Array Value := (Array.range n).map v
theorem vrow_size (n : Nat) (v : Nat → Value) : (vrow n v).size = n := by simp [vrow]
theorem vrow_get (n : Nat) (v : Nat → Value) (i : Nat) (h : i < n) : (vrow n v)[i]? = some (v i) := by simp [vrow, h]
theorem vrow_set (n : Nat) (v : Nat → Value) (i : Nat) (x : Value) : (vrow n v).setIfInBounds i x = vrow n (fun j => if j = i then x else v j) := by
  apply Array.ext
  · simp [vrow]
  · intro j h1 h2
    by_cases e : i = j
    · subst e; simp [vrow]
    · rw [Array.getElem_setIfInBounds_ne (by simpa using h1) e]; simp [vrow, Ne.symm e]
/-- A row of lists. -/
def VAt (w : World) (g n : Nat) (v : Nat → Value) : Prop := w.heap[g]? = some (.cells (vrow n v) 22 (0, 0))
theorem VAt.lt {w : World} {g n : Nat} {v : Nat → Value} (h : VAt w g n v) : g < w.heap.size := lt_of_block h
theorem VAt.cell {w : World} {g n : Nat} {v : Nat → Value} (h : VAt w g n v) (i : Nat) (hi : i < n) : w.cell? ⟨g, i, none⟩ = some (v i) := by rw [cell_of_row w g i _ _ _ h, vrow_get n v i hi]
theorem VAt.free {w : World} {g n : Nat} {v : Nat → Value} (h : VAt w g n v) (i : Nat) : w.frozen? ⟨g, i, none⟩ = false := by
  unfold VAt at h
  simp [World.frozen?, h]
theorem VAt.later {w w' : World} {g n : Nat} {v : Nat → Value} (h : VAt w g n v) (hb : Below w.heap.size w w') : VAt w' g n v := by unfold VAt; rw [hb.block g h.lt]; exact h
theorem VAt.congr {w : World} {g n : Nat} {v v' : Nat → Value} (h : VAt w g n v) (e : ∀ i, i < n → v i = v' i) : VAt w g n v' := by
  unfold VAt at *
  rw [h]
  congr 2
  apply Array.ext
  · simp [vrow]
  · intro i h1 h2
    simp [vrow]
    exact e i (by simpa [vrow] using h1)
theorem VAt.set {w : World} {g n : Nat} {v : Nat → Value} (h : VAt w g n v) (i : Nat) (x : Value) : VAt (w.setCell ⟨g, i, none⟩ x) g n (fun j => if j = i then x else v j) := by
  unfold VAt at *
  rw [setCell_eq_setRow w g i _ _ (0, 0) _ h, setRow_heap w g _ _ _ (0, 0) h, vrow_set]
theorem vmade_at {w1 : World} {base g n : Nat} (h : w1.ownsRow base 22 1 (.slice (some ⟨g, 0, none⟩) n n) n (madeCells (Value.slice none 0 0).cells (n * 1)).toList) : VAt w1 g n (fun _ => .slice none 0 0) := by
  rcases h.2 with ⟨h', _⟩ | ⟨g', cap', cur, h', _, hg, _, _, hs, htake⟩
  · simp at h'
  · simp only [Value.slice.injEq, Option.some.injEq, Addr.mk.injEq, and_true, true_and] at h'
    obtain ⟨rfl, rfl⟩ := h'
    unfold VAt
    rw [hg]
    congr 2
    apply Array.toList_inj.mp
    rw [List.take_of_length_le (by simp; omega)] at htake
    rw [htake, Nat.mul_one]
    show (madeCells #[Value.slice none 0 0] n).toList = _
    rw [toList_madeCells_one]
    apply List.ext_getElem
    · simp [vrow]
    · intro i h1 h2; simp [vrow]
theorem VAt.own {w : World} {g n B : Nat} {v : Nat → Value} (h : VAt w g n v) (hb : B ≤ g) (hn : n ≤ maxLen) : w.ownsRow B 22 1 (.slice (some ⟨g, 0, none⟩) n n) n (vrow n v).toList :=
  ⟨by simp [vrow_size], .inr ⟨g, n, vrow n v, rfl, hb, h, Nat.le_refl _, hn, by simp [vrow_size], List.take_of_length_le (by simp [vrow_size])⟩⟩
theorem info22 : (Try.prog.info? 22).map (fun i => (i.zero, i.size, i.bytes)) = some (some (.slice none 0 0), 1, 24) := by kernel_rfl
/-- A matrix's rows, as lists: those before t. -/
def rvf (a : Option Addr) (c t i : Nat) : Value := if i < t then .slice (pc a (i * c) c) c c else .slice none 0 0
theorem rvf_zero (a : Option Addr) (c i : Nat) : rvf a c 0 i = .slice none 0 0 := by unfold rvf; rw [if_neg (by omega)]
theorem rvf_step (a : Option Addr) (c t i : Nat) : (if i = t then Value.slice (pc a (t * c) c) c c else rvf a c t i) = rvf a c (t + 1) i := by
  unfold rvf
  by_cases h : i = t
  · subst h; rw [if_pos rfl, if_pos (by omega)]
  · rw [if_neg h]
    by_cases h2 : i < t
    · rw [if_pos h2, if_pos (by omega)]
    · rw [if_neg h2, if_neg (by omega)]
set_option maxRecDepth 20000 in
set_option maxHeartbeats 2000000 in
theorem rowsof_any (w : World) (r c n k : Nat) (a : Option Addr) (F : Nat → Nat) (ha : Mt w a n k F) (R : Rt r c n) :
    Calls Try.prog 32 #[mv r c a n k] w fun e w' => ∃ g, e = .returned (.slice (some ⟨g, 0, none⟩) r r) ∧ VAt w' g r (rvf a c r) ∧ w.heap.size ≤ g ∧ Below w.heap.size w w' := by
  obtain ⟨i0, hi0, hz0, hz1, hz2⟩ := info_parts info22
  have HRt : Hid (Rt r c n) := R
  have hn := R.le
  have hr64 := R.r64
  have hc64 := R.c64
  have HA : Hid (Mt w a n k F) := ha
  have hml : r ≤ maxLen := by unfold maxLen; omega
  have HV0 : Hid (Vr (w.alloc (.cells #[.int .i64 (r : Int), .int .i64 (c : Int), .slice a n k] 24)) w.heap.size (.int .i64 (r : Int)) (.int .i64 (c : Int)) (.slice a n k)) := Vr.new w _ _ _
  clear ha R
  go_enter Try.func32, Try.ntmps32
  go_wp2_with (first
    | (at_make; refine wpList_make_full _ rfl _ _ 39 rfl (w.heap.size + 1) 22 i0 (.slice none 0 0) 1 Try.underlying39 hi0 hz0 hz1 .i64 .i64 _ _ r rfl rfl rfl rfl (by rw [hz2]; omega) hml (by simp) ?_; intro w2 hown hgrow; have HR2 : Hid (VAt w2 (w.heap.size + 1) r (fun _ => .slice none 0 0)) := by { show VAt _ _ _ _; have := vmade_at hown; simpa using this }; have HB2 : Hid (Below w.heap.size w w2) := two_below (alloc_low _ _) (grown_none.mp hgrow); have HV2 : Hid (Vr w2 w.heap.size (.int .i64 (r : Int)) (.int .i64 (c : Int)) (.slice a n k)) := HV0.out.later (grown_none.mp hgrow); have d0 := HV2.out.c0; clear hown hgrow))
  clear d0 HV0
  go_loopw [4, 10] (fun _ i wr => ∃ t : Nat, t ≤ r ∧ i = .int .i64 (t : Int) ∧ VAt wr (w.heap.size + 1) r (rvf a c t) ∧ Vr wr w.heap.size (.int .i64 (r : Int)) (.int .i64 (c : Int)) (.slice a n k) ∧ Below w.heap.size w wr) (fun _ i _ => r - (intOf i).toNat)
  case atStart => exact ⟨0, by omega, rfl, HR2.out.congr (fun p _ => (rvf_zero a c p).symm), HV2.out, HB2.out⟩
  case round =>
    clear HR2 HV2 HB2
    obtain ⟨t, ht, rfl, hr, hv, hbr⟩ := hrel
    have HR : Hid (VAt wr (w.heap.size + 1) r (rvf a c t)) := hr
    have HV : Hid (Vr wr w.heap.size (.int .i64 (r : Int)) (.int .i64 (c : Int)) (.slice a n k)) := hv
    have HB : Hid (Below w.heap.size w wr) := hbr
    clear hr hv hbr
    by_cases hlt : t < r
    · obtain ⟨p, HP⟩ : ∃ p, Hid (t * c = p) := ⟨_, rfl⟩
      obtain ⟨sa, HSa⟩ : ∃ s, Hid (pc a p c = s) := ⟨_, rfl⟩
      have HFi : Hid (p + c ≤ n) := by have := HRt.out.fit hlt; rw [HP.out] at this; exact this
      have HSt : Hid (∀ i, (if i = t then Value.slice sa c c else rvf a c t i) = rvf a c (t + 1) i) := fun i => by rw [← rvf_step, HP.out, HSa.out]
      have c0 := HV.out.c0
      have c1 := HV.out.c1
      have c2 := HV.out.c2
      have t1 : (t : Int) < (r : Int) := by omega
      go_wp2_with (first
        | (go_at_call 24; refine (rowof_any _ _ c n k t p a sa HA.out.nil HA.out.room HFi.out hn (by omega) HP HSa).mono ?_; rintro e w4 ⟨rfl, hb4⟩; have HB4 : Hid (Below wr.heap.size wr w4) := hb4; have hc := (HR.out.later HB4.out).cell t hlt; have hf := (HR.out.later HB4.out).free t; have RR : Hid (VAt (w4.setCell ⟨w.heap.size + 1, t, none⟩ (.slice sa c c)) (w.heap.size + 1) r (rvf a c (t + 1)) ∧ Vr (w4.setCell ⟨w.heap.size + 1, t, none⟩ (.slice sa c c)) w.heap.size (.int .i64 (r : Int)) (.int .i64 (c : Int)) (.slice a n k) ∧ Below w.heap.size w (w4.setCell ⟨w.heap.size + 1, t, none⟩ (.slice sa c c))) := ⟨((HR.out.later HB4.out).set t _).congr (fun j _ => HSt.out j), (HV.out.later HB4.out).kept (grown_setCell _ _ _ _) (by omega), (two_below HB.out HB4.out).setCell (by show w.heap.size ≤ w.heap.size + 1; omega) _⟩; clear hb4))
      exact ⟨⟨t + 1, by omega, by go_num, RR.out.1, RR.out.2.1, RR.out.2.2⟩, by simp [intOf]; omega⟩
    · obtain rfl : t = r := by omega
      go_wp2
      go_ret
      exact ⟨_, rfl, HR.out, by omega, HB.out⟩
end Go.Proofs.Ytaoehildaenbnab
