/-
  Contracts of the token's reference: May, Form.
-/
import Derived.Test.YtipjejkjoiifdaaDoorAh
import Derived.Test.YtipjejkjoiifdaaDoorBs
import Derived.Lib.AppendIntMem
namespace Go.Proofs.YtipjejkjoiifdaaDoor
open Go.RowKit
theorem Tab9.later {w w' : World} (h : Tab9 w) (hb : Below w.heap.size w w') : Tab9 w' := by
  unfold Tab9 Lib.TabIs World.var? at *
  cases hg : Tryd.prog.globalNamed "internal/strconv.uint64pow10" with
  | none => rw [hg] at h; cases h
  | some g =>
    rw [hg] at h
    have hlt : g < w.heap.size := by
      rcases Nat.lt_or_ge g w.heap.size with x | x
      · exact x
      · simp only [Option.bind_some] at h
        rw [Array.getElem?_eq_none x] at h
        cases h
    simp only [Option.bind_some] at *
    rw [hb.block g hlt]
    exact h
/-- May a token be? -/
def mayB (v : TV) : Bool :=
  if v.k = 1 then decide (v.n = 0) && isN v.tx
  else if v.k = 2 then decide (v.n = 0) && isW v.tx
  else if v.k = 3 then decide (v.tx.size = 0) && (decide (0 ≤ v.n) && decide (v.n ≤ 2147483647))
  else if v.k = 4 then decide (v.n = 0) && (decide (v.tx.size = 1) && isS (tb v.tx 0))
  else false
/-- A token's text. -/
def frm (v : TV) : ByteArray := if v.k = 3 then ⟨(Lib.itoa v.n).toArray⟩ else v.tx
/-- A token as it is handed over. -/
def tva (v : TV) : Value := .agg #[.int .u8 (v.k : Int), .string v.tx, .int .i64 v.n, .int .i64 v.ln, .int .i64 v.cl]
/-- A token's numbers are those of Go. -/
structure TvOk (v : TV) : Prop where
  k8 : v.k < 256
  tx47 : v.tx.size ≤ 140737488351232
  n1 : -9223372036854775808 ≤ v.n
  n2 : v.n ≤ 9223372036854775807
theorem tl_nil {x : ByteArray} : (x.toList == []) = decide (x.size = 0) := by
  rw [ByteArray.toList_eq]
  obtain ⟨⟨l⟩⟩ := x
  cases l with
  | nil => rfl
  | cons a l => rfl
set_option maxRecDepth 20000 in
set_option maxHeartbeats 2000000 in
theorem rmay_any (w : World) (k : Nat) (x : ByteArray) (n ln cl : Int) (h : TvOk ⟨k, x, n, ln, cl⟩) :
    Calls Tryd.prog 15 #[.agg #[.int .u8 (k : Int), .string x, .int .i64 n, .int .i64 ln, .int .i64 cl]] w fun e w' => e = .returned (.bool (mayB ⟨k, x, n, ln, cl⟩)) ∧ Below w.heap.size w w' := by
  obtain ⟨h8, hx, hn1, hn2⟩ := h
  have h8 : k < 256 := h8
  have hx : x.size ≤ 140737488351232 := hx
  have hn1 : -9223372036854775808 ≤ n := hn1
  have hn2 : n ≤ 9223372036854775807 := hn2
  have hv := Vn.new w 37 #[.int .u8 (k : Int), .string x, .int .i64 n, .int .i64 ln, .int .i64 cl]
  have k0 := hv.cell 0 _ rfl
  have k1 := hv.cell 1 _ rfl
  have k2 := hv.cell 2 _ rfl
  clear hv
  by_cases e1 : k = 1
  · subst e1
    by_cases hn : n = 0
    · have HR : Hid (mayB ⟨1, x, n, ln, cl⟩ = isN x) := by show mayB _ = _; unfold mayB; simp [hn]
      rw [HR.out]
      subst hn
      go_enter Tryd.func15, Tryd.ntmps15
      go_wp2_with (go_at_call 36; refine (rname_any _ x _ rfl hx).mono ?_; rintro r w1 ⟨rfl, hb⟩; have HB := jhid9 hb; clear hb)
      go_ret
      exact ⟨rfl, jtwo (jlow _ _) HB.out⟩
    · have HR : Hid (mayB ⟨1, x, n, ln, cl⟩ = false) := by show mayB _ = _; unfold mayB; simp [hn]
      rw [HR.out]
      have q : (n == 0) = false := by simpa using hn
      go_enter Tryd.func15, Tryd.ntmps15
      go_wp2
      go_ret
      exact ⟨rfl, jlow _ _⟩
  have q1 : ((k : Int) == 1) = false := by simp; omega
  by_cases e2 : k = 2
  · subst e2
    clear q1
    by_cases hn : n = 0
    · have HR : Hid (mayB ⟨2, x, n, ln, cl⟩ = isW x) := by show mayB _ = _; unfold mayB; simp [hn]
      rw [HR.out]
      subst hn
      go_enter Tryd.func15, Tryd.ntmps15
      go_wp2_with (go_at_call 35; refine (rword_any _ x).mono ?_; rintro r w1 ⟨rfl, hb⟩; have HB := jhid9 hb; clear hb)
      go_ret
      exact ⟨rfl, jtwo (jlow _ _) HB.out⟩
    · have HR : Hid (mayB ⟨2, x, n, ln, cl⟩ = false) := by show mayB _ = _; unfold mayB; simp [hn]
      rw [HR.out]
      have q : (n == 0) = false := by simpa using hn
      go_enter Tryd.func15, Tryd.ntmps15
      go_wp2
      go_ret
      exact ⟨rfl, jlow _ _⟩
  have q2 : ((k : Int) == 2) = false := by simp; omega
  by_cases e3 : k = 3
  · subst e3
    clear q1 q2
    have hT := tl_nil (x := x)
    by_cases hs : x.size = 0
    · rw [decide_eq_true hs] at hT
      by_cases h0 : 0 ≤ n
      · have d0 : decide (0 ≤ n) = true := decide_eq_true h0
        by_cases hM : n ≤ 2147483647
        · have HR : Hid (mayB ⟨3, x, n, ln, cl⟩ = true) := by show mayB _ = _; unfold mayB; simp [hs, h0, hM]
          rw [HR.out]
          have d1 : decide (n ≤ 2147483647) = true := decide_eq_true hM
          go_enter Tryd.func15, Tryd.ntmps15
          go_wp2
          go_ret
          exact ⟨rfl, jlow _ _⟩
        · have HR : Hid (mayB ⟨3, x, n, ln, cl⟩ = false) := by show mayB _ = _; unfold mayB; simp [hM]
          rw [HR.out]
          have d1 : decide (n ≤ 2147483647) = false := decide_eq_false hM
          go_enter Tryd.func15, Tryd.ntmps15
          go_wp2
          go_ret
          exact ⟨rfl, jlow _ _⟩
      · have HR : Hid (mayB ⟨3, x, n, ln, cl⟩ = false) := by show mayB _ = _; unfold mayB; simp [h0]
        rw [HR.out]
        have d0 : decide (0 ≤ n) = false := decide_eq_false h0
        go_enter Tryd.func15, Tryd.ntmps15
        go_wp2
        go_ret
        exact ⟨rfl, jlow _ _⟩
    · have HR : Hid (mayB ⟨3, x, n, ln, cl⟩ = false) := by show mayB _ = _; unfold mayB; simp [hs]
      rw [HR.out]
      rw [decide_eq_false hs] at hT
      go_enter Tryd.func15, Tryd.ntmps15
      go_wp2
      go_ret
      exact ⟨rfl, jlow _ _⟩
  have q3 : ((k : Int) == 3) = false := by simp; omega
  by_cases e4 : k = 4
  · subst e4
    clear q1 q2 q3
    by_cases hn : n = 0
    · by_cases hs : x.size = 1
      · have h0x : 0 < x.size := by omega
        obtain ⟨c, HC⟩ : ∃ c, Hid (tb x 0 = c) := ⟨_, rfl⟩
        have hc : x[0].toNat = c := by rw [← HC.out]; exact tb_at h0x
        have hc8 : c < 256 := by rw [← HC.out]; exact tb_lt x 0
        have HR : Hid (mayB ⟨4, x, n, ln, cl⟩ = isS c) := by show mayB _ = _; unfold mayB; simp [hn, hs, HC.out]
        rw [HR.out]
        subst hn
        go_enter Tryd.func15, Tryd.ntmps15
        go_wp2_with (go_at_call 40; refine (rsign_any _ c hc8).mono ?_; rintro r w' ⟨rfl, rfl⟩)
        go_ret
        exact ⟨rfl, jlow _ _⟩
      · have HR : Hid (mayB ⟨4, x, n, ln, cl⟩ = false) := by show mayB _ = _; unfold mayB; simp [hs]
        rw [HR.out]
        subst hn
        have q : ((x.size : Int) == 1) = false := by simp; omega
        have q' : (x.size == 1) = false := by simpa using hs
        go_enter Tryd.func15, Tryd.ntmps15
        go_wp2
        go_ret
        exact ⟨rfl, jlow _ _⟩
    · have HR : Hid (mayB ⟨4, x, n, ln, cl⟩ = false) := by show mayB _ = _; unfold mayB; simp [hn]
      rw [HR.out]
      have q : (n == 0) = false := by simpa using hn
      go_enter Tryd.func15, Tryd.ntmps15
      go_wp2
      go_ret
      exact ⟨rfl, jlow _ _⟩
  have q4 : ((k : Int) == 4) = false := by simp; omega
  have HR : Hid (mayB ⟨k, x, n, ln, cl⟩ = false) := by show mayB _ = _; unfold mayB; simp [e1, e2, e3, e4]
  rw [HR.out]
  go_enter Tryd.func15, Tryd.ntmps15
  go_wp2
  go_ret
  exact ⟨rfl, jlow _ _⟩
set_option maxRecDepth 20000 in
set_option maxHeartbeats 1000000 in
theorem rform_any (w : World) (k : Nat) (x : ByteArray) (n ln cl : Int) (hn1 : -9223372036854775808 ≤ n) (hn2 : n ≤ 9223372036854775807) (ht : Tab9 w) :
    Calls Tryd.prog 44 #[.agg #[.int .u8 (k : Int), .string x, .int .i64 n, .int .i64 ln, .int .i64 cl]] w fun e w' => e = .returned (.string (frm ⟨k, x, n, ln, cl⟩)) ∧ Below w.heap.size w w' := by
  have hv := Vn.new w 37 #[.int .u8 (k : Int), .string x, .int .i64 n, .int .i64 ln, .int .i64 cl]
  have k0 := hv.cell 0 _ rfl
  have k1 := hv.cell 1 _ rfl
  have k2 := hv.cell 2 _ rfl
  clear hv
  have HI : Hid (∀ w' : World, Below w.heap.size w w' → Calls Tryd.prog 49 #[.int .i64 n] w' fun e w'' => e = .returned (.string (frm ⟨3, x, n, ln, cl⟩)) ∧ Below w'.heap.size w' w'') := fun w' hb => (itoa_raw w' n hn1 hn2 (ht.later hb)).mono (fun e w'' h => by
    obtain ⟨he, kk, os, rfl⟩ := h
    exact ⟨he, Lib.below_grow _ _ (Nat.le_refl _) kk os⟩)
  clear ht
  by_cases e3 : k = 3
  · subst e3
    obtain ⟨F, HF⟩ : ∃ F, Hid (frm ⟨3, x, n, ln, cl⟩ = F) := ⟨_, rfl⟩
    rw [HF.out] at HI
    rw [HF.out]
    go_enter Tryd.func44, Tryd.ntmps44
    go_wp2_with (go_at_call 49; refine (HI.out _ (jlow _ _)).mono ?_; rintro r w1 ⟨rfl, hb⟩; have HB := jhid9 hb; clear hb)
    go_ret
    exact ⟨rfl, jtwo (jlow _ _) HB.out⟩
  · have q3 : ((k : Int) == 3) = false := by simp; omega
    have HF : Hid (frm ⟨k, x, n, ln, cl⟩ = x) := by show frm _ = _; unfold frm; simp [e3]
    rw [HF.out]
    go_enter Tryd.func44, Tryd.ntmps44
    go_wp2
    go_ret
    exact ⟨rfl, jlow _ _⟩
end Go.Proofs.YtipjejkjoiifdaaDoor
