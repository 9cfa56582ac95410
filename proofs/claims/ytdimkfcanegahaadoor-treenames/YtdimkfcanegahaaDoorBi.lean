/-
  Contracts of the program's token: names, May, spelt.
-/
import Derived.Test.YtdimkfcanegahaaDoorAp
import Derived.Test.YtdimkfcanegahaaDoorBd
namespace Go.Proofs.YtdimkfcanegahaaDoor
open Go.RowKit
theorem isN_of {x : ByteArray} {n : Nat} (hn : x.size = n) (h0 : 1 ≤ n) (h16 : n ≤ 16) (hW : isW x = false) (h : ∀ j, j < n → inN (tb x j) (decide (j = 0)) = true) : isN x = true := by
  refine isN_iff.2 ⟨by omega, by omega, ?_, hW, fun j hj => ?_⟩
  · have := h 0 (by omega)
    rw [show decide ((0 : Nat) = 0) = true from rfl, inN_first] at this
    exact this
  · have := h j (by omega)
    by_cases e : j = 0
    · subst e
      rw [show decide ((0 : Nat) = 0) = true from rfl, inN_first] at this
      rw [this]
      rfl
    · rw [decide_eq_false e, inN_rest] at this
      rw [Bool.or_comm]
      simpa using this
theorem isN_not_at {x : ByteArray} {n j : Nat} (hn : x.size = n) (hj : j < n) (h : inN (tb x j) (decide (j = 0)) = false) : isN x = false := by
  refine isN_not (fun hp => ?_)
  by_cases e : j = 0
  · subst e
    rw [show decide ((0 : Nat) = 0) = true from rfl, inN_first] at h
    rw [hp.first] at h
    cases h
  · rw [decide_eq_false e, inN_rest] at h
    have := hp.all j (by omega)
    rw [Bool.or_comm] at this
    simp only [Bool.true_and] at h
    rw [this] at h
    cases h
set_option maxRecDepth 20000 in
set_option maxHeartbeats 2000000 in
theorem tname_any (w : World) (x : ByteArray) (n : Nat) (hn : x.size = n) (hs : n ≤ 140737488351232) (HT : Hid (Wt9 w)) : Calls Tryd.prog 98 #[.string x] w fun e w' => e = .returned (.bool (isN x)) ∧ w = w' := by
  have HWd : Hid (Calls Tryd.prog 99 #[.string x] w fun e w'' => e = .returned (.bool (isW x)) ∧ w = w'') := tword_any w x HT
  obtain ⟨v, HV⟩ : ∃ v, Hid (isW x = v) := ⟨_, rfl⟩
  obtain ⟨r, HR⟩ : ∃ r, Hid (isN x = r) := ⟨_, rfl⟩
  rw [HV.out] at HWd
  rw [HR.out]
  by_cases h0 : n = 0
  · obtain rfl : r = false := by rw [← HR.out]; exact isN_not (fun h => by have := h.pos; omega)
    subst h0
    clear HR
    go_enter Tryd.func98, Tryd.ntmps98
    go_wp2
    go_ret
    exact ⟨rfl, rfl⟩
  have q0 : ((n : Int) == 0) = false := by simp; omega
  by_cases h16 : 16 < n
  · obtain rfl : r = false := by rw [← HR.out]; exact isN_not (fun h => by have := h.most; omega)
    have q2 : decide (16 < n) = true := decide_eq_true h16
    have q3 : decide ((16 : Int) < (n : Int)) = true := decide_eq_true (by omega)
    clear HR
    go_enter Tryd.func98, Tryd.ntmps98
    go_wp2
    go_ret
    exact ⟨rfl, rfl⟩
  have q2 : decide (16 < n) = false := decide_eq_false h16
  have q3 : decide ((16 : Int) < (n : Int)) = false := decide_eq_false (by omega)
  cases v with
  | true =>
    obtain rfl : r = false := by rw [← HR.out]; exact isN_not (fun h => by have := h.noWord; rw [HV.out] at this; cases this)
    clear HR
    go_enter Tryd.func98, Tryd.ntmps98
    go_wp2_with (go_at_call 99; refine HWd.out.mono ?_; rintro r w1 ⟨rfl, rfl⟩)
    go_ret
    exact ⟨rfl, rfl⟩
  | false =>
    have HRn : Hid ((∀ j, j < n → inN (tb x j) (decide (j = 0)) = true) → r = true) := fun h => by
      rw [← HR.out]
      exact isN_of hn (by omega) (by omega) HV.out h
    have HRf : Hid (∀ j, j < n → inN (tb x j) (decide (j = 0)) = false → r = false) := fun j hj h => by
      rw [← HR.out]
      exact isN_not_at hn hj h
    clear HR
    go_enter Tryd.func98, Tryd.ntmps98
    go_wp2_with (go_at_call 99; refine HWd.out.mono ?_; rintro r w1 ⟨rfl, rfl⟩)
    go_loop [18] (fun vi => ∃ i : Nat, i ≤ n ∧ vi = .int .i64 (i : Int) ∧ Hid (∀ j, j < i → inN (tb x j) (decide (j = 0)) = true)) (fun vi => n - (intOf vi).toNat)
    case atStart => exact ⟨0, by omega, rfl, fun j hj => by omega⟩
    case round =>
      obtain ⟨i, hi, rfl, HA⟩ := hrel
      by_cases hlt : i < n
      · have hix : i < x.size := by omega
        obtain ⟨c, HC⟩ : ∃ c, Hid (tb x i = c) := ⟨_, rfl⟩
        have hc : x[i].toNat = c := by rw [← HC.out]; exact tb_at hix
        have hc8 : c < 256 := by rw [← HC.out]; exact tb_lt x i
        have p0 : (0 : Int) ≤ (i : Int) := by omega
        have p1 : (i : Int) < (n : Int) := by omega
        obtain ⟨f, HF⟩ : ∃ f, Hid (decide (i = 0) = f) := ⟨_, rfl⟩
        have qf : ((i : Int) == 0) = f := by rw [← HF.out]; by_cases e : i = 0 <;> simp [e]
        obtain ⟨g, HG⟩ : ∃ g, Hid (inN c f = g) := ⟨_, rfl⟩
        have HN : Hid (∀ w' : World, Calls Tryd.prog 102 #[.int .u8 (c : Int), .bool f] w' fun e w'' => e = .returned (.bool g) ∧ w' = w'') := fun w' => by rw [← HG.out]; exact tinName_any w' c f hc8
        cases g with
        | true =>
          have HA2 : Hid (∀ j, j < i + 1 → inN (tb x j) (decide (j = 0)) = true) := fun j hj => by
            by_cases e : j = i
            · rw [e, HC.out, HF.out]; exact HG.out
            · exact HA.out j (by omega)
          go_wp2_with (go_at_call 102; refine (HN.out _).mono ?_; rintro r w1 ⟨rfl, rfl⟩)
          exact ⟨⟨i + 1, by omega, by go_num, HA2⟩, by simp [intOf]; omega⟩
        | false =>
          have HR9 : Hid (r = false) := HRf.out i hlt (by rw [HC.out, HF.out]; exact HG.out)
          go_wp2_with (go_at_call 102; refine (HN.out _).mono ?_; rintro r w1 ⟨rfl, rfl⟩)
          go_ret
          exact ⟨by rw [HR9.out]; rfl, rfl⟩
      · have HR9 : Hid (r = true) := HRn.out (fun j hj => HA.out j (by omega))
        go_wp2
        go_ret
        exact ⟨by rw [HR9.out]; rfl, rfl⟩
set_option maxRecDepth 20000 in
set_option maxHeartbeats 4000000 in
theorem tmay (w : World) (k : Nat) (x : ByteArray) (n ln cl : Int) (h : TvOk ⟨k, x, n, ln, cl⟩) (hw : Wt9 w) :
    Calls Tryd.prog 80 #[.agg #[.int .u8 (k : Int), .string x, .int .i64 n, .int .i64 ln, .int .i64 cl]] w fun e w' => e = .returned (.bool (mayB ⟨k, x, n, ln, cl⟩)) ∧ Below w.heap.size w w' := by
  obtain ⟨h8, hx, hn1, hn2⟩ := h
  have h8 : k < 256 := h8
  have hx : x.size ≤ 140737488351232 := hx
  have hn1 : -9223372036854775808 ≤ n := hn1
  have hn2 : n ≤ 9223372036854775807 := hn2
  have HW := jhid9 hw
  have hv := Vn.new w 83 #[.int .u8 (k : Int), .string x, .int .i64 n, .int .i64 ln, .int .i64 cl]
  have k0 := hv.cell 0 _ rfl
  have k1 := hv.cell 1 _ rfl
  have k2 := hv.cell 2 _ rfl
  clear hv hw
  by_cases e1 : k = 1
  · subst e1
    by_cases hn : n = 0
    · have HR : Hid (mayB ⟨1, x, n, ln, cl⟩ = isN x) := by show mayB _ = _; unfold mayB; simp [hn]
      rw [HR.out]
      subst hn
      have HC : Hid (∀ w' : World, Below w.heap.size w w' → Calls Tryd.prog 98 #[.string x] w' fun e w'' => e = .returned (.bool (isN x)) ∧ w' = w'') := fun w' hb => tname_any w' x _ rfl hx (HW.out.later hb)
      obtain ⟨r, Hr⟩ : ∃ r, Hid (isN x = r) := ⟨_, rfl⟩
      rw [Hr.out] at HC
      rw [Hr.out]
      go_enter Tryd.func80, Tryd.ntmps80
      go_wp2_with (go_at_call 98; refine (HC.out _ (jlow _ _)).mono ?_; rintro r w1 ⟨rfl, rfl⟩)
      go_ret
      exact ⟨rfl, jlow _ _⟩
    · have HR : Hid (mayB ⟨1, x, n, ln, cl⟩ = false) := by show mayB _ = _; unfold mayB; simp [hn]
      rw [HR.out]
      have q : (n == 0) = false := by simpa using hn
      go_enter Tryd.func80, Tryd.ntmps80
      go_wp2
      go_ret
      exact ⟨rfl, jlow _ _⟩
  have q1 : ((k : Int) == 1) = false := by simp; omega
  by_cases e2 : k = 2
  · subst e2
    by_cases hn : n = 0
    · have HR : Hid (mayB ⟨2, x, n, ln, cl⟩ = isW x) := by show mayB _ = _; unfold mayB; simp [hn]
      rw [HR.out]
      subst hn
      have HC : Hid (∀ w' : World, Below w.heap.size w w' → Calls Tryd.prog 99 #[.string x] w' fun e w'' => e = .returned (.bool (isW x)) ∧ w' = w'') := fun w' hb => tword_any w' x (HW.out.later hb)
      obtain ⟨r, Hr⟩ : ∃ r, Hid (isW x = r) := ⟨_, rfl⟩
      rw [Hr.out] at HC
      rw [Hr.out]
      go_enter Tryd.func80, Tryd.ntmps80
      go_wp2_with (go_at_call 99; refine (HC.out _ (jlow _ _)).mono ?_; rintro r w1 ⟨rfl, rfl⟩)
      go_ret
      exact ⟨rfl, jlow _ _⟩
    · have HR : Hid (mayB ⟨2, x, n, ln, cl⟩ = false) := by show mayB _ = _; unfold mayB; simp [hn]
      rw [HR.out]
      have q : (n == 0) = false := by simpa using hn
      go_enter Tryd.func80, Tryd.ntmps80
      go_wp2
      go_ret
      exact ⟨rfl, jlow _ _⟩
  have q2 : ((k : Int) == 2) = false := by simp; omega
  by_cases e3 : k = 3
  · subst e3
    have HR : Hid (mayB ⟨3, x, n, ln, cl⟩ = (decide (x.size = 0) && (decide (0 ≤ n) && decide (n ≤ 2147483647)))) := rfl
    rw [HR.out]
    have e0 := tl_nil (x := x)
    by_cases hx0 : x.size = 0
    · rw [decide_eq_true hx0] at e0 ⊢
      by_cases g1 : 0 ≤ n
      · rw [decide_eq_true g1]
        have g2 : decide (0 ≤ n) = true := decide_eq_true g1
        obtain ⟨b, Hb⟩ : ∃ b, Hid (decide (n ≤ 2147483647) = b) := ⟨_, rfl⟩
        have hb := Hb.out
        rw [Hb.out]
        go_enter Tryd.func80, Tryd.ntmps80
        go_wp2
        go_ret
        exact ⟨rfl, jlow _ _⟩
      · rw [decide_eq_false g1]
        have g2 : decide (0 ≤ n) = false := decide_eq_false g1
        go_enter Tryd.func80, Tryd.ntmps80
        go_wp2
        go_ret
        exact ⟨rfl, jlow _ _⟩
    · rw [decide_eq_false hx0] at e0 ⊢
      go_enter Tryd.func80, Tryd.ntmps80
      go_wp2
      go_ret
      exact ⟨rfl, jlow _ _⟩
  have q3 : ((k : Int) == 3) = false := by simp; omega
  by_cases e4 : k = 4
  · subst e4
    by_cases hn : n = 0
    · subst hn
      by_cases hx1 : x.size = 1
      · have h0x : 0 < x.size := by omega
        obtain ⟨c, HC⟩ : ∃ c, Hid (tb x 0 = c) := ⟨_, rfl⟩
        have hc : x[0].toNat = c := by rw [← HC.out]; exact tb_at h0x
        have hc8 : c < 256 := by rw [← HC.out]; exact tb_lt x 0
        have HR : Hid (mayB ⟨4, x, 0, ln, cl⟩ = isS c) := by show mayB _ = _; unfold mayB; simp [hx1, HC.out]
        rw [HR.out]
        have HS : Hid (∀ w' : World, Calls Tryd.prog 100 #[.int .u8 (c : Int)] w' fun e w'' => e = .returned (.bool (isS c)) ∧ w' = w'') := fun w' => tsign_any w' c hc8
        obtain ⟨r, Hr⟩ : ∃ r, Hid (isS c = r) := ⟨_, rfl⟩
        rw [Hr.out] at HS
        rw [Hr.out]
        go_enter Tryd.func80, Tryd.ntmps80
        go_wp2_with (go_at_call 100; refine (HS.out _).mono ?_; rintro r w1 ⟨rfl, rfl⟩)
        go_ret
        exact ⟨rfl, jlow _ _⟩
      · have HR : Hid (mayB ⟨4, x, 0, ln, cl⟩ = false) := by show mayB _ = _; unfold mayB; simp [hx1]
        rw [HR.out]
        have qx : ((x.size : Int) == 1) = false := by simp; omega
        go_enter Tryd.func80, Tryd.ntmps80
        go_wp2
        go_ret
        exact ⟨rfl, jlow _ _⟩
    · have HR : Hid (mayB ⟨4, x, n, ln, cl⟩ = false) := by show mayB _ = _; unfold mayB; simp [hn]
      rw [HR.out]
      have q : (n == 0) = false := by simpa using hn
      go_enter Tryd.func80, Tryd.ntmps80
      go_wp2
      go_ret
      exact ⟨rfl, jlow _ _⟩
  have q4 : ((k : Int) == 4) = false := by simp; omega
  have HR : Hid (mayB ⟨k, x, n, ln, cl⟩ = false) := by show mayB _ = _; unfold mayB; simp [e1, e2, e3, e4]
  rw [HR.out]
  go_enter Tryd.func80, Tryd.ntmps80
  go_wp2
  go_ret
  exact ⟨rfl, jlow _ _⟩
set_option maxRecDepth 20000 in
set_option maxHeartbeats 1000000 in
theorem tspelt (w : World) (k : Nat) (x : ByteArray) (n ln cl : Int) (hn1 : -9223372036854775808 ≤ n) (hn2 : n ≤ 9223372036854775807) (ht : Tab9 w) :
    Calls Tryd.prog 86 #[.agg #[.int .u8 (k : Int), .string x, .int .i64 n, .int .i64 ln, .int .i64 cl]] w fun e w' => e = .returned (.string (frm ⟨k, x, n, ln, cl⟩)) ∧ Below w.heap.size w w' := by
  have hv := Vn.new w 83 #[.int .u8 (k : Int), .string x, .int .i64 n, .int .i64 ln, .int .i64 cl]
  have k0 := hv.cell 0 _ rfl
  have k1 := hv.cell 1 _ rfl
  have k2 := hv.cell 2 _ rfl
  clear hv
  have HI : Hid (∀ w' : World, Below w.heap.size w w' → Calls Tryd.prog 69 #[.int .i64 n] w' fun e w'' => e = .returned (.string (frm ⟨3, x, n, ln, cl⟩)) ∧ Below w'.heap.size w' w'') := fun w' hb => (itoa_raw w' n hn1 hn2 (ht.later hb)).mono (fun e w'' h => by
    obtain ⟨he, kk, os, rfl⟩ := h
    exact ⟨he, Lib.below_grow _ _ (Nat.le_refl _) kk os⟩)
  clear ht
  by_cases e3 : k = 3
  · subst e3
    obtain ⟨F, HF⟩ : ∃ F, Hid (frm ⟨3, x, n, ln, cl⟩ = F) := ⟨_, rfl⟩
    rw [HF.out] at HI
    rw [HF.out]
    go_enter Tryd.func86, Tryd.ntmps86
    go_wp2_with (go_at_call 69; refine (HI.out _ (jlow _ _)).mono ?_; rintro r w1 ⟨rfl, hb⟩; have HB := jhid9 hb; clear hb)
    go_ret
    exact ⟨rfl, jtwo (jlow _ _) HB.out⟩
  · have q3 : ((k : Int) == 3) = false := by simp; omega
    have HF : Hid (frm ⟨k, x, n, ln, cl⟩ = x) := by show frm _ = _; unfold frm; simp [e3]
    rw [HF.out]
    go_enter Tryd.func86, Tryd.ntmps86
    go_wp2
    go_ret
    exact ⟨rfl, jlow _ _⟩
end Go.Proofs.YtdimkfcanegahaaDoor
