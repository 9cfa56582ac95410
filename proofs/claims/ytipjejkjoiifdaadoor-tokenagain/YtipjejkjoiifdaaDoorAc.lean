/-
  Contracts of the token's reference: Where, Fault, end, number.
-/
import Derived.Test.YtipjejkjoiifdaaDoorAb
namespace Go.Proofs.YtipjejkjoiifdaaDoor
open Go.RowKit
set_option maxRecDepth 20000 in
set_option maxHeartbeats 1000000 in
theorem rwhere_any (w : World) (s : ByteArray) (at_ : Int) (m : Nat) (hs : s.size ≤ 140737488351232) (h1 : -9223372036854775808 ≤ at_) (h2 : at_ ≤ 9223372036854775807) (HM : Hid (m = min at_.toNat s.size)) :
    Calls Tryd.prog 48 #[.string s, .int .i64 at_] w fun e w' => e = .returned (.tuple #[.int .i64 (lnn s m : Nat), .int .i64 (cln s m : Nat)]) ∧ w = w' := by
  go_enter Tryd.func48, Tryd.ntmps48
  go_wp2
  go_loop [6, 7, 8] (fun vl vc vi => ∃ k a b : Nat, k ≤ m ∧ vi = .int .i64 (k : Int) ∧ vl = .int .i64 (a : Int) ∧ vc = .int .i64 (b : Int) ∧ Hid (lnn s k = a) ∧ Hid (cln s k = b)) (fun _ _ vi => m - (intOf vi).toNat)
  case atStart => exact ⟨0, 1, 1, by omega, rfl, rfl, rfl, rfl, rfl⟩
  case round =>
    obtain ⟨k, a, b, hk, rfl, rfl, rfl, HA, HB⟩ := hrel
    have ha : 1 ≤ a ∧ a ≤ k + 1 := by rw [← HA.out]; exact lnn_le s k
    have hb : 1 ≤ b ∧ b ≤ k + 1 := by rw [← HB.out]; exact cln_le s k
    obtain ⟨ha1, ha2⟩ := ha
    obtain ⟨hb1, hb2⟩ := hb
    by_cases hlt : k < m
    · have hks : k < s.size := by have := HM.out; omega
      have hka : (k : Int) < at_ := by have := HM.out; omega
      obtain ⟨c, HC⟩ : ∃ c, Hid (tb s k = c) := ⟨_, rfl⟩
      have hc : s[k].toNat = c := by rw [← HC.out]; exact tb_at hks
      have q1 : decide ((k : Int) < at_) = true := decide_eq_true hka
      by_cases h10 : c = 10
      · subst h10
        have HA2 : Hid (lnn s (k + 1) = a + 1) := by show _ = _; rw [lnn_succ, HC.out, if_pos rfl, HA.out]
        have HB2 : Hid (cln s (k + 1) = 1) := by show _ = _; rw [cln_succ, HC.out, if_pos rfl]
        go_wp2
        exact ⟨⟨k + 1, a + 1, 1, by omega, by go_num, by go_num, by go_num, HA2, HB2⟩, by simp [intOf]; omega⟩
      · have q2 : ((c : Int) == 10) = false := by simp; omega
        have HA2 : Hid (lnn s (k + 1) = a) := by show _ = _; rw [lnn_succ, HC.out, if_neg h10, HA.out]
        have HB2 : Hid (cln s (k + 1) = b + 1) := by show _ = _; rw [cln_succ, HC.out, if_neg h10, HB.out]
        go_wp2
        exact ⟨⟨k + 1, a, b + 1, by omega, by go_num, by go_num, by go_num, HA2, HB2⟩, by simp [intOf]; omega⟩
    · obtain rfl : k = m := by omega
      by_cases hks : k < s.size
      · have hka : ¬ (k : Int) < at_ := by have := HM.out; omega
        have q1 : decide ((k : Int) < at_) = false := decide_eq_false hka
        go_wp2
        go_ret2
        exact ⟨by rw [HA.out, HB.out]; rfl, rfl⟩
      · go_wp2
        go_ret2
        exact ⟨by rw [HA.out, HB.out]; rfl, rfl⟩
/-- A variable of three cells: a fault's. -/
def Vf (w : World) (b : Nat) (x y z : Value) : Prop := w.heap[b]? = some (.cells #[x, y, z] 29 (0, 0))
theorem Vf.new (w : World) (x y z : Value) : Vf (w.alloc (.cells #[x, y, z] 29)) w.heap.size x y z := Array.getElem?_push_size
theorem Vf.lt {w : World} {b : Nat} {x y z : Value} (h : Vf w b x y z) : b < w.heap.size := lt_of_block h
theorem Vf.later {w w' : World} {b : Nat} {x y z : Value} (h : Vf w b x y z) (hb : Below w.heap.size w w') : Vf w' b x y z := by unfold Vf; rw [hb.block b h.lt]; exact h
theorem Vf.c0 {w : World} {b : Nat} {x y z : Value} (h : Vf w b x y z) : w.cell? ⟨b, 0, none⟩ = some x := by rw [cell_of_row w b 0 _ _ _ h]; rfl
theorem Vf.c1 {w : World} {b : Nat} {x y z : Value} (h : Vf w b x y z) : w.cell? ⟨b, 1, none⟩ = some y := by rw [cell_of_row w b 1 _ _ _ h]; rfl
theorem Vf.c2 {w : World} {b : Nat} {x y z : Value} (h : Vf w b x y z) : w.cell? ⟨b, 2, none⟩ = some z := by rw [cell_of_row w b 2 _ _ _ h]; rfl
set_option maxRecDepth 20000 in
set_option maxHeartbeats 400000 in
theorem rfault_any (w : World) (s : ByteArray) (E p : Nat) (hs : s.size ≤ 65536) (hp : p ≤ s.size) :
    Calls Tryd.prog 37 #[.int .i64 (E : Int), .string s, .int .i64 (p : Int)] w fun e w' => e = .returned (.agg #[.int .i64 (E : Int), .int .i64 (lnn s p : Nat), .int .i64 (cln s p : Nat)]) ∧ Below w.heap.size w w' := by
  have HC : Hid (∀ w' : World, Calls Tryd.prog 48 #[.string s, .int .i64 (p : Int)] w' fun e w'' => e = .returned (.tuple #[.int .i64 (lnn s p : Nat), .int .i64 (cln s p : Nat)]) ∧ w' = w'') := fun w' => rwhere_any w' s p p (by omega) (by omega) (by omega) (by show _ = _; simp; omega)
  obtain ⟨a, HA⟩ : ∃ a, Hid (lnn s p = a) := ⟨_, rfl⟩
  obtain ⟨b, HB⟩ : ∃ b, Hid (cln s p = b) := ⟨_, rfl⟩
  have ha : a ≤ 70000 := by rw [← HA.out]; have := (lnn_le s p).2; omega
  have hb : b ≤ 70000 := by rw [← HB.out]; have := (cln_le s p).2; omega
  rw [HA.out, HB.out] at HC
  rw [HA.out, HB.out]
  go_enter Tryd.func37, Tryd.ntmps37
  go_wp2_with (go_at_call 48; refine (HC.out _).mono ?_; rintro e w' ⟨rfl, rfl⟩)
  exact bodyPost_ret (v := .agg #[.int .i64 (E : Int), .int .i64 (a : Int), .int .i64 (b : Int)]) (by simp [results, Tryd.results37, go_sem]) rfl ⟨rfl, jlow _ _⟩
set_option maxRecDepth 20000 in
set_option maxHeartbeats 1000000 in
theorem rend_any (w : World) (s : ByteArray) (lt : Bool) (p e : Nat) (hs : s.size ≤ 65536) (HE : Hid (Ends s lt p e)) :
    Calls Tryd.prog 34 #[.string s, .int .i64 (p : Int), .bool lt] w fun r w' => r = .returned (.int .i64 (e : Int)) ∧ w = w' := by
  have hle := HE.out.le
  have hfit := HE.out.fits
  go_enter Tryd.func34, Tryd.ntmps34
  go_wp2
  go_loop [1] (fun vi => ∃ k : Nat, p ≤ k ∧ k ≤ e ∧ vi = .int .i64 (k : Int)) (fun vi => e - (intOf vi).toNat)
  case atStart => exact ⟨p, by omega, hle, rfl⟩
  case round =>
    obtain ⟨k, hpk, hke, rfl⟩ := hrel
    by_cases hks : k < s.size
    · obtain ⟨c, HC⟩ : ∃ c, Hid (tb s k = c) := ⟨_, rfl⟩
      have hc : s[k].toNat = c := by rw [← HC.out]; exact tb_at hks
      have h8 : c < 256 := by rw [← HC.out]; exact tb_lt s k
      have HA : Hid (k < e → (isD c || lt && isL c) = true) := fun h => by rw [← HC.out]; exact HE.out.all k hpk h
      have HB : Hid (k = e → (isD c || lt && isL c) = false) := fun h => by subst h; rw [← HC.out]; exact HE.out.stop hks
      have HD : Hid (∀ w' : World, Calls Tryd.prog 38 #[.int .u8 (c : Int)] w' fun r w'' => r = .returned (.bool (isD c)) ∧ w' = w'') := fun w' => rdigit_any w' c h8
      have HL : Hid (∀ w' : World, Calls Tryd.prog 33 #[.int .u8 (c : Int)] w' fun r w'' => r = .returned (.bool (isL c)) ∧ w' = w'') := fun w' => rletter_any w' c h8
      obtain ⟨d, Hd⟩ : ∃ d, Hid (isD c = d) := ⟨_, rfl⟩
      obtain ⟨l, Hl⟩ : ∃ l, Hid (isL c = l) := ⟨_, rfl⟩
      rw [Hd.out] at HA HB HD
      rw [Hl.out] at HA HB HL
      by_cases hlt : k < e
      · have hA := HA.out hlt
        clear HA HB
        have fin : p ≤ k + 1 ∧ k + 1 ≤ e := ⟨by omega, by omega⟩
        cases d with
        | true =>
          clear hA HL
          go_wp2_with (go_at_call 38; refine (HD.out _).mono ?_; rintro r w' ⟨rfl, rfl⟩)
          exact ⟨⟨k + 1, fin.1, fin.2, by go_num⟩, by simp [intOf]; omega⟩
        | false =>
          cases lt with
          | false => cases hA
          | true =>
            cases l with
            | false => cases hA
            | true =>
              clear hA
              go_wp2_with (first | (go_at_call 38; refine (HD.out _).mono ?_; rintro r w' ⟨rfl, rfl⟩) | (go_at_call 33; refine (HL.out _).mono ?_; rintro r w' ⟨rfl, rfl⟩))
              exact ⟨⟨k + 1, fin.1, fin.2, by go_num⟩, by simp [intOf]; omega⟩
      · obtain rfl : k = e := by omega
        have hB := HB.out rfl
        clear HA HB
        cases d with
        | true => cases hB
        | false =>
          cases lt with
          | false =>
            clear hB HL
            go_wp2_with (go_at_call 38; refine (HD.out _).mono ?_; rintro r w' ⟨rfl, rfl⟩)
            go_ret
            exact ⟨rfl, rfl⟩
          | true =>
            cases l with
            | true => cases hB
            | false =>
              clear hB
              go_wp2_with (first | (go_at_call 38; refine (HD.out _).mono ?_; rintro r w' ⟨rfl, rfl⟩) | (go_at_call 33; refine (HL.out _).mono ?_; rintro r w' ⟨rfl, rfl⟩))
              go_ret
              exact ⟨rfl, rfl⟩
    · obtain rfl : k = e := by omega
      go_wp2
      go_ret
      exact ⟨rfl, rfl⟩
theorem tb_extract {s : ByteArray} {p e j : Nat} (hj : p + j < e) (he : e ≤ s.size) : tb (s.extract p e) j = tb s (p + j) := by
  have h1 : j < (s.extract p e).size := by simp; omega
  have h2 : p + j < s.size := by omega
  rw [← tb_at h1, ← tb_at h2]
  congr 1
  exact ByteArray.getElem_extract h1
theorem size_extract {s : ByteArray} {p e : Nat} (he : e ≤ s.size) : (s.extract p e).size = e - p := by simp; omega
theorem nvl_extract {s : ByteArray} {p e : Nat} (he : e ≤ s.size) : ∀ k, p + k ≤ e → nvl (s.extract p e) 0 k = nvl s p k := by
  intro k
  induction k with
  | zero => intro _; rfl
  | succ k ih =>
    intro h
    show 10 * nvl _ 0 k + (tb _ (0 + k) - 48) = 10 * nvl s p k + (tb s (p + k) - 48)
    rw [ih (by omega), Nat.zero_add, tb_extract (by omega) he]
theorem NumOk.extract {s : ByteArray} {p e : Nat} (he : e ≤ s.size) (hp : p < e) : NumOk (s.extract p e) 0 (e - p) ↔ NumOk s p e := by
  unfold NumOk
  rw [nvl_extract he _ (by omega), tb_extract (j := 0) (by omega) he]
  simp
theorem nvl_succ (s : ByteArray) (p k : Nat) : nvl s p (k + 1) = 10 * nvl s p k + (tb s (p + k) - 48) := rfl
set_option maxRecDepth 20000 in
set_option maxHeartbeats 1000000 in
theorem rnumber_any (w : World) (x : ByteArray) (n : Nat) (r : Int) (hn : x.size = n) (h0 : 1 ≤ n) (hs : n ≤ 65536) (HD : Hid (∀ j, j < n → isD (tb x j) = true)) (HR : Hid ((NumOk x 0 n ∧ r = (nvl x 0 n : Nat)) ∨ (¬ NumOk x 0 n ∧ r = -1))) :
    Calls Tryd.prog 39 #[.string x] w fun e w' => e = .returned (.int .i64 r) ∧ w = w' := by
  go_enter Tryd.func39, Tryd.ntmps39
  go_wp2
  go_loop [3, 4] (fun vn vi => ∃ i z : Nat, i ≤ n ∧ z ≤ 2147483647 ∧ vi = .int .i64 (i : Int) ∧ vn = .int .i64 (z : Int) ∧ Hid (nvl x 0 i = z)) (fun _ vi => n - (intOf vi).toNat)
  case atStart => exact ⟨0, 0, by omega, by omega, rfl, rfl, rfl⟩
  case round =>
    obtain ⟨i, z, hi, hz, rfl, rfl, HZ⟩ := hrel
    by_cases hlt : i < n
    · have hix : i < x.size := by omega
      obtain ⟨c, HC⟩ : ∃ c, Hid (tb x i = c) := ⟨_, rfl⟩
      have hc : x[i].toNat = c := by rw [← HC.out]; exact tb_at hix
      obtain ⟨hc1, hc2⟩ : 48 ≤ c ∧ c ≤ 57 := by rw [← HC.out]; exact isD_iff.1 (HD.out i hlt)
      obtain ⟨d, Hd⟩ : ∃ d, Hid (c - 48 = d) := ⟨_, rfl⟩
      have ed : (c : Int) - 48 = (d : Int) := by have := Hd.out; omega
      have hd : d ≤ 9 := by have := Hd.out; omega
      obtain ⟨u, HU⟩ : ∃ u, Hid (10 * z + d = u) := ⟨_, rfl⟩
      have eu : 10 * (z : Int) + (d : Int) = (u : Int) := by have := HU.out; omega
      have hu : u ≤ 30000000000 := by have := HU.out; omega
      have HV : Hid (nvl x 0 (i + 1) = u) := by show _ = _; rw [nvl_succ, HZ.out, Nat.zero_add, HC.out, Hd.out]; exact HU.out
      by_cases hbig : 2147483647 < u
      · obtain rfl : r = -1 := by
          rcases HR.out with ⟨⟨_, h1⟩, _⟩ | ⟨_, h⟩
          · have := nvl_mono x 0 (i + 1) (n - (i + 1))
            rw [show i + 1 + (n - (i + 1)) = n by omega, HV.out] at this
            rw [Nat.sub_zero] at h1
            omega
          · exact h
        go_wp2
        go_ret
        exact ⟨rfl, rfl⟩
      · go_wp2
        exact ⟨⟨i + 1, u, by omega, by omega, by go_num, by go_num, HV⟩, by simp [intOf]; omega⟩
    · obtain rfl : i = n := by omega
      have h0x : 0 < x.size := by omega
      obtain ⟨c, HC⟩ : ∃ c, Hid (tb x 0 = c) := ⟨_, rfl⟩
      have hc : x[0].toNat = c := by rw [← HC.out]; exact tb_at h0x
      have hc8 : c < 256 := by rw [← HC.out]; exact tb_lt x 0
      have HR2 : Hid ((c = 48 ∧ 1 < i → r = -1) ∧ (¬ (c = 48 ∧ 1 < i) → r = (z : Int))) := by
        rcases HR.out with ⟨⟨h1, h2⟩, h3⟩ | ⟨h1, h3⟩
        · rw [HC.out, Nat.sub_zero] at h1
          rw [HZ.out] at h3
          exact ⟨fun h => absurd h h1, fun _ => h3⟩
        · refine ⟨fun _ => h3, fun h => absurd ⟨?_, ?_⟩ h1⟩
          · rw [HC.out, Nat.sub_zero]; exact h
          · rw [Nat.sub_zero, HZ.out]; exact hz
      clear HR
      by_cases h48 : c = 48
      · subst h48
        by_cases h1 : 1 < i
        · obtain rfl : r = -1 := HR2.out.1 ⟨rfl, h1⟩
          have q : decide (1 < i) = true := decide_eq_true h1
          go_wp2
          go_ret
          exact ⟨rfl, rfl⟩
        · obtain rfl : r = (z : Int) := HR2.out.2 (fun h => h1 h.2)
          have q : decide (1 < i) = false := decide_eq_false h1
          have q' : ¬ 1 < i := h1
          go_wp2
          go_ret
          exact ⟨rfl, rfl⟩
      · obtain rfl : r = (z : Int) := HR2.out.2 (fun h => h48 h.1)
        have q : ((c : Int) == 48) = false := by simp; omega
        go_wp2
        go_ret
        exact ⟨rfl, rfl⟩
end Go.Proofs.YtipjejkjoiifdaaDoor
