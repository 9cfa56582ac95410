/-
  Contracts of the token's reference: Join.
-/
import Derived.Test.YtipjejkjoiifdaaDoorAp
import Derived.Lib.ItoaLen
namespace Go.Proofs.YtipjejkjoiifdaaDoor
open Go.RowKit
/-- How many bytes k tokens take, each with a blank behind it. -/
def jz (K : Nat → TV) : Nat → Nat
  | 0 => 0
  | k + 1 => jz K k + ((frm (K k)).size + 1)
/-- k tokens' texts, with a blank between each two. -/
def jn (K : Nat → TV) : Nat → ByteArray
  | 0 => ⟨#[]⟩
  | k + 1 => (if k = 0 then ⟨#[]⟩ else jn K k ++ ⟨#[32]⟩) ++ frm (K k)
theorem jz_succ (K : Nat → TV) (k : Nat) : jz K (k + 1) = jz K k + ((frm (K k)).size + 1) := rfl
theorem jn_succ (K : Nat → TV) (k : Nat) : jn K (k + 1) = (if k = 0 then ⟨#[]⟩ else jn K k ++ ⟨#[32]⟩) ++ frm (K k) := rfl
theorem jz_le (K : Nat → TV) : ∀ k, k ≤ jz K k := by
  intro k
  induction k with
  | zero => exact Nat.le_refl _
  | succ k ih => rw [jz_succ]; omega
theorem jz_mono (K : Nat → TV) (k : Nat) : ∀ d, jz K k ≤ jz K (k + d) := by
  intro d
  induction d with
  | zero => exact Nat.le_refl _
  | succ d ih => rw [← Nat.add_assoc, jz_succ]; omega
theorem word_size : ∀ x ∈ wds, x.size ≤ 9 := by decide
theorem may_size {v : TV} (h : mayB v = true) (hok : TvOk v) : (frm v).size ≤ 21 := by
  unfold frm
  split
  · show (Lib.itoa v.n).toArray.size ≤ 21
    rw [List.size_toArray]
    exact Lib.itoa_length_le v.n hok.n1 hok.n2
  · unfold mayB at h
    split at h
    · simp only [Bool.and_eq_true] at h
      have := (isN_iff.1 h.2).most
      omega
    · split at h
      · simp only [Bool.and_eq_true] at h
        have := word_size _ (isW_iff.1 h.2)
        omega
      · split at h
        · simp only [Bool.and_eq_true, decide_eq_true_eq] at h
          omega
        · cases h
theorem jz_bound {K : Nat → TV} {n : Nat} (hok : ∀ i, i < n → TvOk (K i)) : ∀ k, k ≤ n → (∀ i, i < k → mayB (K i) = true) → jz K k ≤ 22 * k := by
  intro k
  induction k with
  | zero => intro _ _; exact Nat.le_refl _
  | succ k ih =>
    intro hk h
    have h1 := ih (by omega) (fun i hi => h i (by omega))
    have h2 := may_size (h k (by omega)) (hok k (by omega))
    rw [jz_succ]
    omega
theorem jn_size (K : Nat → TV) : ∀ k, (jn K k).size ≤ jz K k := by
  intro k
  induction k with
  | zero => exact Nat.le_refl _
  | succ k ih =>
    rw [jn_succ, jz_succ, ByteArray.size_append]
    split
    · show 0 + _ ≤ _; omega
    · rw [ByteArray.size_append]; show _ + 1 + _ ≤ _; omega
/-- What Join answers. -/
def JoinA (K : Nat → TV) (n : Nat) (S : ByteArray) (E : Nat) : Prop :=
  (E = 2 ∧ S = ⟨#[]⟩ ∧ ∃ i, i < n ∧ mayB (K i) = false) ∨ (E = 4 ∧ S = ⟨#[]⟩ ∧ (∀ i, i < n → mayB (K i) = true) ∧ 65537 < jz K n) ∨ (E = 0 ∧ (∀ i, i < n → mayB (K i) = true) ∧ jz K n ≤ 65537 ∧ S = jn K n)
theorem join_ex (K : Nat → TV) (n : Nat) : ∃ S E, JoinA K n S E := by
  by_cases h : ∃ i, i < n ∧ mayB (K i) = false
  · exact ⟨_, 2, .inl ⟨rfl, rfl, h⟩⟩
  · have h1 : ∀ i, i < n → mayB (K i) = true := fun i hi => by
      cases hc : mayB (K i) with
      | true => rfl
      | false => exact absurd ⟨i, hi, hc⟩ h
    by_cases h2 : 65537 < jz K n
    · exact ⟨_, 4, .inr (.inl ⟨rfl, rfl, h1, h2⟩)⟩
    · exact ⟨_, 0, .inr (.inr ⟨rfl, h1, by omega, rfl⟩)⟩
/-- A list of tokens in memory. -/
structure Toks (w : World) (x : Option Addr) (n : Nat) (K : Nat → TV) : Prop where
  at_ : ∀ i, i < n → TvAt w x i (K i)
  ok : ∀ i, i < n → TvOk (K i)
theorem Toks.later {w w' : World} {x : Option Addr} {n : Nat} {K : Nat → TV} (h : Toks w x n K) (hb : Below w.heap.size w w') : Toks w' x n K := ⟨fun i hi => (h.at_ i hi).later hb, h.ok⟩
/-- A token's cells in later worlds, in letters. -/
theorem Toks.cells {w : World} {x : Option Addr} {n : Nat} {K : Nat → TV} (h : Toks w x n K) {i : Nat} (hi : i < n) : ∃ (b o k : Nat) (tx : ByteArray) (nn ll cc : Int), x = some ⟨b, o, none⟩ ∧ K i = ⟨k, tx, nn, ll, cc⟩ ∧ TvOk ⟨k, tx, nn, ll, cc⟩ ∧
    ∀ w' : World, Below w.heap.size w w' → w'.cell? ⟨b, o + i * 5, none⟩ = some (.int .u8 (k : Int)) ∧ w'.cell? ⟨b, o + i * 5 + 1, none⟩ = some (.string tx) ∧ w'.cell? ⟨b, o + i * 5 + 2, none⟩ = some (.int .i64 nn) ∧ w'.cell? ⟨b, o + i * 5 + 3, none⟩ = some (.int .i64 ll) ∧ w'.cell? ⟨b, o + i * 5 + 4, none⟩ = some (.int .i64 cc) := by
  obtain ⟨b, o, e, _⟩ := h.at_ i hi
  refine ⟨b, o, (K i).k, (K i).tx, (K i).n, (K i).ln, (K i).cl, e, rfl, h.ok i hi, fun w' hb => ?_⟩
  obtain ⟨b', o', e', c⟩ := (h.at_ i hi).later hb
  rw [e] at e'
  cases e'
  exact c
set_option maxRecDepth 20000 in
set_option maxHeartbeats 4000000 in
theorem rjoin_any (w : World) (x : Option Addr) (n c E : Nat) (K : Nat → TV) (S : ByteArray) (hx : Toks w x n K) (hn : n ≤ 2932031007402) (ht : Tab9 w) (h : JoinA K n S E) :
    Calls Tryd.prog 17 #[.slice x n c] w fun e w' => e = .returned (.tuple #[.string S, .int .i64 (E : Int)]) ∧ Below w.heap.size w w' := by
  have HX := jhid9 hx
  have HT := jhid9 ht
  have HA := jhid9 h
  clear hx ht h
  go_enter Tryd.func17, Tryd.ntmps17
  go_wp2
  go_loopw [4, 5] (fun vs vi wr => ∃ i z : Nat, i ≤ n ∧ z ≤ 22 * i ∧ vi = .int .i64 (i : Int) ∧ vs = .int .i64 (z : Int) ∧ Hid (jz K i = z) ∧ Hid (∀ j, j < i → mayB (K j) = true) ∧ Below w.heap.size w wr) (fun _ vi _ => n - (intOf vi).toNat)
  case atStart => exact ⟨0, 0, by omega, by omega, rfl, rfl, rfl, fun j hj => by omega, Below.refl _ _⟩
  case round =>
    obtain ⟨i, z, hi, hz, rfl, rfl, HZ, HM, hb⟩ := hrel
    have HB := jhid9 hb
    by_cases hlt : i < n
    · obtain ⟨b, o, k, tx, nn, ll, cc, rfl, hK, hok, hcl⟩ := HX.out.cells hlt
      have HK := jhid9 hK
      have HCl := jhid9 hcl
      obtain ⟨c0, c1, c2, c3, c4⟩ := hcl _ hb
      have hn1 : -9223372036854775808 ≤ nn := hok.n1
      have hn2 : nn ≤ 9223372036854775807 := hok.n2
      have HOk := jhid9 hok
      have p0 : (0 : Int) ≤ (i : Int) := by omega
      have p1 : (i : Int) < (n : Int) := by omega
      have HF : Hid (∀ w' : World, Below w.heap.size w w' → Calls Tryd.prog 44 #[.agg #[.int .u8 (k : Int), .string tx, .int .i64 nn, .int .i64 ll, .int .i64 cc]] w' fun e w'' => e = .returned (.string (frm (K i))) ∧ Below w'.heap.size w' w'') := fun w' hb => by rw [HK.out]; exact rform_any w' k tx nn ll cc hn1 hn2 (HT.out.later hb)
      have HMy : Hid (∀ w' : World, Calls Tryd.prog 15 #[.agg #[.int .u8 (k : Int), .string tx, .int .i64 nn, .int .i64 ll, .int .i64 cc]] w' fun e w'' => e = .returned (.bool (mayB (K i))) ∧ Below w'.heap.size w' w'') := fun w' => by rw [HK.out]; exact rmay_any w' k tx nn ll cc HOk.out
      clear hK hok hcl hb
      cases hm : mayB (K i) with
      | false =>
        have HMf := jhid9 hm
        obtain ⟨rfl, rfl⟩ : E = 2 ∧ S = ⟨#[]⟩ := by
          rcases HA.out with ⟨h1, h2, _⟩ | ⟨_, _, h, _⟩ | ⟨_, h, _⟩
          · exact ⟨h1, h2⟩
          · rw [h i hlt] at hm; cases hm
          · rw [h i hlt] at hm; cases hm
        clear hm
        go_wp2_with (go_at_call 15; refine (HMy.out _).mono ?_; rintro r w2 ⟨rfl, hb2⟩; rw [HMf.out]; have HB2 := jhid9 (jtwo HB.out hb2); clear hb2)
        go_ret2
        exact ⟨rfl, HB2.out⟩
      | true =>
        have HMt := jhid9 hm
        obtain ⟨F, HFr⟩ : ∃ F, Hid (frm (K i) = F) := ⟨_, rfl⟩
        have hFs : F.size ≤ 21 := by rw [← HFr.out]; exact may_size hm (by rw [HK.out]; exact HOk.out)
        rw [HFr.out] at HF
        obtain ⟨u, HU⟩ : ∃ u, Hid (z + (F.size + 1) = u) := ⟨_, rfl⟩
        have eu : (z : Int) + ((F.size : Int) + 1) = (u : Int) := by have := HU.out; omega
        have hu : u ≤ 22 * (i + 1) := by have := HU.out; omega
        have HZ2 : Hid (jz K (i + 1) = u) := by show _ = _; rw [jz_succ, HZ.out, HFr.out]; exact HU.out
        have HM2 : Hid (∀ j, j < i + 1 → mayB (K j) = true) := fun j hj => by
          by_cases e : j = i
          · rw [e]; exact HMt.out
          · exact HM.out j (by omega)
        clear hm
        go_wp2_with (first
          | (go_at_call 15; refine (HMy.out _).mono ?_; rintro r w2 ⟨rfl, hb2⟩; rw [HMt.out]; have HB2 := jhid9 (jtwo HB.out hb2); obtain ⟨d0, d1, d2, d3, d4⟩ := HCl.out _ HB2.out; clear hb2)
          | (go_at_call 44; refine (HF.out _ HB2.out).mono ?_; rintro r w3 ⟨rfl, hb3⟩; have HB3 := jhid9 (jtwo HB2.out hb3); clear hb3))
        exact ⟨⟨i + 1, u, by omega, hu, by go_num, by go_num, HZ2, HM2, HB3.out⟩, by simp [intOf]; omega⟩
    · obtain rfl : i = n := by omega
      by_cases hbig : 65537 < z
      · obtain ⟨rfl, rfl⟩ : E = 4 ∧ S = ⟨#[]⟩ := by
          rcases HA.out with ⟨_, _, j, hj, h⟩ | ⟨h1, h2, _⟩ | ⟨_, _, h, _⟩
          · rw [HM.out j hj] at h; cases h
          · exact ⟨h1, h2⟩
          · rw [HZ.out] at h; omega
        have q : decide (65536 < (z : Int) - 1) = true := decide_eq_true (by omega)
        go_wp2
        go_ret2
        exact ⟨rfl, HB.out⟩
      · obtain ⟨rfl, hS⟩ : E = 0 ∧ S = jn K i := by
          rcases HA.out with ⟨_, _, j, hj, h⟩ | ⟨_, _, _, h⟩ | ⟨h1, _, _, h2⟩
          · rw [HM.out j hj] at h; cases h
          · rw [HZ.out] at h; omega
          · exact ⟨h1, h2⟩
        have HS := jhid9 hS
        have q : decide (65536 < (z : Int) - 1) = false := decide_eq_false (by omega)
        have hi65 : i ≤ 65537 := by have := jz_le K i; rw [HZ.out] at this; omega
        clear hS
        go_wp2
        go_loopw [6, 7] (fun vs vj wr => ∃ (j : Nat) (s : ByteArray), j ≤ i ∧ vj = .int .i64 (j : Int) ∧ vs = .string s ∧ Hid (jn K j = s) ∧ Below w.heap.size w wr) (fun _ vj _ => i - (intOf vj).toNat)
        case atStart => exact ⟨0, ⟨#[]⟩, by omega, rfl, rfl, rfl, HB.out⟩
        case round =>
          clear HB hb
          obtain ⟨j, s, hj, rfl, rfl, HJ, hb⟩ := hrel
          have HB := jhid9 hb
          by_cases hlt2 : j < i
          · obtain ⟨b, o, k, tx, nn, ll, cc, rfl, hK, hok, hcl⟩ := HX.out.cells hlt2
            have HK := jhid9 hK
            obtain ⟨c0, c1, c2, c3, c4⟩ := hcl _ hb
            have hn1 : -9223372036854775808 ≤ nn := hok.n1
            have hn2 : nn ≤ 9223372036854775807 := hok.n2
            have p0 : (0 : Int) ≤ (j : Int) := by omega
            have p1 : (j : Int) < (i : Int) := by omega
            have HF : Hid (∀ w' : World, Below w.heap.size w w' → Calls Tryd.prog 44 #[.agg #[.int .u8 (k : Int), .string tx, .int .i64 nn, .int .i64 ll, .int .i64 cc]] w' fun e w'' => e = .returned (.string (frm (K j))) ∧ Below w'.heap.size w' w'') := fun w' hb => by rw [HK.out]; exact rform_any w' k tx nn ll cc hn1 hn2 (HT.out.later hb)
            obtain ⟨F, HFr⟩ : ∃ F, Hid (frm (K j) = F) := ⟨_, rfl⟩
            rw [HFr.out] at HF
            have hFs : F.size ≤ 21 := by rw [← HFr.out]; exact may_size (HM.out j hlt2) (by rw [HK.out]; exact hok)
            have hss : s.size ≤ 65537 := by
              have h1 := jn_size K j
              have h2 := jz_mono K j (i - j)
              rw [show j + (i - j) = i by omega, HZ.out] at h2
              rw [HJ.out] at h1
              omega
            have g1 : ¬ 9223372036854775807 < F.size := by omega
            have g2 : ¬ 9223372036854775807 < s.size + 1 := by omega
            have g3 : ¬ 9223372036854775807 < s.size + 1 + F.size := by omega
            clear hK hok hcl hb
            by_cases hj0 : j = 0
            · subst hj0
              obtain rfl : s = ⟨#[]⟩ := HJ.out.symm
              have HJ2 : Hid (jn K (0 + 1) = ⟨#[]⟩ ++ F) := by show _ = _; rw [jn_succ, if_pos rfl, HFr.out]
              rw [Nat.zero_mul, Nat.add_zero] at c0 c1 c2 c3 c4
              go_wp2_with (go_at_call 44; refine (HF.out _ HB.out).mono ?_; rintro r w3 ⟨rfl, hb3⟩; have HB3 := jhid9 (jtwo HB.out hb3); clear hb3)
              exact ⟨⟨0 + 1, _, by omega, by go_num, rfl, HJ2, HB3.out⟩, by simp [intOf]; omega⟩
            · have HJ2 : Hid (jn K (j + 1) = s ++ ⟨#[32]⟩ ++ F) := by show _ = _; rw [jn_succ, if_neg hj0, HJ.out, HFr.out]
              go_wp2_with (go_at_call 44; refine (HF.out _ HB.out).mono ?_; rintro r w3 ⟨rfl, hb3⟩; have HB3 := jhid9 (jtwo HB.out hb3); clear hb3)
              exact ⟨⟨j + 1, _, by omega, by go_num, rfl, HJ2, HB3.out⟩, by simp [intOf]; omega⟩
          · obtain rfl : j = i := by omega
            go_wp2
            go_ret2
            exact ⟨by rw [HS.out, HJ.out]; rfl, HB.out⟩
end Go.Proofs.YtipjejkjoiifdaaDoor
