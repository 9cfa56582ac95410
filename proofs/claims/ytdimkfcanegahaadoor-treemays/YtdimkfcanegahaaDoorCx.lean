/-
  Contracts of the tree's reference: NoExprHere, row.
-/
import Derived.Test.YtdimkfcanegahaaDoorCf
import Derived.Test.YtdimkfcanegahaaDoorGc
namespace Go.Proofs.YtdimkfcanegahaaDoor
open Go.RowKit
set_option maxRecDepth 20000 in
set_option maxHeartbeats 4000000 in
theorem rnox_any (w : World) (T : Xt) (v : Value) (hX : XV w v T) : Calls Tryd.prog 58 #[v] w fun e w' => e = .returned (.bool (zxB (T []))) ∧ Below w.heap.size w w' := by
  obtain ⟨⟨a, cap, rfl, _⟩, hok⟩ := hX
  generalize T [] = l at *
  obtain ⟨k, n, nm, len, ln, cl⟩ := l
  have e0 := tl_nilc (x := nm)
  have hv := Vn.new w 28 #[.int .u8 (k : Int), .int .i64 n, .string nm, .slice a len cap, .int .i64 ln, .int .i64 cl]
  have c0 := hv.cell 0 _ rfl
  have c1 := hv.cell 1 _ rfl
  have c2 := hv.cell 2 _ rfl
  have c3 := hv.cell 3 _ rfl
  have c4 := hv.cell 4 _ rfl
  have c5 := hv.cell 5 _ rfl
  have HZ : Hid (zxB ⟨k, n, nm, len, ln, cl⟩ = (decide (k = 0) && (decide (n = 0) && (decide (nm.size = 0) && (decide (len = 0) && (decide (ln = 0) && decide (cl = 0))))))) := rfl
  rw [HZ.out]
  clear hv hok HZ
  by_cases h1 : k = 0
  · subst h1
    by_cases h2 : n = 0
    · subst h2
      by_cases h3 : nm.size = 0
      · rw [decide_eq_true h3] at e0 ⊢
        by_cases h4 : len = 0
        · subst h4
          by_cases h5 : ln = 0
          · subst h5
            by_cases h6 : cl = 0
            · subst h6
              go_enter Tryd.func58, Tryd.ntmps58
              go_wp2
              go_ret
              exact ⟨rfl, jlow _ _⟩
            · rw [decide_eq_false h6]
              have q : (cl == 0) = false := by simpa using h6
              go_enter Tryd.func58, Tryd.ntmps58
              go_wp2
              go_ret
              exact ⟨rfl, jlow _ _⟩
          · rw [decide_eq_false h5]
            have q : (ln == 0) = false := by simpa using h5
            go_enter Tryd.func58, Tryd.ntmps58
            go_wp2
            go_ret
            exact ⟨rfl, jlow _ _⟩
        · rw [decide_eq_false h4]
          have q : ((len : Int) == 0) = false := by simp; omega
          go_enter Tryd.func58, Tryd.ntmps58
          go_wp2
          go_ret
          exact ⟨rfl, jlow _ _⟩
      · rw [decide_eq_false h3] at e0 ⊢
        go_enter Tryd.func58, Tryd.ntmps58
        go_wp2
        go_ret
        exact ⟨rfl, jlow _ _⟩
    · rw [decide_eq_false h2]
      have q : (n == 0) = false := by simpa using h2
      go_enter Tryd.func58, Tryd.ntmps58
      go_wp2
      go_ret
      exact ⟨rfl, jlow _ _⟩
  · rw [decide_eq_false h1]
    have q : ((k : Int) == 0) = false := by simp; omega
    go_enter Tryd.func58, Tryd.ntmps58
    go_wp2
    go_ret
    exact ⟨rfl, jlow _ _⟩
/-- The text of k expressions, a comma between two. -/
def lrow (F : Nat → Xt) : Nat → ByteArray
  | 0 => ⟨#[]⟩
  | k + 1 => (if k = 0 then ⟨#[]⟩ else lrow F k ++ ⟨#[32, 44, 32]⟩) ++ xtext 16 (F k)
theorem lrow_succ (F : Nat → Xt) (k : Nat) : lrow F (k + 1) = (if k = 0 then ⟨#[]⟩ else lrow F k ++ ⟨#[32, 44, 32]⟩) ++ xtext 16 (F k) := rfl
theorem lrow_size (F : Nat → Xt) : ∀ k, (∀ i, i < k → MX 16 (F i)) → (lrow F k).size ≤ 172035 * k := by
  intro k
  induction k with
  | zero => intro _; exact Nat.le_refl _
  | succ k ih =>
    intro h
    have h1 := ih (fun i hi => h i (by omega))
    have h2 := (h k (by omega)).size
    rw [lrow_succ, ByteArray.size_append]
    split
    · show 0 + _ ≤ _; omega
    · rw [ByteArray.size_append]; show _ + 3 + _ ≤ _; omega
theorem lrow_rtr (F : Nat → Xt) : ∀ n, (lrow F n).data.toList = rtr 16 F n 0 := by
  intro n
  induction n with
  | zero => rfl
  | succ n ih =>
    rw [lrow_succ, rtr_snoc, app_by, Nat.zero_add]
    by_cases h : n = 0
    · rw [if_pos h, if_pos h]
      rfl
    · rw [if_neg h, if_neg h, app_by, ih]
      rfl
set_option maxRecDepth 20000 in
set_option maxHeartbeats 2000000 in
theorem rrow_any (w : World) (a : Option Addr) (n c : Nat) (F : Nat → Xt) (hX : ∀ d, XL d w a n F) (hn : n ≤ 64) (hM : ∀ i, i < n → MX 16 (F i)) (ht : Tab9 w) :
    Calls Tryd.prog 68 #[.slice a n c] w fun e w' => e = .returned (.string (lrow F n)) ∧ Below w.heap.size w w' := by
  have HX := jhid9 hX
  have HM := jhid9 hM
  have HT := jhid9 ht
  clear hX hM ht
  go_enter Tryd.func68, Tryd.ntmps68
  go_wp2
  go_loopw [3, 4] (fun vs vi wr => ∃ (i : Nat) (x : ByteArray), i ≤ n ∧ vi = .int .i64 (i : Int) ∧ vs = .string x ∧ Hid (lrow F i = x) ∧ Below w.heap.size w wr) (fun _ vi _ => n - (intOf vi).toNat)
  case atStart => exact ⟨0, ⟨#[]⟩, by omega, rfl, rfl, rfl, Below.refl _ _⟩
  case round =>
    obtain ⟨i, x, hi, rfl, rfl, Hx, hb⟩ := hrel
    have HB := jhid9 hb
    by_cases hlt : i < n
    · have p0 : (0 : Int) ≤ (i : Int) := by omega
      have p1 : (i : Int) < (n : Int) := by omega
      obtain ⟨b, o, kk, nl, nn, ll, cc, nx, ka, kc, rfl, hkid, hcl⟩ := XL.at_ HX.out (i := i) hlt
      obtain ⟨k0, k1, k2, k3, k4, k5⟩ := hcl _ hb
      have HKid := jhid9 hkid
      obtain ⟨z, Hz⟩ : ∃ z, Hid (xtext 16 (F i) = z) := ⟨_, rfl⟩
      have hz : z.size ≤ 172032 := by rw [← Hz.out]; exact (HM.out i hlt).size
      have hxs : x.size ≤ 172035 * 64 := by rw [← Hx.out]; have := lrow_size F i (fun j hj => HM.out j (by omega)); omega
      have HC : Hid (∀ w' : World, Below w.heap.size w w' → Calls Tryd.prog 38 #[.agg #[.int .u8 (kk : Int), .int .i64 nn, .string nx, .slice ka nl kc, .int .i64 ll, .int .i64 cc]] w' fun e w'' => e = .returned (.string z) ∧ Below w'.heap.size w' w'') := fun w' hb => by rw [← Hz.out]; exact rxtext_any 16 w' (F i) _ (by omega) (HKid.out.later hb) (HM.out i hlt) (tab_later HT.out hb)
      have g1 : ¬ 9223372036854775807 < x.size + 3 := by omega
      have g2 : ¬ 9223372036854775807 < x.size + 3 + z.size := by omega
      have g3 : ¬ 9223372036854775807 < z.size := by omega
      clear hkid hcl hb
      by_cases h0 : i = 0
      · subst h0
        obtain rfl : x = ⟨#[]⟩ := Hx.out.symm
        rw [Nat.zero_mul, Nat.add_zero] at k0 k1 k2 k3 k4 k5
        have Hk : Hid (lrow F (0 + 1) = ⟨#[]⟩ ++ z) := by show _ = _; rw [lrow_succ, if_pos rfl, Hz.out]
        go_wp2_with (go_at_call 38; refine (HC.out _ HB.out).mono ?_; rintro e w2 ⟨rfl, hb2⟩; have HB2 := jhid9 (jtwo HB.out hb2); clear hb2)
        exact ⟨⟨0 + 1, _, by omega, by go_num, rfl, Hk, HB2.out⟩, by simp [intOf]; omega⟩
      · have q0 : decide ((0 : Int) < (i : Int)) = true := decide_eq_true (by omega)
        have q1 : decide (0 < i) = true := decide_eq_true (by omega)
        have Hk : Hid (lrow F (i + 1) = x ++ ⟨#[32, 44, 32]⟩ ++ z) := by show _ = _; rw [lrow_succ, if_neg h0, Hx.out, Hz.out]
        go_wp2_with (go_at_call 38; refine (HC.out _ HB.out).mono ?_; rintro e w2 ⟨rfl, hb2⟩; have HB2 := jhid9 (jtwo HB.out hb2); clear hb2)
        exact ⟨⟨i + 1, _, by omega, by go_num, rfl, Hk, HB2.out⟩, by simp [intOf]; omega⟩
    · obtain rfl : i = n := by omega
      clear hb
      go_wp2
      go_ret
      exact ⟨by rw [Hx.out]; rfl, HB.out⟩
end Go.Proofs.YtdimkfcanegahaaDoor
