/-
  Stage 10: an expression is told by its text. No Go in sight.
-/
import Derived.Test.YtdimkfcanegahaaDoorCb
import Derived.Lib.ItoaMem
namespace Go.Proofs.YtdimkfcanegahaaDoor
open Go.RowKit
/-- The number that digits tell. -/
def vdl (l : List UInt8) : Nat := l.foldl (fun a b => 10 * a + (b.toNat - 48)) 0
theorem ddg : ∀ u, (∀ b ∈ Lib.decDigits u, 48 ≤ b.toNat ∧ b.toNat ≤ 57) ∧ Lib.decDigits u ≠ [] ∧ vdl (Lib.decDigits u) = u := by
  intro u
  induction u using Nat.strongRecOn with
  | _ u ih =>
    by_cases h : u < 10
    · have e : Lib.decDigits u = [UInt8.ofNat (48 + u)] := by rw [Lib.decDigits, dif_pos h]
      have ht : (UInt8.ofNat (48 + u)).toNat = 48 + u := by simp; omega
      rw [e]
      refine ⟨fun b hb => ?_, by simp, ?_⟩
      · obtain rfl : b = UInt8.ofNat (48 + u) := by simpa using hb
        rw [ht]
        omega
      · show 10 * 0 + ((UInt8.ofNat (48 + u)).toNat - 48) = u
        rw [ht]
        omega
    · have e : Lib.decDigits u = Lib.decDigits (u / 10) ++ [UInt8.ofNat (48 + u % 10)] := by rw [Lib.decDigits, dif_neg h]
      have ht : (UInt8.ofNat (48 + u % 10)).toNat = 48 + u % 10 := by simp; omega
      obtain ⟨h1, h2, h3⟩ := ih (u / 10) (by omega)
      rw [e]
      refine ⟨fun b hb => ?_, by simp, ?_⟩
      · rcases List.mem_append.1 hb with hb | hb
        · exact h1 b hb
        · obtain rfl : b = UInt8.ofNat (48 + u % 10) := by simpa using hb
          rw [ht]
          omega
      · unfold vdl at *
        rw [List.foldl_append, h3]
        show 10 * (u / 10) + ((UInt8.ofNat (48 + u % 10)).toNat - 48) = u
        rw [ht]
        omega
/-- What follows a text: nothing, or a blank. -/
def Stp (r : List UInt8) : Prop := r = [] ∨ ∃ r', r = 32 :: r'
/-- Texts without a blank end where they end. -/
theorem stp_one : ∀ (A B r s : List UInt8), (∀ b ∈ A, b ≠ 32) → (∀ b ∈ B, b ≠ 32) → Stp r → Stp s → A ++ r = B ++ s → A = B ∧ r = s := by
  intro A
  induction A with
  | nil =>
    intro B r s _ hB hr hs e
    cases B with
    | nil => exact ⟨rfl, e⟩
    | cons b B =>
      rcases hr with rfl | ⟨r', rfl⟩
      · cases e
      · injection e with e1 e2
        exact absurd e1.symm (hB b (by simp))
  | cons a A ih =>
    intro B r s hA hB hr hs e
    cases B with
    | nil =>
      rcases hs with rfl | ⟨s', rfl⟩
      · cases e
      · injection e with e1 e2
        exact absurd e1 (hA a (by simp))
    | cons b B =>
      injection e with e1 e2
      obtain ⟨h1, h2⟩ := ih B r s (fun x hx => hA x (by simp [hx])) (fun x hx => hB x (by simp [hx])) hr hs e2
      exact ⟨by rw [e1, h1], h2⟩
/-- The bytes of an expression's text. -/
def xby (d : Nat) (T : Xt) : List UInt8 := (xtext d T).data.toList
theorem app_by (a b : ByteArray) : (a ++ b).data.toList = a.data.toList ++ b.data.toList := by simp
/-- The same but for places, d deep. -/
def xlk : Nat → Xt → Xt → Prop
  | 0, _, _ => True
  | d + 1, T, U => (T []).k = (U []).k ∧ (T []).n = (U []).n ∧ (T []).nm = (U []).nm ∧ (T []).len = (U []).len ∧ ∀ i, i < (T []).len → xlk d (kid T i) (kid U i)
/-- By which way an expression's text goes. -/
theorem xby_ways {d : Nat} {T : Xt} (h : MX (d + 1) T) :
    (∃ u : Nat, (T []).k = 1 ∧ (T []).n = (u : Int) ∧ (T []).nm = ⟨#[]⟩ ∧ (T []).len = 0 ∧ xby (d + 1) T = Lib.decDigits u) ∨
    ((T []).k = 2 ∧ (T []).n = 0 ∧ NameP (T []).nm ∧ (T []).len = 0 ∧ xby (d + 1) T = (T []).nm.data.toList) ∨
    ((T []).k = 3 ∧ (T []).n = 0 ∧ (T []).nm = ⟨#[]⟩ ∧ (T []).len = 1 ∧ xby (d + 1) T = 45 :: 32 :: xby d (kid T 0)) ∨
    (∃ o : UInt8, 4 ≤ (T []).k ∧ (T []).k ≤ 8 ∧ (T []).n = 0 ∧ (T []).nm = ⟨#[]⟩ ∧ (T []).len = 2 ∧ (opb (T []).k).data.toList = [o] ∧ xby (d + 1) T = 40 :: 32 :: (xby d (kid T 0) ++ 32 :: o :: 32 :: (xby d (kid T 1) ++ [32, 41]))) := by
  obtain ⟨left, _, h⟩ := h
  obtain ⟨m, hw, _⟩ := xleft_parts h
  have hl := (xwant_len hw).1
  have nil_of : ∀ {x : ByteArray}, x.size = 0 → x = ⟨#[]⟩ := fun {x} h => by
    obtain ⟨⟨l⟩⟩ := x
    cases l with
    | nil => rfl
    | cons a l => simp [ByteArray.size] at h
  rcases xwant_cases hw with ⟨k1, rfl, n1, n2, hz⟩ | ⟨k2, rfl, n0, hN⟩ | ⟨k3, rfl, n0, hz⟩ | ⟨k4, k8, rfl, n0, hz⟩
  · obtain ⟨u, hu⟩ : ∃ u : Nat, (T []).n = (u : Int) := ⟨(T []).n.toNat, by omega⟩
    refine .inl ⟨u, k1, hu, nil_of hz, hl, ?_⟩
    unfold xby
    rw [xtext_succ, if_pos k1, hu, Lib.itoa_nonneg]
  · refine .inr (.inl ⟨k2, n0, isN_iff.1 hN, hl, ?_⟩)
    unfold xby
    rw [xtext_succ, if_neg (by omega), if_pos k2]
  · refine .inr (.inr (.inl ⟨k3, n0, nil_of hz, hl, ?_⟩))
    unfold xby
    rw [xtext_succ, if_neg (by omega), if_neg (by omega), if_pos k3, app_by]
    rfl
  · have ho : ∃ o : UInt8, (opb (T []).k).data.toList = [o] := by
      unfold opb
      repeat' split
      all_goals exact ⟨_, rfl⟩
    obtain ⟨o, ho⟩ := ho
    refine .inr (.inr (.inr ⟨o, k4, k8, n0, nil_of hz, hl, ho, ?_⟩))
    unfold xby
    rw [xtext_succ, if_neg (by omega), if_neg (by omega), if_neg (by omega)]
    simp only [app_by, ho]
    simp
theorem opb_one {j k : Nat} (hj : 4 ≤ j ∧ j ≤ 8) (hk : 4 ≤ k ∧ k ≤ 8) (h : (opb j).data.toList = (opb k).data.toList) : j = k := by
  have : ∀ j, j < 9 → ∀ k, k < 9 → 4 ≤ j → 4 ≤ k → (opb j).data.toList = (opb k).data.toList → j = k := by decide
  exact this j (by omega) k (by omega) hj.1 hk.1 h
theorem name_by {x : ByteArray} (h : NameP x) : (∀ b ∈ x.data.toList, b ≠ 32) ∧ ∃ b r, x.data.toList = b :: r ∧ 97 ≤ b.toNat ∧ b.toNat ≤ 122 := by
  have hb : ∀ i (hi : i < x.data.toList.length), (x.data.toList[i]).toNat = tb x i := fun i hi => by
    rw [Array.length_toList] at hi
    have := tb_at (s := x) (i := i) hi
    rw [← this]
    rfl
  constructor
  · intro b hm e
    obtain ⟨i, hi, rfl⟩ := List.getElem_of_mem hm
    have h1 := hb i hi
    rw [e] at h1
    have hi' : i < x.size := by rw [Array.length_toList] at hi; exact hi
    have h2 := h.all i hi'
    rw [← h1] at h2
    revert h2
    decide
  · have hp := h.pos
    cases hl : x.data.toList with
    | nil =>
      have : x.data.toList.length = 0 := by rw [hl]; rfl
      rw [Array.length_toList] at this
      have e : x.size = x.data.size := rfl
      omega
    | cons b r =>
      refine ⟨b, r, rfl, ?_⟩
      have h1 := hb 0 (by rw [hl]; simp)
      have h2 := isL_iff.1 h.first
      simp only [hl, List.getElem_cons_zero] at h1
      rw [← h1] at h2
      exact h2
theorem by_eq {x y : ByteArray} (h : x.data.toList = y.data.toList) : x = y := by
  obtain ⟨⟨l⟩⟩ := x
  obtain ⟨⟨m⟩⟩ := y
  have h : l = m := h
  rw [h]
/-- An expression is told by its text, and where it ends. -/
theorem xby_one : ∀ (d : Nat) (T U : Xt) (r s : List UInt8), MX d T → MX d U → Stp r → Stp s → xby d T ++ r = xby d U ++ s → xlk d T U ∧ r = s := by
  intro d
  induction d with
  | zero => intro T U r s h; obtain ⟨left, _, h⟩ := h; rw [xleft_zero] at h; omega
  | succ d ih =>
    intro T U r s hT hU hr hs e
    have digs : ∀ u : Nat, (∀ b ∈ Lib.decDigits u, b ≠ 32) ∧ ∃ b t, Lib.decDigits u = b :: t ∧ 48 ≤ b.toNat ∧ b.toNat ≤ 57 := fun u => by
      obtain ⟨h1, h2, _⟩ := ddg u
      refine ⟨fun b hb e => ?_, ?_⟩
      · have := h1 b hb
        rw [e] at this
        revert this
        decide
      · cases hd : Lib.decDigits u with
        | nil => exact absurd hd h2
        | cons b t => exact ⟨b, t, rfl, h1 b (by rw [hd]; simp)⟩
    rcases xby_ways hT with ⟨u, k1, n1, m1, l1, e1⟩ | ⟨k1, n1, m1, l1, e1⟩ | ⟨k1, n1, m1, l1, e1⟩ | ⟨o, k1, k1', n1, m1, l1, o1, e1⟩ <;>
      rcases xby_ways hU with ⟨v, k2, n2, m2, l2, e2⟩ | ⟨k2, n2, m2, l2, e2⟩ | ⟨k2, n2, m2, l2, e2⟩ | ⟨q, k2, k2', n2, m2, l2, o2, e2⟩ <;>
      rw [e1, e2] at e
    · obtain ⟨h1, h2⟩ := stp_one _ _ _ _ (digs u).1 (digs v).1 hr hs e
      have huv : u = v := by have := congrArg vdl h1; rw [(ddg u).2.2, (ddg v).2.2] at this; exact this
      exact ⟨⟨by omega, by omega, by rw [m1, m2], by omega, fun i hi => by omega⟩, h2⟩
    · obtain ⟨b, t, hb, g1, g2⟩ := (digs u).2
      obtain ⟨c, t', hc, g3, g4⟩ := (name_by m2).2
      rw [hb, hc] at e
      injection e with e3 e4
      rw [e3] at g2
      omega
    · obtain ⟨b, t, hb, g1, g2⟩ := (digs u).2
      rw [hb] at e
      injection e with e3 e4
      rw [e3] at g1
      exact absurd g1 (by decide)
    · obtain ⟨b, t, hb, g1, g2⟩ := (digs u).2
      rw [hb] at e
      injection e with e3 e4
      rw [e3] at g1
      exact absurd g1 (by decide)
    · obtain ⟨b, t, hb, g1, g2⟩ := (digs v).2
      obtain ⟨c, t', hc, g3, g4⟩ := (name_by m1).2
      rw [hb, hc] at e
      injection e with e3 e4
      rw [e3] at g3
      omega
    · obtain ⟨h1, h2⟩ := stp_one _ _ _ _ (name_by m1).1 (name_by m2).1 hr hs e
      exact ⟨⟨by omega, by omega, by_eq h1, by omega, fun i hi => by omega⟩, h2⟩
    · obtain ⟨c, t', hc, g3, g4⟩ := (name_by m1).2
      rw [hc] at e
      injection e with e3 e4
      rw [e3] at g3
      exact absurd g3 (by decide)
    · obtain ⟨c, t', hc, g3, g4⟩ := (name_by m1).2
      rw [hc] at e
      injection e with e3 e4
      rw [e3] at g3
      exact absurd g3 (by decide)
    · obtain ⟨b, t, hb, g1, g2⟩ := (digs v).2
      rw [hb] at e
      injection e with e3 e4
      rw [← e3] at g1
      exact absurd g1 (by decide)
    · obtain ⟨c, t', hc, g3, g4⟩ := (name_by m2).2
      rw [hc] at e
      injection e with e3 e4
      rw [← e3] at g3
      exact absurd g3 (by decide)
    · injection e with e3 e4
      injection e4 with e5 e6
      obtain ⟨h1, h2⟩ := ih _ _ _ _ (hT.kid (by omega)) (hU.kid (by omega)) hr hs e6
      refine ⟨⟨by omega, by omega, by rw [m1, m2], by omega, fun i hi => ?_⟩, h2⟩
      obtain rfl : i = 0 := by omega
      exact h1
    · injection e with e3 e4
      exact absurd e3 (by decide)
    · obtain ⟨b, t, hb, g1, g2⟩ := (digs v).2
      rw [hb] at e
      injection e with e3 e4
      rw [← e3] at g1
      exact absurd g1 (by decide)
    · obtain ⟨c, t', hc, g3, g4⟩ := (name_by m2).2
      rw [hc] at e
      injection e with e3 e4
      rw [← e3] at g3
      exact absurd g3 (by decide)
    · injection e with e3 e4
      exact absurd e3 (by decide)
    · injection e with e3 e4
      injection e4 with e5 e6
      replace e6 : (xby d (kid T 0) ++ 32 :: o :: 32 :: (xby d (kid T 1) ++ [32, 41])) ++ r = (xby d (kid U 0) ++ 32 :: q :: 32 :: (xby d (kid U 1) ++ [32, 41])) ++ s := e6
      rw [List.append_assoc, List.append_assoc] at e6
      obtain ⟨h1, h2⟩ := ih _ _ _ _ (hT.kid (by omega)) (hU.kid (by omega)) (.inr ⟨_, rfl⟩) (.inr ⟨_, rfl⟩) e6
      injection h2 with h3 h4
      injection h4 with h5 h6
      injection h6 with h7 h8
      replace h8 : (xby d (kid T 1) ++ [32, 41]) ++ r = (xby d (kid U 1) ++ [32, 41]) ++ s := h8
      rw [List.append_assoc, List.append_assoc] at h8
      obtain ⟨g1, g2⟩ := ih _ _ _ _ (hT.kid (by omega)) (hU.kid (by omega)) (.inr ⟨_, rfl⟩) (.inr ⟨_, rfl⟩) h8
      have g6 : r = s := List.append_cancel_left (show [32, 41] ++ r = [32, 41] ++ s from g2)
      have hk := opb_one ⟨k1, k1'⟩ ⟨k2, k2'⟩ (by rw [o1, o2, h5])
      refine ⟨⟨hk, by omega, by rw [m1, m2], by omega, fun i hi => ?_⟩, g6⟩
      rcases (by omega : i = 0 ∨ i = 1) with rfl | rfl
      · exact h1
      · exact g1
/-- Two expressions have one text just if they are the same. -/
theorem xtext_one {d : Nat} {T U : Xt} (hT : MX d T) (hU : MX d U) (h : xtext d T = xtext d U) : xlk d T U :=
  (xby_one d T U [] [] hT hU (.inl rfl) (.inl rfl) (by unfold xby; rw [h])).1
end Go.Proofs.YtdimkfcanegahaaDoor
