/-
  What is printed, cut and read again is what was printed: P11.4 whole.
-/
import Derived.Test.YtnjcpmkfghcogaaGreatDoorQbbks00
import Derived.Test.YtnjcpmkfghcogaaGreatDoorQbbks21
set_option maxRecDepth 100000
set_option maxHeartbeats 16000000
namespace Go.Proofs.YtnjcpmkfghcogaaGreatDoor
theorem px_k : ∀ n, (∀ x L y s, px n 0 x L = .ok (y, s) → (y []).k ≠ 0) ∧ (∀ x L y s, px n 1 x L = .ok (y, s) → (y []).k ≠ 0) ∧ (∀ x L y s, (x []).k ≠ 0 → px n 2 x L = .ok (y, s) → (y []).k ≠ 0) ∧ (∀ x L y s, px n 3 x L = .ok (y, s) → (y []).k ≠ 0) ∧ (∀ x L y s, (x []).k ≠ 0 → px n 4 x L = .ok (y, s) → (y []).k ≠ 0) := by
 intro n
 induction n with
 | zero => exact ⟨fun _ _ _ _ h => (by cases h), fun _ _ _ _ h => (by cases h), fun _ _ _ _ _ h => (by cases h), fun _ _ _ _ h => (by cases h), fun _ _ _ _ _ h => (by cases h)⟩
 | succ n ih =>
  obtain ⟨i0, i1, i2, i3, i4⟩ := ih
  refine ⟨fun x L y s h => ?_, fun x L y s h => ?_, fun x L y s hx h => ?_, fun x L y s h => ?_, fun x L y s hx h => ?_⟩
  ·cases L with
   | nil => cases h
   | cons t r =>
    rw [qcw] at h
    split at h
    ·obtain ⟨a, b, h1, h2⟩ := qa3 h
     cases h2
     show (3 : Nat) ≠ 0
     omega
    ·split at h
     ·obtain ⟨a, b, h1, h2⟩ := qa3 h
      obtain ⟨u, rfl, _, rfl⟩ := qc8 h2
      exact i3 _ _ _ _ h1
     ·split at h
      ·cases h
       show (1 : Nat) ≠ 0
       omega
      ·split at h
       ·cases h
        show (2 : Nat) ≠ 0
        omega
       ·cases h
  ·rw [px1] at h
   obtain ⟨a, b, h1, h2⟩ := qa3 h
   exact i2 _ _ _ _ (i0 _ _ _ _ h1) h2
  ·cases L with
   | nil => cases h; exact hx
   | cons t r =>
    rw [qck] at h
    split at h
    ·cases h; exact hx
    ·rename_i hk
     obtain ⟨a, b, h1, h2⟩ := qa3 h
     exact i2 _ _ _ _ hk h2
  ·rw [px3] at h
   obtain ⟨a, b, h1, h2⟩ := qa3 h
   exact i4 _ _ _ _ (i1 _ _ _ _ h1) h2
  ·cases L with
   | nil => cases h; exact hx
   | cons t r =>
    rw [qcl] at h
    split at h
    ·cases h; exact hx
    ·rename_i hk
     obtain ⟨a, b, h1, h2⟩ := qa3 h
     exact i4 _ _ _ _ hk h2
theorem pX_k {L : List TV} {y : Xt} {s : List TV} (h : pX L = .ok (y, s)) : (y []).k ≠ 0 := (px_k _).2.2.2.1 _ _ _ _ h
theorem psh_k {n : Nat} {L : List TV} {y : St} {s : List TV} (h : psh n L = .ok (y, s)) : (y []).k ≠ 0 := by
 cases n with
 | zero => cases h
 | succ n =>
  cases L with
  | nil => cases h
  | cons t r =>
   rw [qcy] at h
   split at h
   ·cases h
    show (1 : Nat) ≠ 0
    omega
   ·split at h
    ·rename_i hk
     obtain ⟨l, q, h1, h2⟩ := qa3 h
     cases h2
     show kshape t ≠ 0
     omega
    ·split at h
     ·rename_i hk
      obtain ⟨l, q, h1, h2⟩ := qa3 h
      cases h2
      show kshape t ≠ 0
      omega
     ·split at h
      ·rename_i hk
       obtain ⟨l, q, h1, h2⟩ := qa3 h
       cases h2
       show kshape t ≠ 0
       omega
      ·split at h
       ·obtain ⟨_, q, h1, h2⟩ := qa3 h
        obtain ⟨l, q2, h3, h4⟩ := qa3 h2
        obtain ⟨l3, q3, h5, h6⟩ := qa3 h4
        cases h6
        show (8 : Nat) ≠ 0
        omega
       ·cases h
theorem qd8 {k : Nat} {nm : ByteArray} {v : Xt} {s : St} {pl : Nat} {l : List Xt} {t : TV} (hv : v = l0x ∨ (v []).k ≠ 0) (hs : s = l0s ∨ (s []).k ≠ 0) : NoPl (yI k nm v s pl l t) := by
 refine ⟨fun h0 => ?_, fun h0 => ?_⟩
 ·rcases hv with rfl | h
  ·rfl
  ·exact absurd h0 h
 ·rcases hs with rfl | h
  ·rfl
  ·exact absurd h0 h
theorem qia {t : TV} {r : List TV} {J : It} {s : List TV} (h : pbody t r = .ok (J, s)) : NoPl J := by
 unfold pbody at h
 split at h
 ·obtain ⟨nm, q, h1, h2⟩ := qa3 h
  obtain ⟨nm2, q2, h3, h4⟩ := qa3 h2
  obtain ⟨y, q3, h5, h6⟩ := qa3 h4
  cases h6
  exact qd8 (.inr (pX_k h5)) (.inl rfl)
 ·split at h
  ·obtain ⟨nm, q, h1, h2⟩ := qa3 h
   obtain ⟨nm2, q2, h3, h4⟩ := qa3 h2
   obtain ⟨y, q3, h5, h6⟩ := qa3 h4
   cases h6
   exact qd8 (.inl rfl) (.inr (psh_k h5))
  ·split at h
   ·obtain ⟨nm, q, h1, h2⟩ := qa3 h
    cases h2
    exact qd8 (.inl rfl) (.inl rfl)
   ·split at h
    ·cases r with
     | nil => cases h
     | cons u q =>
      rw [qb6] at h
      split at h
      ·cases h
       exact qd8 (.inl rfl) (.inl rfl)
      ·split at h
       ·obtain ⟨y, q3, h5, h6⟩ := qa3 h
        cases h6
        exact qd8 (.inr (pX_k h5)) (.inl rfl)
       ·split at h
        ·obtain ⟨_, q2, h1, h2⟩ := qa3 h
         obtain ⟨l, q3, h3, h4⟩ := qa3 h2
         obtain ⟨l2, q4, h5, h6⟩ := qa3 h4
         cases h6
         exact qd8 (.inl rfl) (.inl rfl)
        ·cases h
    ·split at h
     ·obtain ⟨y, q3, h5, h6⟩ := qa3 h
      cases h6
      exact qd8 (.inr (pX_k h5)) (.inl rfl)
     ·cases h
theorem pit_nopl {L : List TV} {J : It} {s : List TV} (h : pit L = .ok (J, s)) : NoPl J := by
 cases L with
 | nil => cases h
 | cons t r =>
  rw [qbz] at h
  obtain ⟨I, q, h1, h2⟩ := qa3 h
  obtain ⟨u, rfl, _, rfl⟩ := qc8 h2
  exact qia h1
theorem qjt {r : Rd It} {f : List TV → Except (List TV) (List It)} {l : List It} (h : thl r f = .ok l) : ∃ I s l', r = .ok (I, s) ∧ f s = .ok l' ∧ l = I :: l' := by
 match r, h with
 | .error _, h => cases h
 | .ok (I, s), h =>
  have h : (match f s with | .error e => Except.error e | .ok l => Except.ok (I :: l)) = .ok l := h
  cases hf : f s with
  | error e => rw [hf] at h; cases h
  | ok l' =>
   rw [hf] at h
   cases h
   exact ⟨I, s, l', rfl, hf, rfl⟩
theorem qg2 : ∀ n L l, pits n L = .ok l → ∀ J ∈ l, NoPl J := by
 intro n
 induction n with
 | zero => intro L l h; cases h
 | succ n ih =>
  intro L l h J hJ
  cases L with
  | nil => cases h; cases hJ
  | cons t r =>
   rw [qcc] at h
   obtain ⟨I, s, l', h1, h2, rfl⟩ := qjt h
   rcases List.mem_cons.1 hJ with rfl | hJ
   ·exact pit_nopl h1
   ·exact ih _ _ h2 J hJ
def tks (s : ByteArray) (L : List Tk) : List TV := L.map (tvo s)
end Go.Proofs.YtnjcpmkfghcogaaGreatDoor
