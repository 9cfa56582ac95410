/-
  Stage 12: what an expression with y in a name's place comes to.
-/
import Derived.Test.YtgmndjbicandfaaDoorN1s
namespace Go.Proofs.YtgmndjbicandfaaDoor
open Go.RowKit
theorem xflt_congr {R R' : Nat → Vt} {n : Nat} (h : ∀ j, j < n → R j = R' j) : xflt R n = xflt R' n := by
  induction n with
  | zero => rfl
  | succ n ih =>
    show (match xflt R n with | some r => some r | none => if (R n).c = 0 then none else some (R n)) = (match xflt R' n with | some r => some r | none => if (R' n).c = 0 then none else some (R' n))
    rw [ih (fun j hj => h j (by omega)), h n (by omega)]
theorem xprt_congr {R R' : Nat → Vt} {n : Nat} (h : ∀ j, j < n → (R j).v = (R' j).v) (j : Nat) : xprt R n j = xprt R' n j := by
  unfold xprt
  split
  · rename_i g; exact h j g
  · rfl
/-- How deep it is looked at changes nothing. -/
theorem xval_depth {E : ByteArray → Option Int} : ∀ {d d' : Nat} {T : Xt}, MX d T → d ≤ d' → xval E d T = xval E d' T := by
  intro d
  induction d with
  | zero => intro d' T h; exact h.no.elim
  | succ d ih =>
    intro d' T h hd
    obtain ⟨e, rfl⟩ : ∃ e, d' = e + 1 := ⟨d' - 1, by omega⟩
    have hR : ∀ j, j < (T []).len → xval E d (kid T j) = xval E e (kid T j) := fun j hj => ih (h.kid hj) (by omega)
    rw [xval_succ, xval_succ, xflt_congr (R := fun i => xval E d (kid T i)) (R' := fun i => xval E e (kid T i)) hR, xprt_congr (R := fun i => xval E d (kid T i)) (R' := fun i => xval E e (kid T i)) (fun j hj => by rw [hR j hj]) 0, xprt_congr (R := fun i => xval E d (kid T i)) (R' := fun i => xval E e (kid T i)) (fun j hj => by rw [hR j hj]) 1]
theorem xflt_like {R R' : Nat → Vt} {n : Nat} (h : ∀ j, j < n → (R j).c = (R' j).c) : (xflt R n = none ∧ xflt R' n = none) ∨ ∃ r r', xflt R n = some r ∧ xflt R' n = some r' ∧ r.c = r'.c := by
  induction n with
  | zero => exact .inl ⟨rfl, rfl⟩
  | succ n ih =>
    rcases ih (fun j hj => h j (by omega)) with ⟨h1, h2⟩ | ⟨r, r', h1, h2, h3⟩
    · by_cases hc : (R n).c = 0
      · exact .inl ⟨xflt_on h1 hc, xflt_on h2 (by rw [← h n (by omega)]; exact hc)⟩
      · exact .inr ⟨_, _, xflt_hit h1 hc, xflt_hit h2 (by rw [← h n (by omega)]; exact hc), h n (by omega)⟩
    · exact .inr ⟨r, r', xflt_stay h1 _ (by omega), xflt_stay h2 _ (by omega), h3⟩
/-- x with y in the name's place comes to what x comes to where the name is y's number. -/
theorem xval_put {s : ByteArray} {Y : Xt} {n : Int} {E0 E1 : ByteArray → Option Int} (h0 : ∀ x, E0 x = none) (h1 : E1 s = some n) (h2 : ∀ x, x ≠ s → E1 x = none) (hv : (xval E0 16 Y).v = n) (hc : (xval E0 16 Y).c = 0) :
    ∀ {d D : Nat} {T : Xt}, MX d T → MX D (xput s Y T) → D ≤ 16 → (xval E0 D (xput s Y T)).v = (xval E1 d T).v ∧ (xval E0 D (xput s Y T)).c = (xval E1 d T).c := by
  intro d
  induction d with
  | zero => intro D T h; exact h.no.elim
  | succ d ih =>
    intro D T hM hZ hD
    cases hh : hitX s T with
    | true =>
      rw [xput_hit hh] at hZ ⊢
      have hk : (T []).k = 2 ∧ (T []).nm = s := by
        unfold hitX at hh
        rw [Bool.and_eq_true, decide_eq_true_eq, sbq_iff] at hh
        exact hh
      rw [xval_depth hZ hD, hv, hc, xval2 hk.1 (v := n) (by rw [hk.2]; exact h1)]
      exact ⟨rfl, rfl⟩
    | false =>
      rw [xput_no hh] at hZ ⊢
      obtain ⟨e, rfl⟩ : ∃ e, D = e + 1 := by
        cases D with
        | zero => exact hZ.no.elim
        | succ e => exact ⟨e, rfl⟩
      by_cases k1 : (T []).k = 1
      · rw [xval1 (T := T) k1, xval1 (T := mkX (T []) _) k1]
        exact ⟨rfl, rfl⟩
      · by_cases k2 : (T []).k = 2
        · have hne : (T []).nm ≠ s := fun g => by
            unfold hitX at hh
            rw [decide_eq_true k2, g, sbq_self] at hh
            cases hh
          rw [xval2n (T := T) k2 (h2 _ hne), xval2n (T := mkX (T []) _) k2 (h0 _)]
          exact ⟨rfl, rfl⟩
        · have hR : ∀ j, j < (T []).len → (xval E0 e (xput s Y (kid T j))).v = (xval E1 d (kid T j)).v ∧ (xval E0 e (xput s Y (kid T j))).c = (xval E1 d (kid T j)).c := fun j hj => ih (hM.kid hj) (hZ.kid (i := j) hj) (by omega)
          have hp := fun q => xprt_congr (R := fun i => xval E0 e (xput s Y (kid T i))) (R' := fun i => xval E1 d (kid T i)) (fun j hj => (hR j hj).1) q
          rcases xflt_like (R := fun i => xval E0 e (xput s Y (kid T i))) (R' := fun i => xval E1 d (kid T i)) (fun j hj => (hR j hj).2) with ⟨g1, g2⟩ | ⟨r, r', g1, g2, g3⟩
          · rw [xval4 (T := T) k1 k2 g2, xval4 (T := mkX (T []) (fun i => xput s Y (kid T i))) k1 k2 g1]
            show (xfin (T []) (xprt (fun i => xval E0 e (xput s Y (kid T i))) (T []).len 0) (xprt (fun i => xval E0 e (xput s Y (kid T i))) (T []).len 1)).v = _ ∧ (xfin (T []) (xprt (fun i => xval E0 e (xput s Y (kid T i))) (T []).len 0) (xprt (fun i => xval E0 e (xput s Y (kid T i))) (T []).len 1)).c = _
            rw [hp 0, hp 1]
            exact ⟨rfl, rfl⟩
          · rw [xval3 (T := T) k1 k2 g2, xval3 (T := mkX (T []) (fun i => xput s Y (kid T i))) k1 k2 g1]
            exact ⟨rfl, g3⟩
theorem el_nil (w : World) (F : Nat → Cn) : EL w none 0 F := fun i hi => by omega
theorem el_one {w : World} {b : Nat} {s : ByteArray} {n : Int} (h : Vn w b 50 #[.string s, .int .i64 n]) (hs : s.size ≤ 140737488351232) (h1 : -9223372036854775808 ≤ n) (h2 : n ≤ 9223372036854775807) : EL w (some ⟨b, 0, none⟩) 1 (fun _ => ⟨s, n⟩) := fun i hi => by
  obtain rfl : i = 0 := by omega
  exact ⟨⟨hs, h1, h2⟩, b, 0, rfl, h.cell 0 _ rfl, h.cell 1 _ rfl⟩
/-- The three values of NumberPuts. -/
theorem puts_vals {X Y : Xt} {s : ByteArray} (hx : mayX X = true) (hy : mayX Y = true) (hs : isN s = true) (hz : mayX (xput s Y X) = true) (F : Nat → Cn) (hc : (evl F 0 Y).c = 0) :
    nmB (evl F 0 Y).v = true ∧ (evl F 0 (xput s Y X)).v = (evl (fun _ => ⟨s, (evl F 0 Y).v⟩) 1 X).v ∧ (evl F 0 (xput s Y X)).c = (evl (fun _ => ⟨s, (evl F 0 Y).v⟩) 1 X).c := by
  have e0 : ∀ T, mayX T = true → evl F 0 T = xval (elk F 0) 16 T := fun T hT => by
    unfold evl
    rw [if_pos (show mayE F 0 = true from rfl), if_pos hT]
  rw [e0 Y hy] at hc ⊢
  rw [e0 _ hz]
  have hn : nmB (xval (elk F 0) 16 Y).v = true := xval_num (fun x v h => by cases h) (mayX_mx hy)
  have e1 : evl (fun _ => ⟨s, (xval (elk F 0) 16 Y).v⟩) 1 X = xval (elk (fun _ => ⟨s, (xval (elk F 0) 16 Y).v⟩) 1) 16 X := by
    unfold evl
    have hm : mayE (fun _ => ⟨s, (xval (elk F 0) 16 Y).v⟩) 1 = true := by
      show (true && (isN s && nmB (xval (elk F 0) 16 Y).v && true)) = true
      rw [hs, hn]
      rfl
    rw [if_pos hm, if_pos hx]
  rw [e1]
  refine ⟨hn, xval_put (fun _ => rfl) ?_ ?_ rfl hc (mayX_mx hx) (mayX_mx hz) (Nat.le_refl _)⟩
  · show (if sbq s s then some (xval (elk F 0) 16 Y).v else none) = _
    rw [sbq_self]
    rfl
  · intro x hne
    show (if sbq s x then some (xval (elk F 0) 16 Y).v else none) = _
    rw [sbq_ne (Ne.symm hne)]
    rfl
end Go.Proofs.YtgmndjbicandfaaDoor
