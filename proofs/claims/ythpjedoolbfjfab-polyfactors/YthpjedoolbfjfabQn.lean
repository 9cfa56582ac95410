/-
  What the statements without the document's answer need: values, divisions, factors.
-/
import Derived.Test.YthpjedoolbfjfabQl
import Derived.Test.YthpjedoolbfjfabQm
namespace Go.Proofs.Ythpjedoolbfjfab
open Go.RowKit
theorem padd_all (w : World) (a b : Option Addr) (n m c d : Nat) (f h : Nat → Nat) (ha : Lk w a n c f) (hb : Lk w b m d h) :
    Calls Try.prog 8 #[.slice a n c, .slice b m d] w fun e w' => ∃ s T k r, e = .returned (.tuple #[.slice s T k, .int .i64 r]) ∧ Below w.heap.size w w' := by
  by_cases h1 : 512 < tlen f n ∨ 512 < tlen h m
  · exact (padd_long w a b n m c d _ _ f h ha hb rfl rfl h1).mono fun _ _ ⟨e, b⟩ => ⟨none, 0, 0, 4, e, b⟩
  · exact (padd_any w a b n m c d _ _ _ f h ha hb rfl rfl (by omega) (by omega) rfl).mono fun _ _ ⟨s, k, e, _, b⟩ => ⟨s, _, k, 0, e, b⟩
theorem pmul_all (w : World) (a b : Option Addr) (n m c d : Nat) (f h : Nat → Nat) (ha : Lk w a n c f) (hb : Lk w b m d h) :
    Calls Try.prog 9 #[.slice a n c, .slice b m d] w fun e w' => ∃ s T k r, e = .returned (.tuple #[.slice s T k, .int .i64 r]) ∧ Below w.heap.size w w' := by
  by_cases h1 : 512 < tlen f n ∨ 512 < tlen h m ∨ (0 < tlen f n ∧ 0 < tlen h m ∧ 513 < tlen f n + tlen h m)
  · exact (pmul_bad w a b n m c d _ _ f h ha hb rfl rfl h1).mono fun _ _ ⟨e, b⟩ => ⟨none, 0, 0, 4, e, b⟩
  · exact (pmul_any w a b n m c d _ _ _ f h ha hb rfl rfl (by omega) (by omega) (by omega) rfl).mono fun _ _ ⟨s, k, e, _, b⟩ => ⟨s, _, k, 0, e, b⟩
theorem ev_zx (f : Nat → Nat) (n N x : Nat) (h : n ≤ N) : ev (zx f n) N x = ev f n x := by
  rw [ev_ext (zx_above f n) h x]
  exact ev_congr (fun i hi => if_pos hi) x
theorem ev_sum {f h : Nat → Nat} {n m S x u v : Nat} (hf : ∀ i, i < n → f i < 256) (hh : ∀ i, i < m → h i < 256) (hn : n ≤ 512) (hm : m ≤ 512) (HS : tlen (pa (zx f n) (zx h m)) 512 = S) (hu : ev f n x = u) (hv : ev h m x = v) : ev (pa (zx f n) (zx h m)) S x = u ^^^ v := by
  rw [← HS, ev_tlen, ev_pa (zx_el hf) (zx_el hh), ev_zx f n 512 x hn, ev_zx h m 512 x hm, hu, hv]
theorem ev_prod {f h : Nat → Nat} {n m t1 t2 T x u v : Nat} (hf : ∀ i, i < n → f i < 256) (hh : ∀ i, i < m → h i < 256) (H1 : tlen f n = t1) (H2 : tlen h m = t2) (HT : tlen (pm (zx f n) (zx h m)) (t1 + t2) = T) (hu : ev f n x = u) (hv : ev h m x = v) : ev (pm (zx f n) (zx h m)) T x = fm u v := by
  have a1 : Above t1 (zx f n) := fun i hi => by rw [← zx_tlen, H1]; exact if_neg (by omega)
  have a2 : Above t2 (zx h m) := fun i hi => by rw [← zx_tlen, H2]; exact if_neg (by omega)
  rw [← HT, ev_tlen, ev_pm (zx_el hf) (zx_el hh) a1 a2, ← hu, ← hv]
  congr 1
  · rw [← ev_tlen f n, H1]; exact ev_congr (fun i hi => if_pos (by have := tlen_le f n; omega)) x
  · rw [← ev_tlen h m, H2]; exact ev_congr (fun i hi => if_pos (by have := tlen_le h m; omega)) x
/-- Quotient times divisor is not too long. -/
theorem quo_fits {P q Q R : Nat → Nat} {u r nq t1 : Nat} (ok : DivOk P q Q R (u + 1) r) (top : tlen Q nq = nq) (ab : Above nq Q) (hq : El q) (aq : Above (u + 1) q) (q0 : q u ≠ 0) (aP : Above t1 P) : nq = 0 ∨ nq + u ≤ t1 := by
  by_cases h0 : nq = 0
  · exact .inl h0
  · right
    by_cases h : nq + u ≤ t1
    · exact h
    · exfalso
      have e := ok.eq (nq - 1 + u)
      rw [aP _ (by omega)] at e
      have e2 : pa (pm Q q) (zx R r) (nq - 1 + u) = fm (Q (nq - 1)) (q u) := by
        show pm Q q (nq - 1 + u) ^^^ zx R r (nq - 1 + u) = _
        rw [pm_top (by rw [show nq - 1 + 1 = nq by omega]; exact ab) aq, show zx R r (nq - 1 + u) = 0 from if_neg (by have := ok.less; omega), Nat.xor_zero]
      rw [e2] at e
      rcases (fm_eq_zero _ _ (ok.el _) (hq u)).1 e.symm with h' | h'
      · exact top_len top (by omega) h'
      · exact q0 h'
/-- Quotient times divisor and the remainder is what was divided. -/
theorem back_sum {P q Q R : Nat → Nat} {u r nq T : Nat} {h : Nat → Nat} {m : Nat} (ok : DivOk P (zx h m) Q R (u + 1) r) (ab : Above nq Q) (hT : tlen (pm (zx Q nq) (zx h m)) (nq + (u + 1)) = T) (a2 : Above (u + 1) (zx h m)) (_hq : q = q) (i : Nat) : pa (zx (pm (zx Q nq) (zx h m)) T) (zx R r) i = P i := by
  have e : ∀ i, pm (zx Q nq) (zx h m) i = pm Q (zx h m) i := fun i => pm_congr (fun i => zx_self ab i) (fun _ => rfl) i
  have abv : Above (nq + (u + 1)) (pm (zx Q nq) (zx h m)) := Above.pm (zx_above Q nq) a2
  rw [ok.eq i]
  show zx (pm (zx Q nq) (zx h m)) T i ^^^ _ = pm Q (zx h m) i ^^^ _
  rw [← hT, zx_tlen, zx_self abv, e]
/-- Nothing remains just if it divides. -/
theorem rem_zero {P q Q R : Nat → Nat} {u r : Nat} (ok : DivOk P q Q R (u + 1) r) (hq : El q) (aq : Above (u + 1) q) (q0 : q u ≠ 0) (hd : Dv q P) : r = 0 := by
  obtain ⟨c, ⟨ec, N, aN⟩, hc⟩ := hd
  have a1 : Above u (zx R r) := (zx_above R r).mono (by have := ok.less; omega)
  have D := div_unique (N := 512 + N) ok.el ec hq (ok.above.mono (by omega)) (aN.mono (by omega)) aq q0 a1 (d := fun _ => 0) (fun _ _ => rfl) (fun i => by
    rw [← ok.eq i, hc i]
    show _ = pm c q i ^^^ 0
    rw [Nat.xor_zero, pm_comm hq ec])
  by_cases h0 : r = 0
  · exact h0
  · exfalso
    have := D.2 (r - 1)
    unfold zx at this
    rw [if_pos (by omega)] at this
    exact top_len ok.trimmed (by omega) this
end Go.Proofs.Ythpjedoolbfjfab
