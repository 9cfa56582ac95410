/-
  Chunks' forms, one behind the other.
-/
import Derived.Test.YtlfmekjkgegclabHt
namespace Go.Proofs.Ytlfmekjkgegclab
open Go.RowKit
/-- Bytes that begin with a chunk's form. -/
theorem chunk_at {tag n L m : Nat} {f g : Nat → Nat} (hn : n ≤ 4194304) (hL : NF n L) (hm : 1 + (L + n) + 4 ≤ m) (h : ∀ j, j < 1 + (L + n) + 4 → f j = chf tag g n L j) : RdOk f m n L ∧ f 0 = tag ∧ ∀ j, j < n → f (1 + (L + j)) = g j := by
  have hL1 := hL.1
  have hp : ∀ j, j < 1 + (L + n) → f j = chp tag g n L j := fun j hj => by
    rw [h j (by omega)]
    unfold chf
    rw [cat_low hj]
  refine ⟨⟨hL.read (by omega) (fun j hj => ?_) (by omega), hn, by omega, fun j hj => ?_⟩, ?_, fun j hj => ?_⟩
  · show f (1 + j) = nby n j
    rw [hp _ (by omega)]
    unfold chp
    rw [cat_add]
    unfold txf
    rw [cat_low hj]
  · rw [cs_congr hp, h _ (by omega)]
    unfold chf
    rw [cat_add]
  · rw [hp 0 (by omega)]
    unfold chp
    rw [cat_low (by omega)]
  · rw [hp _ (by omega)]
    unfold chp
    rw [cat_add]
    unfold txf
    rw [cat_add]
/-- Where the chunks' forms begin. -/
def psf (ln L : Nat → Nat) : Nat → Nat
  | 0 => 0
  | i + 1 => psf ln L i + (1 + (L i + ln i) + 4)
/-- The forms of the first i chunks. -/
def bsf (tag ln L : Nat → Nat) (F : Nat → Nat → Nat) : Nat → Nat → Nat
  | 0, _ => 0
  | i + 1, q => cat (bsf tag ln L F i) (chf (tag i) (F i) (ln i) (L i)) (psf ln L i) q
theorem psf_le {ln L : Nat → Nat} : ∀ {i k}, i ≤ k → psf ln L i ≤ psf ln L k := by
  intro i k h
  induction k with
  | zero => rw [show i = 0 from Nat.le_zero.1 h]; exact Nat.le_refl _
  | succ k ih =>
    by_cases e : i = k + 1
    · rw [e]; exact Nat.le_refl _
    · have := ih (by omega)
      show psf ln L i ≤ psf ln L k + _
      omega
theorem psf_big {ln L : Nat → Nat} {K : Nat} (h1 : ∀ i, i < K → ln i ≤ 1048576) (h2 : ∀ i, i < K → L i ≤ 9) : ∀ i, i ≤ K → psf ln L i ≤ i * 1048590 := by
  intro i
  induction i with
  | zero => intro _; exact Nat.le_refl _
  | succ i ih =>
    intro hi
    have h3 := ih (by omega)
    have h4 := h1 i (by omega)
    have h5 := h2 i (by omega)
    show psf ln L i + (1 + (L i + ln i) + 4) ≤ _
    omega
theorem bsf_at {tag ln L : Nat → Nat} {F : Nat → Nat → Nat} : ∀ {K i}, i < K → ∀ j, j < 1 + (L i + ln i) + 4 → bsf tag ln L F K (psf ln L i + j) = chf (tag i) (F i) (ln i) (L i) j := by
  intro K
  induction K with
  | zero => intro i hi; omega
  | succ K ih =>
    intro i hi j hj
    show cat (bsf tag ln L F K) _ (psf ln L K) _ = _
    by_cases e : i = K
    · subst e
      rw [cat_add]
    · have h1 : psf ln L (i + 1) ≤ psf ln L K := psf_le (by omega)
      have h2 : psf ln L (i + 1) = psf ln L i + (1 + (L i + ln i) + 4) := rfl
      rw [cat_low (by omega)]
      exact ih (by omega) j hj
theorem bsf_lt {tag ln L : Nat → Nat} {F : Nat → Nat → Nat} {K : Nat} (ht : ∀ i, i < K → tag i < 256) (hF : ∀ i, i < K → ∀ j, j < ln i → F i j < 256) : ∀ i, i ≤ K → ∀ q, q < psf ln L i → bsf tag ln L F i q < 256 := by
  intro i
  induction i with
  | zero => intro _ q hq; exact absurd hq (Nat.not_lt_zero _)
  | succ i ih =>
    intro hi q hq
    exact cat_lt (ih (by omega)) (chf_lt (ht i (by omega)) (hF i (by omega))) q hq
/-- All of the forms. -/
theorem bsf_all {tag ln L : Nat → Nat} {F : Nat → Nat → Nat} {K : Nat} (hl : ∀ i, i < K → ln i ≤ 1048576) (hL : ∀ i, i < K → NF (ln i) (L i)) : AllA (bsf tag ln L F K) (psf ln L K) K (psf ln L) ln L 0 ∧ (∀ i, i < K → bsf tag ln L F K (psf ln L i) = tag i) ∧ ∀ i, i < K → ∀ j, j < ln i → bdf (bsf tag ln L F K) (psf ln L) L i j = F i j := by
  have key : ∀ i, i < K → RdOk (fun j => bsf tag ln L F K (psf ln L i + j)) (psf ln L K - psf ln L i) (ln i) (L i) ∧ (fun j => bsf tag ln L F K (psf ln L i + j)) 0 = tag i ∧ ∀ j, j < ln i → (fun j => bsf tag ln L F K (psf ln L i + j)) (1 + (L i + j)) = F i j := fun i hi => by
    have h1 : psf ln L (i + 1) ≤ psf ln L K := psf_le (by omega)
    have h2 : psf ln L (i + 1) = psf ln L i + (1 + (L i + ln i) + 4) := rfl
    exact chunk_at (by have := hl i hi; omega) (hL i hi) (by omega) (fun j hj => bsf_at hi j hj)
  refine ⟨⟨⟨rfl, fun i hi => ⟨(key i hi).1, rfl⟩⟩, Nat.le_refl _, .inl ⟨rfl, rfl⟩⟩, fun i hi => ?_, fun i hi j hj => ?_⟩
  · have := (key i hi).2.1
    simpa using this
  · exact (key i hi).2.2 j hj
theorem Cks.congr {w : World} {x : Option Addr} {K : Nat} {tag tag' m : Nat → Nat} {F F' : Nat → Nat → Nat} (h : Cks w x K tag m F) (e1 : ∀ i, i < K → tag i = tag' i) (e2 : ∀ i, i < K → ∀ j, j < m i → F i j = F' i j) : Cks w x K tag' m F' := ⟨fun i hi => by
  obtain ⟨b, o, s, d, e, h1, h2, h3⟩ := h.all i hi
  exact ⟨b, o, s, d, e, by rw [← e1 i hi]; exact h1, h2, h3.congr (e2 i hi)⟩⟩
theorem pick_lt {α : Type} (d : α) {n : Nat} {P : Nat → α → Prop} (h : ∀ i, i < n → ∃ x, P i x) : ∃ q : Nat → α, ∀ i, i < n → P i (q i) :=
  ⟨fun i => if hi : i < n then Classical.choose (h i hi) else d, fun i hi => by show P i (if hi : i < n then Classical.choose (h i hi) else d); rw [dif_pos hi]; exact Classical.choose_spec (h i hi)⟩
/-- A list of chunks that came in. -/
theorem cks_of (w : World) (a : Option Addr) (len cap : Nat)
    (h : (a = none ∧ len = 0 ∧ cap = 0) ∨ ∃ x, a = some x ∧ len ≤ cap ∧ cap ≤ 1048576 ∧ ∀ i, i < cap → ∃ (t : Int) (b : Option Addr) (l c : Nat) (zs : List Int), w.cell? (x.add (i * 2)) = some (.int .u8 t) ∧ (Lit.int .u8 t).wf = true ∧ w.cell? (x.add (i * 2 + 1)) = some (.slice b l c) ∧ ((b = none ∧ l = 0 ∧ c = 0 ∧ zs = []) ∨ ∃ x, b = some x ∧ l ≤ c ∧ c ≤ 1048576 ∧ zs.length = c ∧ (∀ i, i < zs.length → w.cell? (x.add i) = some (.int .u8 (zs.getD i 0))) ∧ ∀ n ∈ zs, (Lit.int .u8 n).wf = true)) :
    ∃ (tag ln : Nat → Nat) (F : Nat → Nat → Nat), Cks w a len tag ln F ∧ len ≤ 1048576 ∧ (∀ i, i < len → tag i < 256) ∧ (∀ i, i < len → ln i ≤ 1048576) ∧ ∀ i, i < len → ∀ j, j < ln i → F i j < 256 := by
  rcases h with ⟨_, rfl, _⟩ | ⟨x, rfl, hl, hc, hall⟩
  · exact ⟨fun _ => 0, fun _ => 0, fun _ _ => 0, ⟨fun i hi => by omega⟩, by omega, fun i hi => by omega, fun i hi => by omega, fun i hi => by omega⟩
  · have each : ∀ i, i < len → ∃ q : Nat × Nat × (Nat → Nat), q.1 < 256 ∧ q.2.1 ≤ 1048576 ∧ (∀ j, j < q.2.1 → q.2.2 j < 256) ∧ ∃ s d, w.cell? (x.add (i * 2)) = some (.int .u8 (q.1 : Int)) ∧ w.cell? (x.add (i * 2 + 1)) = some (.slice s q.2.1 d) ∧ Bt w s q.2.1 d q.2.2 := fun i hi => by
      obtain ⟨t, b, l, c, zs, h1, h2, h3, h4⟩ := hall i (by omega)
      obtain ⟨t', rfl, ht⟩ := u8_of_wf8 h2
      obtain ⟨f, hf, _⟩ := bt_of_row w b l c zs (h4.imp id (fun ⟨x, g1, g2, g3, g4⟩ => ⟨x, g1, g2, by omega, g4⟩))
      have hl2 : l ≤ 1048576 := by rcases h4 with ⟨_, rfl, _⟩ | ⟨x, _, g1, g2, _⟩ <;> omega
      exact ⟨(t', l, f), ht, hl2, hf.sl.1, b, c, h1, h3, hf⟩
    obtain ⟨q, hq⟩ := pick_lt (0, 0, fun _ => 0) each
    have hx : len = 0 ∨ ∃ b o, x = ⟨b, o, none⟩ := by
      by_cases h0 : len = 0
      · exact .inl h0
      · right
        obtain ⟨_, _, _, s, d, h1, _⟩ := hq 0 (by omega)
        rcases x with ⟨b, o, p⟩
        have hp : p = none := by simpa [Addr.add] using World.cell?_spot h1
        exact ⟨b, o, by rw [hp]⟩
    refine ⟨fun i => (q i).1, fun i => (q i).2.1, fun i => (q i).2.2, ⟨fun i hi => ?_⟩, by omega, fun i hi => (hq i hi).1, fun i hi => (hq i hi).2.1, fun i hi => (hq i hi).2.2.1⟩
    rcases hx with h0 | ⟨b, o, rfl⟩
    · omega
    · obtain ⟨_, _, _, s, d, h1, h2, h3⟩ := hq i hi
      have ea : ∀ k, (⟨b, o, none⟩ : Addr).add k = ⟨b, o + k, none⟩ := fun k => by unfold Addr.add; split <;> simp_all
      rw [ea] at h1 h2
      exact ⟨b, o, s, d, rfl, h1, h2, h3⟩
end Go.Proofs.Ytlfmekjkgegclab
