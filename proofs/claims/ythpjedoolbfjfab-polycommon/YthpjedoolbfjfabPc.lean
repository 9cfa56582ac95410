/-
  Divisors of polynomials, and the greatest common one: no Go in sight.
-/
import Derived.Test.YthpjedoolbfjfabPb
namespace Go.Proofs.Ythpjedoolbfjfab

/-- A polynomial: elements, and no coefficient from some place on. -/
def Po (p : Nat → Nat) : Prop := El p ∧ ∃ n, Above n p
theorem Po.pm {p q : Nat → Nat} (hp : Po p) (hq : Po q) : Po (pm p q) := by
  obtain ⟨n, hn⟩ := hp.2
  obtain ⟨m, hm⟩ := hq.2
  exact ⟨pm_el q hp.1, _, hn.pm hm⟩
theorem Po.pa {p q : Nat → Nat} (hp : Po p) (hq : Po q) : Po (pa p q) := by
  obtain ⟨n, hn⟩ := hp.2
  obtain ⟨m, hm⟩ := hq.2
  exact ⟨pa_el hp.1 hq.1, _, (hn.mono (Nat.le_max_left n m)).pa (hm.mono (Nat.le_max_right n m))⟩
theorem Po.zero : Po (fun _ => 0) := ⟨fun _ => (by decide : 0 < 256), 0, fun _ _ => rfl⟩
/-- The number 1. -/
def uno (i : Nat) : Nat := if i = 0 then 1 else 0
theorem Po.uno : Po uno := ⟨fun i => by unfold Go.Proofs.Ythpjedoolbfjfab.uno; split <;> decide, 1, fun i hi => if_neg (by omega)⟩
theorem uno_pm {p : Nat → Nat} (hp : El p) (i : Nat) : pm uno p i = p i := by
  unfold Go.Proofs.Ythpjedoolbfjfab.pm
  rw [xs_one (k0 := 0) (by omega) (fun k _ hk => by rw [show uno k = 0 from if_neg hk, zero_fm])]
  show fm 1 (p (i - 0)) = p i
  rw [Nat.sub_zero, one_fm _ (hp i)]
theorem pm_congr {p p' q q' : Nat → Nat} (hp : ∀ i, p i = p' i) (hq : ∀ i, q i = q' i) (i : Nat) : pm p q i = pm p' q' i := xs_congr (fun k _ => by rw [hp, hq])
theorem pm_zero_r (p : Nat → Nat) (i : Nat) : pm p (fun _ => 0) i = 0 := xs_zero (fun _ _ => fm_zero _)
/-- d divides p. -/
def Dv (d p : Nat → Nat) : Prop := ∃ q, Po q ∧ ∀ i, p i = pm d q i
theorem Dv.refl {d : Nat → Nat} (hd : El d) : Dv d d := ⟨uno, Po.uno, fun i => by rw [pm_comm hd Po.uno.1, uno_pm hd]⟩
theorem Dv.zero (d : Nat → Nat) : Dv d (fun _ => 0) := ⟨_, Po.zero, fun i => (pm_zero_r d i).symm⟩
theorem Dv.congr {d d' p p' : Nat → Nat} (h : Dv d p) (hd : ∀ i, d i = d' i) (hp : ∀ i, p i = p' i) : Dv d' p' := by
  obtain ⟨q, hq, h⟩ := h
  exact ⟨q, hq, fun i => by rw [← hp i, h i]; exact pm_congr hd (fun _ => rfl) i⟩
theorem Dv.pa {d p q : Nat → Nat} (hp : Dv d p) (hq : Dv d q) : Dv d (pa p q) := by
  obtain ⟨a, ha, h1⟩ := hp
  obtain ⟨b, hb, h2⟩ := hq
  refine ⟨_, ha.pa hb, fun i => ?_⟩
  rw [pm_pa]
  show p i ^^^ q i = pm d a i ^^^ pm d b i
  rw [h1, h2]
theorem Dv.pm {d p : Nat → Nat} (hd : El d) (hp : Dv d p) {r : Nat → Nat} (hr : Po r) : Dv d (pm p r) := by
  obtain ⟨a, ha, h1⟩ := hp
  refine ⟨_, ha.pm hr, fun i => ?_⟩
  rw [← pm_assoc r hd ha.1]
  exact pm_congr h1 (fun _ => rfl) i
theorem Dv.trans {a b c : Nat → Nat} (ha : El a) (h1 : Dv a b) (h2 : Dv b c) : Dv a c := by
  obtain ⟨q, hq, h2⟩ := h2
  exact (Dv.pm ha h1 hq).congr (fun _ => rfl) (fun i => (h2 i).symm)
/-- One round of Euclid's: what divides both of p and q divides both of q and the remainder, and the other way round. -/
theorem euclid {d p q a r : Nat → Nat} (hd : El d) (hq : El q) (ha : Po a) (h : ∀ i, p i = pa (pm a q) r i) : (Dv d p ∧ Dv d q) ↔ (Dv d q ∧ Dv d r) := by
  have e : ∀ i, pm a q i = pm q a i := fun i => pm_comm ha.1 hq i
  constructor
  · rintro ⟨h1, h2⟩
    refine ⟨h2, ?_⟩
    refine (Dv.pa h1 ((Dv.pm hd h2 ha))).congr (fun _ => rfl) (fun i => ?_)
    show p i ^^^ pm q a i = r i
    rw [h i]
    show (pm a q i ^^^ r i) ^^^ pm q a i = r i
    rw [e, Nat.xor_comm (pm q a i), Nat.xor_assoc, Nat.xor_self, Nat.xor_zero]
  · rintro ⟨h1, h2⟩
    refine ⟨?_, h1⟩
    refine (Dv.pa (Dv.pm hd h1 ha) h2).congr (fun _ => rfl) (fun i => ?_)
    rw [h i]
    show pm q a i ^^^ r i = pm a q i ^^^ r i
    rw [e]
/-- Two polynomials whose highest coefficients are 1 and that divide one another are one. -/
theorem monic_same {d e : Nat → Nat} {n m : Nat} (hd : El d) (he : El e) (hn : Above (n + 1) d) (hm : Above (m + 1) e) (h1 : d n = 1) (h2 : e m = 1) (a : Dv d e) (b : Dv e d) : ∀ i, d i = e i := by
  -- a divisor is no longer
  have le : ∀ {d e : Nat → Nat} {n m : Nat}, El d → Above (n + 1) d → d n = 1 → e m = 1 → Above (m + 1) e → Dv d e → n ≤ m ∧ (n = m → ∀ i, d i = e i) := by
    intro d e n m hd hn h1 h2 hm hde
    obtain ⟨q, hq, h⟩ := hde
    obtain ⟨N, hN⟩ := hq.2
    rcases top_exists hN with hz | ⟨k, _, hk, hka⟩
    · have := h m
      rw [h2, show pm d q m = 0 from xs_zero (fun k _ => by rw [hz, fm_zero])] at this
      omega
    · have ht := pm_top hn hka
      rw [← h (n + k), h1, one_fm _ (hq.1 k)] at ht
      have hmk : n + k = m := by
        by_cases hlt : m < n + k
        · rw [hm (n + k) (by omega)] at ht
          exact absurd ht.symm hk
        · by_cases hgt : n + k < m
          · have := h m
            rw [h2, pm_above hn hka m (by omega)] at this
            omega
          · omega
      refine ⟨by omega, fun hnm => ?_⟩
      have k0 : k = 0 := by omega
      subst k0
      have q0 : q 0 = 1 := by rw [← ht, hmk, h2]
      intro i
      rw [h i, pm_comm hd hq.1]
      have hu : ∀ i, q i = uno i := fun i => by
        unfold uno
        by_cases e : i = 0
        · rw [e, if_pos rfl, q0]
        · rw [if_neg e]; exact hka i (by omega)
      rw [pm_congr hu (fun _ => rfl), uno_pm hd]
  have x := le hd hn h1 h2 hm a
  have y := le he hm h2 h1 hn b
  exact x.2 (by omega)
end Go.Proofs.Ythpjedoolbfjfab
