/-
  Contracts of the polynomials' reference: Trim, long, at, Eval.
-/
import Derived.Test.YthpjedoolbfjfabLi
import Derived.Test.YthpjedoolbfjfabPc
namespace Go.Proofs.Ythpjedoolbfjfab
open Go.RowKit
/-- The length without noughts at the end. -/
def tlen (f : Nat → Nat) : Nat → Nat
  | 0 => 0
  | n + 1 => if f n = 0 then tlen f n else n + 1
theorem tlen_le (f : Nat → Nat) (n : Nat) : tlen f n ≤ n := by
  induction n with
  | zero => simp [tlen]
  | succ n ih => simp only [tlen]; split <;> omega
theorem tlen_top (f : Nat → Nat) (n : Nat) (h : tlen f n ≠ 0) : f (tlen f n - 1) ≠ 0 := by
  induction n with
  | zero => simp [tlen] at h
  | succ n ih =>
    simp only [tlen] at *
    split
    · rename_i e; rw [if_pos e] at h; exact ih h
    · rename_i e; simpa using e
theorem tlen_zero (f : Nat → Nat) (n i : Nat) (h1 : tlen f n ≤ i) (h2 : i < n) : f i = 0 := by
  induction n with
  | zero => omega
  | succ n ih =>
    simp only [tlen] at h1
    split at h1
    · by_cases e : i = n
      · subst e; assumption
      · exact ih h1 (by omega)
    · omega
/-- A list that can be cut: its room, and what is known of nil. -/
def Lk (w : World) (a : Option Addr) (n c : Nat) (f : Nat → Nat) : Prop := Sl w a n f ∧ n ≤ c ∧ (a = none → n = 0 ∧ c = 0) ∧ n ≤ 140737488351232
theorem Lk.later {w w' : World} {a : Option Addr} {n c : Nat} {f : Nat → Nat} (h : Lk w a n c f) (hb : Below w.heap.size w w') : Lk w' a n c f := ⟨h.1.later hb, h.2⟩
theorem Lk.congr {w : World} {a : Option Addr} {n c : Nat} {f f' : Nat → Nat} (h : Lk w a n c f) (e : ∀ i, i < n → f i = f' i) : Lk w a n c f' := ⟨h.1.congr e, h.2⟩
theorem Lk.nil (w : World) (f : Nat → Nat) : Lk w none 0 0 f := ⟨Sl.nil _ _ _, Nat.le_refl _, fun _ => ⟨rfl, rfl⟩, by omega⟩
theorem own_lk {w : World} {base : Nat} {v : Value} {n : Nat} {f : Nat → Nat} (h : w.ownsRow base 5 1 v n (row n f).toList) (hf : ∀ i, i < n → f i < 256) (hn : n ≤ 140737488351232) : ∃ a c, v = .slice a n c ∧ Lk w a n c f ∧ From base a := by
  obtain ⟨a, c, e, hs, hb⟩ := own_sl h hf
  refine ⟨a, c, e, ⟨hs, ?_, ?_, hn⟩, hb⟩
  · rcases h.2 with ⟨e2, h0⟩ | ⟨g, cap, cur, e2, _, _, hc, _⟩
    · omega
    · rw [e2] at e; cases e; exact hc
  · intro ha
    subst ha
    rcases h.2 with ⟨e2, h0⟩ | ⟨g, cap, cur, e2, _⟩
    · rw [e2] at e; cases e; exact ⟨h0, rfl⟩
    · rw [e2] at e; cases e
theorem rcopy_lk (w : World) (a : Option Addr) (n c : Nat) (f : Nat → Nat) (h : Lk w a n c f) :
    Calls Try.prog 20 #[.slice a n c] w fun e w' => ∃ s k, e = .returned (.slice s n k) ∧ Lk w' s n k f ∧ Below w.heap.size w w' ∧ From w.heap.size s :=
  (rcopy_any w a n c f h.1 h.2.2.2 h.2.2.1).mono fun _ _ ⟨v, he, ho, hb⟩ => by
    obtain ⟨s, k, rfl, hs, hf⟩ := own_lk ho h.1.1 h.2.2.2
    exact ⟨s, k, he, hs, hb, hf⟩
theorem Lk.cut {w : World} {a : Option Addr} {n c m : Nat} {f : Nat → Nat} (h : Lk w a n c f) (hm : m ≤ n) : Lk w a m c f :=
  ⟨⟨fun i hi => h.1.1 i (by omega), fun i hi => h.1.2 i (by omega)⟩, by have := h.2.1; omega, fun e => by have := h.2.2.1 e; omega, by have := h.2.2.2; omega⟩
theorem rcopy_full (w : World) (a : Option Addr) (n c : Nat) (f : Nat → Nat) (h : Lk w a n c f) :
    Calls Try.prog 20 #[.slice a n c] w fun e w' => ∃ s k, e = .returned (.slice s n k) ∧ Lk w' s n k f ∧ Below w.heap.size w w' ∧ From w.heap.size s ∧ w'.ownsRow w.heap.size 5 1 (.slice s n k) n (row n f).toList :=
  (rcopy_any w a n c f h.1 h.2.2.2 h.2.2.1).mono fun _ _ ⟨v, he, ho, hb⟩ => by
    obtain ⟨s, k, rfl, hs, hf⟩ := own_lk ho h.1.1 h.2.2.2
    exact ⟨s, k, he, hs, hb, hf, ho⟩
set_option maxHeartbeats 400000 in
theorem rtrim_full (w : World) (a : Option Addr) (n c : Nat) (f : Nat → Nat) (h : Lk w a n c f) :
    Calls Try.prog 24 #[.slice a n c] w fun e w' => ∃ s k, e = .returned (.slice s (tlen f n) k) ∧ Lk w' s (tlen f n) k f ∧ Below w.heap.size w w' ∧ From w.heap.size s ∧ w'.ownsRow w.heap.size 5 1 (.slice s (tlen f n) k) (tlen f n) (row (tlen f n) f).toList := by
  have HL : Hid (Lk w a n c f) := h
  have hn := h.2.2.2
  have hnc := h.2.1
  clear h
  go_enter Try.func24, Try.ntmps24
  go_wp2
  go_loop [3] (fun i => ∃ k : Nat, k ≤ n ∧ i = .int .i64 (k : Int) ∧ Hid (tlen f n = tlen f k)) (fun i => (intOf i).toNat)
  case atStart => exact ⟨n, by omega, rfl, rfl⟩
  case round =>
    obtain ⟨k, hk, rfl, HT⟩ := hrel
    by_cases h0 : k = 0
    · subst h0
      have hd : decide ((0 : Int) < 0) = false := by decide
      have HE : Hid (tlen f n = 0) := HT.out
      have HC : Hid (Lk w a 0 c f) := HL.out.cut (by omega)
      go_wp2_with (go_at_call 20; refine (rcopy_full _ _ _ _ f HC.out).mono ?_; rintro e w1 ⟨s1, k1, rfl, hs1, hb1, hf1, ho1⟩)
      go_ret
      exact ⟨s1, k1, by rw [HE.out]; rfl, by rw [HE.out]; exact hs1, hb1, hf1, by rw [HE.out]; exact ho1⟩
    · obtain ⟨m, rfl⟩ : ∃ m, k = m + 1 := ⟨k - 1, by omega⟩
      obtain ⟨b, o, ea, hc⟩ := HL.out.1.2 m (by omega)
      subst ea
      by_cases hz : f m = 0
      · have HE : Hid (tlen f n = tlen f m) := by show _ = _; rw [HT.out]; simp [tlen, hz]
        rw [hz] at hc
        clear hz
        go_wp2
        exact ⟨⟨m, by omega, rfl, HE⟩, by simp [intOf]⟩
      · have HE : Hid (tlen f n = m + 1) := by show _ = _; rw [HT.out]; simp [tlen, hz]
        have t : ((f m : Int) == 0) = false := by simp; omega
        clear hz
        have HC : Hid (Lk w (some ⟨b, o, none⟩) (m + 1) c f) := HL.out.cut (by omega)
        go_wp2_with (go_at_call 20; refine (rcopy_full _ _ _ _ f HC.out).mono ?_; rintro e w1 ⟨s1, k1, rfl, hs1, hb1, hf1, ho1⟩)
        go_ret
        exact ⟨s1, k1, by rw [HE.out]; rfl, by rw [HE.out]; exact hs1, hb1, hf1, by rw [HE.out]; exact ho1⟩
theorem rtrim_any (w : World) (a : Option Addr) (n c : Nat) (f : Nat → Nat) (h : Lk w a n c f) :
    Calls Try.prog 24 #[.slice a n c] w fun e w' => ∃ s k, e = .returned (.slice s (tlen f n) k) ∧ Lk w' s (tlen f n) k f ∧ Below w.heap.size w w' ∧ From w.heap.size s :=
  (rtrim_full w a n c f h).mono fun _ _ ⟨s, k, he, h1, h2, h3, _⟩ => ⟨s, k, he, h1, h2, h3⟩
set_option maxHeartbeats 400000 in
theorem long_any (w : World) (a : Option Addr) (n c : Nat) (f : Nat → Nat) (h : Lk w a n c f) :
    Calls Try.prog 35 #[.slice a n c] w fun e w' => e = .returned (.bool (decide (512 < tlen f n))) ∧ Below w.heap.size w w' := by
  have HL : Hid (Lk w a n c f) := h
  clear h
  obtain ⟨t, HT⟩ : ∃ t, Hid (tlen f n = t) := ⟨_, rfl⟩
  have HR : Hid (∀ w, Lk w a n c f → Calls Try.prog 24 #[.slice a n c] w fun e w' => ∃ s k, e = .returned (.slice s t k) ∧ Lk w' s t k f ∧ Below w.heap.size w w' ∧ From w.heap.size s) := by rw [← HT.out]; exact fun w h => rtrim_any w a n c f h
  rw [HT.out]
  go_enter Try.func35, Try.ntmps35
  go_wp2_with (go_at_call 24; refine (HR.out _ HL.out).mono ?_; rintro e w1 ⟨s1, k1, rfl, hs1, hb1, hf1⟩)
  go_ret
  exact ⟨by simp; omega, hb1⟩
/-- The coefficients, noughts behind the end. -/
def zx (f : Nat → Nat) (n : Nat) (i : Nat) : Nat := if i < n then f i else 0
theorem zx_el {f : Nat → Nat} {n : Nat} (h : ∀ i, i < n → f i < 256) : El (zx f n) := fun i => by unfold zx; split; exact h i ‹_›; decide
theorem zx_above (f : Nat → Nat) (n : Nat) : Above n (zx f n) := fun i hi => if_neg (by omega)
/-- The coefficient at a place that may be below 0. -/
def zat (f : Nat → Nat) (n : Nat) (i : Int) : Nat := if i < 0 then 0 else zx f n i.toNat
set_option maxHeartbeats 400000 in
theorem at_any (w : World) (a : Option Addr) (n c : Nat) (f : Nat → Nat) (i : Int) (h : Sl w a n f) :
    Calls Try.prog 36 #[.slice a n c, .int .i64 i] w fun e w' => e = .returned (.int .u8 (zat f n i : Nat)) ∧ w' = w := by
  have HS : Hid (Sl w a n f) := h
  clear h
  by_cases h0 : i < 0
  · have e : zat f n i = 0 := by unfold zat; rw [if_pos h0]
    rw [e]
    go_enter Try.func36, Try.ntmps36
    go_wp2
    go_ret
    exact ⟨rfl, rfl⟩
  · obtain ⟨m, rfl⟩ := Int.eq_ofNat_of_zero_le (Int.not_lt.mp h0)
    have hd : decide ((m : Int) < 0) = false := by simp
    by_cases h1 : m < n
    · obtain ⟨b, o, ea, hc⟩ := HS.out.2 m h1
      have e : zat f n m = f m := by unfold zat zx; rw [if_neg h0, Int.toNat_natCast, if_pos h1]
      rw [e]
      subst ea
      go_enter Try.func36, Try.ntmps36
      go_wp2
      go_ret
      exact ⟨rfl, rfl⟩
    · have e : zat f n m = 0 := by unfold zat zx; rw [if_neg h0, Int.toNat_natCast, if_neg h1]
      rw [e]
      go_enter Try.func36, Try.ntmps36
      go_wp2
      go_ret
      exact ⟨rfl, rfl⟩
end Go.Proofs.Ythpjedoolbfjfab
