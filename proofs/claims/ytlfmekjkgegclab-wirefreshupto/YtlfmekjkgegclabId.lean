/-
  Contracts of the landed wire: withSum, sumAt, Write.
-/
import Derived.Test.YtlfmekjkgegclabIc
namespace Go.Proofs.Ytlfmekjkgegclab
open Go.RowKit
theorem fr_top {S j : Nat} (hS : S < 4294967296) (hj : j < 4) : S * 256 ^ j % 4294967296 / 16777216 = fr S j := by
  unfold fr
  rcases (by omega : j = 0 ∨ j = 1 ∨ j = 2 ∨ j = 3) with rfl | rfl | rfl | rfl
  · show S * 1 % 4294967296 / 16777216 = S / 16777216 % 256
    omega
  · show S * 256 % 4294967296 / 16777216 = S / 65536 % 256
    omega
  · show S * 65536 % 4294967296 / 16777216 = S / 256 % 256
    omega
  · show S * 16777216 % 4294967296 / 16777216 = S / 1 % 256
    omega
theorem fr_next (S j : Nat) : S * 256 ^ j % 4294967296 * 256 % 4294967296 = S * 256 ^ (j + 1) % 4294967296 := by
  rw [Nat.pow_succ, ← Nat.mul_assoc]
  omega
set_option maxRecDepth 20000 in
set_option maxHeartbeats 1000000 in
theorem wsum_own (w : World) (B m S : Nat) (v : Value) (f : Nat → Nat) (hJ : Jo w B 5 .u8 v m f) (hB : B ≤ w.heap.size) (hm : m ≤ 5000000) (hS : S < 4294967296) :
    Calls Try.prog 26 #[v, .int .u32 (S : Int)] w fun e w' => ∃ v', e = .returned v' ∧ Jo w' B 5 .u8 v' (m + 4) (cat f (fr S) m) ∧ Below B w w' := by
  obtain ⟨i0, hi0, hz0, hz1, hz2⟩ := info_parts jbyte
  obtain ⟨C, HC⟩ : ∃ C, Hid (cat f (fr S) m = C) := ⟨_, rfl⟩
  have HO : Hid (Jo w B 5 .u8 v m C) := by rw [← HC.out]; exact hJ.congr (fun i hi => (cat_low hi).symm)
  have HCn : Hid (∀ j, C (m + j) = fr S j) := fun j => by rw [← HC.out, cat_add]
  rw [HC.out]
  clear hJ
  go_enter Try.func26, Try.ntmps26
  go_wp2
  go_loopw [0, 1, 5] (fun v vs vj wr => ∃ j z : Nat, j ≤ 4 ∧ Hid (S * 256 ^ j % 4294967296 = z) ∧ vj = .int .i64 (j : Int) ∧ vs = .int .u32 (z : Int) ∧ Jo wr B 5 .u8 v (m + j) C ∧ Below B w wr) (fun _ _ vj _ => 4 - (intOf vj).toNat)
  case atStart => exact ⟨0, S, by omega, (by show _ = _; rw [Nat.pow_zero, Nat.mul_one, Nat.mod_eq_of_lt hS]), rfl, rfl, HO.out, (Below.refl _ _).mono hB⟩
  case round =>
    clear HO
    obtain ⟨j, z, hj, HZ, rfl, rfl, I, hb⟩ := hrel
    obtain ⟨p, HP⟩ : ∃ p, Hid (m + j = p) := ⟨_, rfl⟩
    rw [HP.out] at I
    obtain ⟨ps, pd, rfl, hpn⟩ := I.form
    have HI : Hid (Jo wr B 5 .u8 (.slice ps p pd) p C) := I
    have HB : Hid (Below B w wr) := hb
    have hwsz := hb.size
    have hz32 : z < 4294967296 := by rw [← HZ.out]; exact Nat.mod_lt _ (by decide)
    have hp9 : p ≤ 5000010 := by have := HP.out; omega
    have hml2 : p + 1 ≤ maxLen := by unfold maxLen; omega
    have hBr : B ≤ wr.heap.size := by omega
    clear I hb
    by_cases hj4 : j < 4
    · obtain ⟨x, HX⟩ : ∃ x, Hid (z / 16777216 = x) := ⟨_, rfl⟩
      obtain ⟨z', HZ'⟩ : ∃ z', Hid (z * 256 % 4294967296 = z') := ⟨_, rfl⟩
      have hx8 : x < 256 := by have := HX.out; omega
      have e1 : (z : Int) / 16777216 = (x : Int) := by have := HX.out; omega
      have e2 : IntKind.u32.wrap ((z : Int) * 256) = (z' : Int) := by rw [IntKind.wrap_u32]; have := HZ'.out; omega
      have HY : Hid (x = C p) := by
        show x = C p
        rw [← HP.out, HCn.out, ← fr_top hS hj4, HZ.out, HX.out]
      have HZ2 : Hid (S * 256 ^ (j + 1) % 4294967296 = z') := by show _ = _; rw [← fr_next, HZ.out, HZ'.out]
      go_wp2_with (at_builtin; refine wpList_append_own _ rfl _ _ 22 rfl B 5 i0 (.int .u8 0) 1 1 Try.underlying22 hi0 hz0 hz1 hz2 rfl (by decide) _ p _ rfl (World.ownsRow.alloc HI.out _) ⟨wr.heap.size, 0, none⟩ 1 1 [.int .u8 (x : Int)] rfl rfl (jone_new _ _ _ _) (jone_one _ _) hml2 (by omega) (by simp; omega) ?_; intro v' w6 hown' hgrow' _; have HO6 := HI.out.put8 hBr hown' hgrow' HY.out; clear hown' hgrow')
      have e5 : m + (j + 1) = p + 1 := by have := HP.out; omega
      refine ⟨⟨j + 1, z', by omega, HZ2, by go_num, by go_num, ?_, HB.out.trans HO6.2⟩, by simp [intOf]; omega⟩
      rw [e5]
      exact HO6.1
    · obtain rfl : j = 4 := by omega
      go_wp2
      go_ret
      rw [HP.out]
      exact ⟨_, rfl, HI.out, HB.out⟩
/-- Four bytes as a number, the highest first. -/
def hv4 (f : Nat → Nat) : Nat → Nat
  | 0 => 0
  | k + 1 => hv4 f k * 256 + f k
theorem hv4_lt {f : Nat → Nat} : ∀ k, (∀ i, i < k → f i < 256) → hv4 f k < 256 ^ k := by
  intro k
  induction k with
  | zero => intro _; exact Nat.one_pos
  | succ k ih =>
    intro h
    have h1 := ih (fun i hi => h i (by omega))
    have h2 := h k (by omega)
    show hv4 f k * 256 + f k < 256 ^ (k + 1)
    rw [Nat.pow_succ]
    omega
theorem hv4_iff {f : Nat → Nat} {S : Nat} (hf : ∀ i, i < 4 → f i < 256) (hS : S < 4294967296) : (S = hv4 f 4) ↔ ∀ j, j < 4 → f j = fr S j := by
  have h0 := hf 0 (by omega)
  have h1 := hf 1 (by omega)
  have h2 := hf 2 (by omega)
  have h3 := hf 3 (by omega)
  have e : hv4 f 4 = (((0 * 256 + f 0) * 256 + f 1) * 256 + f 2) * 256 + f 3 := rfl
  rw [e]
  constructor
  · intro h j hj
    unfold fr
    rcases (by omega : j = 0 ∨ j = 1 ∨ j = 2 ∨ j = 3) with rfl | rfl | rfl | rfl
    · show f 0 = S / 16777216 % 256
      omega
    · show f 1 = S / 65536 % 256
      omega
    · show f 2 = S / 256 % 256
      omega
    · show f 3 = S / 1 % 256
      omega
  · intro h
    have g0 : f 0 = S / 16777216 % 256 := h 0 (by omega)
    have g1 : f 1 = S / 65536 % 256 := h 1 (by omega)
    have g2 : f 2 = S / 256 % 256 := h 2 (by omega)
    have g3 : f 3 = S / 1 % 256 := h 3 (by omega)
    omega
set_option maxRecDepth 20000 in
set_option maxHeartbeats 1000000 in
theorem sumat_ok (w : World) (b o n c : Nat) (f : Nat → Nat) (ha : Sl w (some ⟨b, o, none⟩) n f) (hnc : n ≤ c) (h4 : 4 ≤ n) :
    Calls Try.prog 32 #[.slice (some ⟨b, o, none⟩) n c] w fun e w' => e = .returned (.int .u32 ((hv4 f 4 : Nat) : Int)) ∧ w = w' := by
  have HA : Hid (Sl w (some ⟨b, o, none⟩) n f) := ha
  have q1 : (4 : Int) ≤ (c : Int) := by omega
  obtain ⟨R, HR⟩ : ∃ R, Hid (hv4 f 4 = R) := ⟨_, rfl⟩
  rw [HR.out]
  clear ha
  go_enter Try.func32, Try.ntmps32
  go_wp2
  go_loop [3, 5, 9] (fun vs _ vi => ∃ i z : Nat, i ≤ 4 ∧ vi = .int .i64 (i : Int) ∧ vs = .int .u32 (z : Int) ∧ Hid (hv4 f i = z)) (fun _ _ vi => 4 - (intOf vi).toNat)
  case atStart => exact ⟨0, 0, by omega, rfl, rfl, rfl⟩
  case round =>
    obtain ⟨i, z, hi, rfl, rfl, HZ⟩ := hrel
    by_cases hi4 : i < 4
    · obtain ⟨b', o', ea, hc⟩ := HA.out.2 i (by omega)
      cases ea
      have h8 := HA.out.1 i (by omega)
      obtain ⟨y, HY⟩ : ∃ y, Hid (f i = y) := ⟨_, rfl⟩
      rw [HY.out] at hc h8
      have hz : z < 16777216 := by
        have h1 := hv4_lt i (f := f) (fun j hj => HA.out.1 j (by omega))
        have h2 : 256 ^ i ≤ 256 ^ 3 := Nat.pow_le_pow_right (by decide) (by omega)
        have h3 : (256 : Nat) ^ 3 = 16777216 := by decide
        rw [HZ.out] at h1
        omega
      obtain ⟨q, HQ⟩ : ∃ q, Hid (z * 256 = q) := ⟨_, rfl⟩
      obtain ⟨u, HU⟩ : ∃ u, Hid (q + y = u) := ⟨_, rfl⟩
      have e1 : IntKind.u32.wrap ((z : Int) * 256) = (q : Int) := by rw [IntKind.wrap_u32]; have := HQ.out; omega
      have hq : q < 4294967296 := by have := HQ.out; omega
      have hor : bits .or .u32 (q : Int) (y : Int) = (u : Int) := by
        rw [u32_or_nat q y hq (by omega), ← HU.out, ← HQ.out]
        have := Nat.two_pow_add_eq_or_of_lt (i := 8) (b := y) h8 z
        rw [show z * 256 = 2 ^ 8 * z by omega, this]
      have HV : Hid (hv4 f (i + 1) = u) := by
        show hv4 f i * 256 + f i = u
        rw [HZ.out, HY.out, HQ.out]
        exact HU.out
      have p0 : (0 : Int) ≤ (i : Int) := by omega
      have p1 : (i : Int) < 4 := by omega
      go_wp2
      exact ⟨⟨i + 1, u, by omega, by go_num, by go_num, HV⟩, by simp [intOf]; omega⟩
    · obtain rfl : i = 4 := by omega
      obtain rfl : z = R := HZ.out.symm.trans HR.out
      go_wp2
      go_ret
      exact ⟨rfl, rfl⟩
set_option maxRecDepth 20000 in
set_option maxHeartbeats 1000000 in
theorem qwrite_ok (w : World) (tag n c L : Nat) (a : Option Addr) (f : Nat → Nat) (ht : tag < 256) (ha : Sl w a n f) (h0 : a = none → n = 0 ∧ c = 0) (hn : n ≤ 4194304) (HN : Hid (NF n L)) :
    Calls Try.prog 12 #[.agg #[.int .u8 (tag : Int), .slice a n c]] w fun e w' => ∃ v, e = .returned (.tuple #[v, .int .i64 0]) ∧ Jo w' w.heap.size 5 .u8 v (1 + (L + n) + 4) (chf tag f n L) ∧ Below w.heap.size w w' := by
  have HF : Hid (∀ i, i < n → f i < 256) := ha.1
  have hL9 := nf_nine HN.out (by omega)
  obtain ⟨p, HP⟩ : ∃ p, Hid (1 + (L + n) = p) := ⟨_, rfl⟩
  have hp : p ≤ 4194314 := by have := HP.out; omega
  obtain ⟨C, HC⟩ : ∃ C, Hid (chp tag f n L = C) := ⟨_, rfl⟩
  have HCb : Hid (∀ i, i < p → C i < 256) := by rw [← HP.out, ← HC.out]; exact chp_lt ht HF.out
  have HTx : Hid (Calls Try.prog 25 #[.slice (some ⟨w.heap.size + 1, 0, none⟩) 1 1, .slice a n c] ((w.alloc (.cells #[.int .u8 (tag : Int), .slice a n c] 30)).alloc (.cells #[.int .u8 (tag : Int)] 5)) fun e w'' => ∃ s d, e = .returned (.slice s p d) ∧ Jo w'' w.heap.size 5 .u8 (.slice s p d) p C ∧ Below w.heap.size w w'') := by
    obtain ⟨w0, HW0⟩ : ∃ w0, Hid (w.alloc (.cells #[.int .u8 (tag : Int), .slice a n c] 30) = w0) := ⟨_, rfl⟩
    have HB0 : Hid (Below w.heap.size w w0) := by rw [← HW0.out]; exact jlow _ _
    have hsz : w.heap.size + 1 = w0.heap.size := by rw [← HW0.out, size_alloc8]
    rw [HW0.out, hsz]
    exact (wtext_own _ w.heap.size 1 n c L _ a (fun _ => tag) f (jo_lit1 w0 w.heap.size tag HB0.out.size) (Nat.le_trans HB0.out.size (jlow _ _).size) (by omega) (fun w' hb => ha.later ((jtwo HB0.out (jlow _ _)).trans hb)) h0 hn HN).mono (fun e w'' h => by
      obtain ⟨v, he, ho, hb⟩ := h
      rw [HP.out, show cat (fun _ => tag) (txf f n L) 1 = C from HC.out] at ho
      obtain ⟨s, d, rfl, hs⟩ := ho.form
      exact ⟨s, d, he, ho, (jtwo HB0.out (jlow _ _)).trans hb⟩)
  obtain ⟨S, HS⟩ : ∃ S, Hid (cs C p = S) := ⟨_, rfl⟩
  have HS4 : Hid (S < 4294967296) := by rw [← HS.out]; exact cs_lt C p
  have va := Vc.new w (.int .u8 (tag : Int)) (.slice a n c)
  have a0 := va.c0
  have a1 := va.c1
  have hd : decide ((4194304 : Int) < (n : Int)) = false := decide_eq_false (by omega)
  have b0 : ((w.alloc (.cells #[.int .u8 (tag : Int), .slice a n c] 30)).alloc (.cells #[.int .u8 (tag : Int)] 5)).cell? ⟨w.heap.size, 1, none⟩ = some (.slice a n c) := (va.later (jlow _ _)).c1
  clear ha h0 va
  go_enter Try.func12, Try.ntmps12
  go_wp2_with (first
    | (go_at_call 25; refine HTx.out.mono ?_; rintro e w2 ⟨s2, d2, rfl, ho2, hb2⟩; have HO2 := jhid8 ho2; have HS2 : Hid (Sl w2 s2 p C) := jo_sl ho2 HCb.out; have HB2 := jhid8 hb2; clear ho2 hb2)
    | (go_at_call 16; refine (qsum_ok _ s2 p d2 C HS2.out (by omega)).mono ?_; rintro e w3 ⟨rfl, hb3⟩; rw [HS.out]; have HO3 := jhid8 (HO2.out.later hb3); have HB3 := jhid8 (jtwo HB2.out hb3); clear hb3)
    | (go_at_call 26; refine (wsum_own _ w.heap.size p S _ C HO3.out HB3.out.size (by omega) HS4.out).mono ?_; rintro e w4 ⟨v4, rfl, ho4, hb4⟩; have HO4 := jhid8 ho4; have HB4 : Hid (Below w.heap.size w w4) := HB3.out.trans hb4; clear ho4 hb4))
  go_ret2
  refine ⟨_, rfl, ?_, HB4.out⟩
  have h := HO4.out
  unfold chf
  rw [HC.out, HP.out, HS.out]
  exact h
set_option maxRecDepth 20000 in
set_option maxHeartbeats 400000 in
theorem qwrite_limit (w : World) (tag n c : Nat) (a : Option Addr) (hn : 4194304 < n) : Calls Try.prog 12 #[.agg #[.int .u8 (tag : Int), .slice a n c]] w fun e w' => e = .returned (.tuple #[.slice none 0 0, .int .i64 4]) ∧ Below w.heap.size w w' := by
  have hd : decide ((4194304 : Int) < (n : Int)) = true := decide_eq_true (by omega)
  have va := Vc.new w (.int .u8 (tag : Int)) (.slice a n c)
  have a1 := va.c1
  clear va
  go_enter Try.func12, Try.ntmps12
  go_wp2
  go_ret2
  exact ⟨rfl, jlow _ _⟩
end Go.Proofs.Ytlfmekjkgegclab
