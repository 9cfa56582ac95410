/-
  The anchor of the laws of codes.
  What both sides answer: Reed, Cross, Local, Pyramid.
  Sums over the groups of a code of portions. No Go in sight, but for lists of numbers.
  The sums of a Local code's groups: no code, or no fitting data.
  The sums of a Local code's groups: whatever the data.
-/
import Derived.Test.YtnfbbddoaeofgaaGreatQssms00
import Derived.Test.YtnfbbddoaeofgaaGreatQssms49
import Derived.Test.YtnfbbddoaeofgaaGreatQssms44
import Derived.Test.YtnfbbddoaeofgaaGreatQssms46
import Derived.Test.YtnfbbddoaeofgaaGreatQssms14
import Derived.Test.YtnfbbddoaeofgaaGreatQssms03
set_option maxRecDepth 100000
set_option maxHeartbeats 16000000
namespace Go.Proofs.YtnfbbddoaeofgaaGreat
open Go.RowKit
/-- The anchor's code: 1 / 1 with the group of both blocks. -/
def anF (q : Nat) : Nat := ptf 1 1 1 (fun _ => 1) (fun q => crf 1 (1 * 1 + q)) q
theorem qej : ∀ q, q < 2 → anF q = 1 := fun q hq => by
 rcases (by omega : q = 0 ∨ q = 1) with rfl | rfl
 ·rfl
 ·rfl
theorem two_ones {w : World} {b : Nat} (h : Vq w b 5 #[.int .u8 1, .int .u8 1]) : Sl w (some ⟨b, 0, none⟩) 2 (fun _ => 1) := ⟨fun _ _ => by show 1 < 256; omega, fun i hi => ⟨b, 0, rfl, by
 rcases (by omega : i = 0 ∨ i = 1) with rfl | rfl
 ·exact h.cell 0 _ rfl
 ·exact h.cell 1 _ rfl⟩⟩
theorem one_set {w : World} {b : Nat} (h : Vq w b 54 #[.int .u64 3]) : Jl w (some ⟨b, 0, none⟩) .u64 1 (fun _ => ((3 : Nat) : Int)) := fun i hi => ⟨b, 0, rfl, by
 obtain rfl : i = 0 := by omega
 exact h.cell 0 _ rfl⟩
theorem an_hang : HangP anF 2 1 3 := by
 have R : Rt 2 1 2 := ⟨by omega, by omega, rfl⟩
 have hM : El2 (m2 anF 2 1) := qci (fun i hi => by rw [qej i hi]; omega) R
 have e : m2 anF 2 1 0 = m2 anF 2 1 1 := by
  funext j
  by_cases hj : j < 1
  ·rw [qdk _ (by omega) hj, qdk _ (by omega) hj, qej _ (by omega), qej _ (by omega)]
  ·rw [qc9 anF (by omega), qc9 anF (by omega)]
 refine ⟨by decide, fun i hi hb => ?_⟩
 rcases (by omega : i = 0 ∨ i = 1) with rfl | rfl
 ·rw [e]; exact qgm hM (by omega) (by rfl)
 ·rw [← e]; exact qgm hM (by omega) (by rfl)
theorem an_local (w : World) : Calls Tryz.prog 13 #[.int .i64 1, .int .i64 1, .int .i64 0] w fun e w' => ∃ s d t e2, e = .returned (.tuple #[cv 2 1 s 2 d t 1 e2, .int .i64 0]) ∧ Mt w' s 2 d anF ∧ Jl w' t .u64 1 (fun _ => ((3 : Nat) : Int)) ∧ Below w.heap.size w w' := by
 have h := qck w 1 1 1 0 2 2 (by omega) (by omega) (by omega) (qcd rfl) (qcd rfl) (by omega) (qcd rfl)
 refine h.mono (fun e w' h => ?_)
 obtain ⟨s, d, t, e2, h1, h2, h3, h4⟩ := h
 exact ⟨s, d, t, e2, h1, h2, fun i hi => by
  obtain rfl : i = 0 := by omega
  obtain ⟨x, o, ex, hc⟩ := h3 0 (by omega)
  exact ⟨x, o, ex, by rw [hc]; rfl⟩, h4⟩
theorem qjm (w : World) : Calls Tryz.prog 28 #[] w fun e w' => e = .returned (.bool true) ∧ Below w.heap.size w w' := by
 have HLo := jhidv an_local
 go_enter Tryz.func28, Tryz.ntmps28
 go_wp2_with (first
  | (go_at_call 13; refine (HLo.out _).mono ?_; rintro e w1 ⟨s1, d1, t1, e1, rfl, hm1, hj1, hb1⟩; have HV : Hid (Vq (w1.alloc (.cells #[.int .i64 2, .int .i64 1, .slice s1 2 d1, .slice t1 1 e1] 27)) w1.heap.size 27 #[.int .i64 2, .int .i64 1, .slice s1 2 d1, .slice t1 1 e1]) := Vq.new w1 _ _; have HBd : Hid (Below w.heap.size w (((w1.alloc (.cells #[.int .i64 2, .int .i64 1, .slice s1 2 d1, .slice t1 1 e1] 27)).alloc (.cells #[.int .u8 1, .int .u8 1] 5)).alloc (.cells #[.int .u64 3] 54))) := qa2 (qa2 (qa2 hb1 (qa1 _ _)) (qa1 _ _)) (qa1 _ _); have HMd : Hid (Mt (((w1.alloc (.cells #[.int .i64 2, .int .i64 1, .slice s1 2 d1, .slice t1 1 e1] 27)).alloc (.cells #[.int .u8 1, .int .u8 1] 5)).alloc (.cells #[.int .u64 3] 54)) s1 2 d1 anF) := ((hm1.later (qa1 _ _)).later (qa1 _ _)).later (qa1 _ _); have HJd : Hid (Jl (((w1.alloc (.cells #[.int .i64 2, .int .i64 1, .slice s1 2 d1, .slice t1 1 e1] 27)).alloc (.cells #[.int .u8 1, .int .u8 1] 5)).alloc (.cells #[.int .u64 3] 54)) t1 .u64 1 (fun _ => ((3 : Nat) : Int))) := ((hj1.later (qa1 _ _)).later (qa1 _ _)).later (qa1 _ _); have HVd : Hid (Vq (((w1.alloc (.cells #[.int .i64 2, .int .i64 1, .slice s1 2 d1, .slice t1 1 e1] 27)).alloc (.cells #[.int .u8 1, .int .u8 1] 5)).alloc (.cells #[.int .u64 3] 54)) w1.heap.size 27 #[.int .i64 2, .int .i64 1, .slice s1 2 d1, .slice t1 1 e1]) := (HV.out.later (qa1 _ _)).later (qa1 _ _); have HLb : Hid (Vq (((w1.alloc (.cells #[.int .i64 2, .int .i64 1, .slice s1 2 d1, .slice t1 1 e1] 27)).alloc (.cells #[.int .u8 1, .int .u8 1] 5)).alloc (.cells #[.int .u64 3] 54)) (w1.heap.size + 1) 5 #[.int .u8 1, .int .u8 1]) := (Vq.new1 w1 _ _ _).later (qa1 _ _); have HLs : Hid (Vq (((w1.alloc (.cells #[.int .i64 2, .int .i64 1, .slice s1 2 d1, .slice t1 1 e1] 27)).alloc (.cells #[.int .u8 1, .int .u8 1] 5)).alloc (.cells #[.int .u64 3] 54)) (w1.heap.size + 1 + 1) 54 #[.int .u64 3]) := Vq.new2 w1 _ _ _ _; have c0 := HV.out.cell 0 _ rfl; have c1 := HV.out.cell 1 _ rfl; have c2 := HV.out.cell 2 _ rfl; have c3 := HV.out.cell 3 _ rfl; clear hm1 hj1 hb1)
  | (go_at_call 27; refine (rsame16 _ 2 1 2 1 s1 t1 (some ⟨w1.heap.size + 1, 0, none⟩) (some ⟨w1.heap.size + 1 + 1, 0, none⟩) 2 d1 1 e1 2 2 1 1 anF (fun _ => 1) (fun _ => 3) (fun _ => 3) HMd.out.sl (two_ones HLb.out) HJd.out (one_set HLs.out) (by omega) true (qcd (by rw [qh1 (fun i hi => qej i hi), gsB_self]; rfl))).mono ?_; rintro e w2 ⟨rfl, hb2⟩; have HB2 : Hid (Below w.heap.size w w2) := qa2 HBd.out hb2; have HM2 : Hid (Mt w2 s1 2 d1 anF) := HMd.out.later hb2; have HJ2 : Hid (Jl w2 t1 .u64 1 (fun _ => ((3 : Nat) : Int))) := HJd.out.later hb2; have k0 := (HVd.out.later hb2).cell 0 _ rfl; have k1 := (HVd.out.later hb2).cell 1 _ rfl; have k2 := (HVd.out.later hb2).cell 2 _ rfl; have k3 := (HVd.out.later hb2).cell 3 _ rfl; clear hb2)
  | (go_at_call 24; refine (may1 _ 2 1 2 d1 e1 3 s1 t1 anF HM2.out HJ2.out ⟨by omega, by omega, rfl⟩ (by omega) (by omega) (by omega) an_hang).mono ?_; rintro e w3 ⟨rfl, hb3⟩; have HB3 : Hid (Below w.heap.size w w3) := qa2 HB2.out hb3; clear hb3))
 go_ret
 exact ⟨rfl, HB3.out⟩
open Go.RowKit
/-- Numbers of a code of portions, as naturals. -/
theorem port_nat {k l m : Int} (h : PortP k l m) (hs : k + l + m ≤ 64) : ∃ a b c s : Nat, k = a ∧ l = b ∧ m = c ∧ 1 ≤ a ∧ 1 ≤ b ∧ 1 ≤ s ∧ b * s = a ∧ a + b + c ≤ 64 := by
 obtain ⟨h1, h2, h3, h4⟩ := h
 obtain ⟨a, rfl⟩ := Int.eq_ofNat_of_zero_le (show 0 ≤ k by omega)
 obtain ⟨b, rfl⟩ := Int.eq_ofNat_of_zero_le (show 0 ≤ l by omega)
 obtain ⟨c, rfl⟩ := Int.eq_ofNat_of_zero_le h4
 have hm : a % b = 0 := by
  rw [← Int.natCast_emod] at h3
  omega
 have e := Nat.div_add_mod a b
 rw [hm, Nat.add_zero] at e
 refine ⟨a, b, c, a / b, rfl, rfl, rfl, by omega, by omega, ?_, e, by omega⟩
 exact Nat.div_pos (by
  rcases Nat.lt_or_ge a b with h | h
  ·rw [Nat.div_eq_of_lt h, Nat.mul_zero] at e; omega
  ·exact h) (by omega)
open Go.RowKit
theorem bt_test (s i : Nat) : bt s i = 1 ↔ s.testBit i = true := by
 rw [Nat.testBit_eq_decide_div_mod_eq]
 simp [bt]
theorem qjn {S a : Nat} : ∀ d, (∀ x, a ≤ x → x < a + d → bt S x = 0) → cn S (a + d) = cn S a := by
 intro d
 induction d with
 | zero => intro _; rfl
 | succ d ih => intro h; rw [← Nat.add_assoc, qaz, ih (fun x h1 h2 => h x h1 (by omega)), h (a + d) (by omega) (by omega)]; rfl
/-- The list of a set of rising numbers. -/
theorem inc_list {q : Nat → Nat} {n : Nat} (hinc : ∀ i j, i < j → j < n → q i < q j) (h64 : ∀ i, i < n → q i < 64) : cn (ofs q n) 64 = n ∧ ∀ t, t < n → lf (ofs q n) 64 t = q t := by
 have hbit : ∀ x, bt (ofs q n) x = 1 ↔ ∃ t, t < n ∧ q t = x := fun x => by rw [bt_test, ofs_bit]
 have hzero : ∀ x, (∀ t, t < n → q t ≠ x) → bt (ofs q n) x = 0 := fun x h => by
  have h1 := qif (ofs q n) x
  have h2 : ¬ bt (ofs q n) x = 1 := fun e => by
   obtain ⟨t, ht, e2⟩ := (hbit x).1 e
   exact h t ht e2
  omega
 have hmono : ∀ i j, i ≤ j → j < n → q i ≤ q j := fun i j h1 h2 => by
  rcases Nat.lt_or_ge i j with h | h
  ·exact Nat.le_of_lt (hinc i j h h2)
  ·rw [show i = j by omega]; exact Nat.le_refl _
 have hcn : ∀ t, t < n → cn (ofs q n) (q t) = t := by
  intro t
  induction t with
  | zero =>
   intro ht
   have := qjn (S := ofs q n) (a := 0) (q 0) (fun x _ hx => hzero x (fun u hu e => by have := hmono 0 u (by omega) hu; omega))
   rw [Nat.zero_add] at this
   rw [this]; rfl
  | succ t ih =>
   intro ht
   have h1 := hinc t (t + 1) (by omega) ht
   have := qjn (S := ofs q n) (a := q t + 1) (q (t + 1) - (q t + 1)) (fun x hx1 hx2 => hzero x (fun u hu e => by
    rcases Nat.lt_or_ge t u with h | h
    ·have := hmono (t + 1) u (by omega) hu; omega
    ·have := hmono u t h (by omega); omega))
   rw [show q t + 1 + (q (t + 1) - (q t + 1)) = q (t + 1) by omega] at this
   rw [this, qaz, ih (by omega), (hbit (q t)).2 ⟨t, by omega, rfl⟩]
 have hall : cn (ofs q n) 64 = n := by
  rcases Nat.eq_zero_or_pos n with rfl | hn
  ·rw [show ofs q 0 = 0 from rfl, qig]
  ·have h1 := h64 (n - 1) (by omega)
   have := qjn (S := ofs q n) (a := q (n - 1) + 1) (64 - (q (n - 1) + 1)) (fun x hx1 _ => hzero x (fun u hu e => by have := hmono u (n - 1) (by omega) (by omega); omega))
   rw [show q (n - 1) + 1 + (64 - (q (n - 1) + 1)) = 64 by omega] at this
   rw [this, qaz, hcn (n - 1) (by omega), (hbit (q (n - 1))).2 ⟨n - 1, by omega, rfl⟩]
   omega
 refine ⟨hall, fun t ht => ?_⟩
 obtain ⟨a1, a2, a3⟩ := qb1 (s := ofs q n) (i := 64) (t := t) (by omega)
 obtain ⟨u, hu, e⟩ := (hbit _).1 a2
 rw [← e, hcn u hu] at a3
 rw [← e, a3]
theorem gpq_list {k l s p : Nat} (hK : l * s = k) (hp : p < l) (hk : k + l ≤ 64) : cn (gpf k s p) 64 = s + 1 ∧ ∀ t, t < s + 1 → lf (gpf k s p) 64 t = gpq k s p t := by
 have hf := qbt hK hp
 refine inc_list (fun i j h1 h2 => ?_) (fun i hi => qiu hK hp hk hi)
 unfold gpq
 rw [if_neg (by omega)]
 split <;> omega
theorem port_sum {k l s p : Nat} (D : Nat → Nat) (hs : 0 < s) (hK : l * s = k) (hp : p < l) : xs (fun j => if j / s = p then D j else 0) k = xs (fun t => D (p * s + t)) s := by
 have hd : ∀ b t, t < s → (b * s + t) / s = b := fun b t ht => by rw [Nat.mul_comm, Nat.mul_add_div hs, Nat.div_eq_of_lt ht]; rfl
 rw [← hK, xs_prod, qas hp (fun b _ hne => qad (fun t ht => if_neg (by rw [hd b t ht]; exact hne)))]
 exact qa6 (fun t ht => if_pos (hd p t ht))
/-- What a code of portions with sums makes of data. -/
theorem qjo {k l s : Nat} {D X : Nat → Nat} (hD : ∀ i, i < k → D i < 256) : ∀ i, i < k → apf (ptf k l s (fun _ => 1) X) D k i = D i := fun i hi => by
 rw [← apf_idf hD i hi]
 unfold apf
 refine qa6 (fun j hj => ?_)
 rw [ptf_id]
 have : (i + 1) * k ≤ k * k := Nat.mul_le_mul_right k hi
 rw [Nat.add_mul, Nat.one_mul] at this
 omega
theorem loc_port {k l s p : Nat} {D X : Nat → Nat} (hs : 0 < s) (hK : l * s = k) (hp : p < l) (hD : ∀ i, i < k → D i < 256) : apf (ptf k l s (fun _ => 1) X) D k (k + p) = xs (fun t => D (p * s + t)) s := by
 rw [← port_sum D hs hK hp]
 unfold apf
 refine qa6 (fun j hj => ?_)
 rw [ptf_port hp hj]
 by_cases h : j / s = p
 ·rw [if_pos h, if_pos h, qao _ (hD j hj)]
 ·rw [if_neg h, if_neg h, qa9]
theorem qjp {k l s p : Nat} {D X : Nat → Nat} (hs : 0 < s) (hK : l * s = k) (hp : p < l) (hD : ∀ i, i < k → D i < 256) : xs (fun t => apf (ptf k l s (fun _ => 1) X) D k (gpq k s p t)) (s + 1) = 0 := by
 have hf := qbt hK hp
 show xs _ s ^^^ apf _ D k (gpq k s p s) = 0
 rw [show gpq k s p s = k + p from if_pos rfl, loc_port hs hK hp hD, qa6 (g := fun t => D (p * s + t)) (fun t ht => by
  rw [show gpq k s p t = p * s + t from if_neg (by omega)]
  exact qjo hD _ (by omega)), Nat.xor_self]
theorem sl_cut16 {w : World} {a : Option Addr} {n m : Nat} {f : Nat → Nat} (h : Sl w a n f) (hm : m ≤ n) : Sl w a m f := ⟨fun i hi => h.1 i (by omega), fun i hi => h.2 i (by omega)⟩
open Go.RowKit
theorem sums_bad (w : World) (k l m : Nat) (hk8 : k < 256) (hl8 : l < 256) (hm8 : m < 256) (E : Int) (hE : PfP k l m E) (h0 : ¬ E = 0) (a1 : Option Addr) (len1 cap1 : Nat) :
  Calls Tryz.prog 7 #[.agg #[.int .u8 (k : Int), .int .u8 (l : Int), .int .u8 (m : Int)], .slice a1 len1 cap1] w fun e w' => e = .returned (.bool true) ∧ Below w.heap.size w w' := by
 have wk : IntKind.i64.wrap (k : Int) = (k : Int) := by rw [IntKind.wrap_i64]; omega
 have wl : IntKind.i64.wrap (l : Int) = (l : Int) := by rw [IntKind.wrap_i64]; omega
 have wm : IntKind.i64.wrap (m : Int) = (m : Int) := by rw [IntKind.wrap_i64]; omega
 have HLo : Hid (∀ w, Calls Tryz.prog 13 #[.int .i64 (k : Int), .int .i64 (l : Int), .int .i64 (m : Int)] w fun e w' => CAns w w' e 0 0 0 (fun _ => 0) 0 (fun _ => 0) E) := fun w => qfo w k l m E (by omega) (by omega) (by omega) hE h0
 have gE : (E != 0) = true := by simpa using h0
 have gE2 : (E == 0) = false := by simpa using h0
 clear hE h0
 go_enter Tryz.func7, Tryz.ntmps7
 go_wp2
 go_region
 go_wp2_with (first
  | (go_at_call 13; refine (HLo.out _).mono ?_; rintro e w1 ⟨s1, d1, t1, e1, rfl, hm1, hj1, hb1⟩; have HB1 : Hid (Below w.heap.size w (w1.alloc (.cells #[.int .i64 0, .int .i64 0, .slice s1 0 d1, .slice t1 0 e1] 27))) := qa2 (qa2 (qa2 (qa1 _ _) (qb4 _)) hb1) (qa1 _ _); clear hm1 hj1 hb1)
  | (go_at_call 28; refine (qjm _).mono ?_; rintro e w2 ⟨rfl, hb2⟩; have HB2 : Hid (Below w.heap.size w w2) := qa2 HB1.out hb2; clear hb2))
 go_ret
 exact ⟨rfl, HB2.out⟩
theorem sums_len (w : World) (k l m s : Nat) (hk8 : k < 256) (hl8 : l < 256) (hm8 : m < 256) (h1 : 1 ≤ k) (h2 : 1 ≤ l) (h3 : 1 ≤ s) (h4 : l * s = k) (h5 : k + l + m ≤ 64) (a1 : Option Addr) (len1 cap1 : Nat) (hlen : ¬ len1 = k) :
  Calls Tryz.prog 7 #[.agg #[.int .u8 (k : Int), .int .u8 (l : Int), .int .u8 (m : Int)], .slice a1 len1 cap1] w fun e w' => e = .returned (.bool true) ∧ Below w.heap.size w w' := by
 have wk : IntKind.i64.wrap (k : Int) = (k : Int) := by rw [IntKind.wrap_i64]; omega
 have wl : IntKind.i64.wrap (l : Int) = (l : Int) := by rw [IntKind.wrap_i64]; omega
 have wm : IntKind.i64.wrap (m : Int) = (m : Int) := by rw [IntKind.wrap_i64]; omega
 obtain ⟨R, HR⟩ : ∃ R, Hid (k + l + m = R) := ⟨_, rfl⟩
 obtain ⟨N, HN⟩ : ∃ N, Hid (R * k = N) := ⟨_, rfl⟩
 have hrr := HR.out
 obtain ⟨X, HX⟩ : ∃ X : Nat → Nat, Hid ((fun q => crf k (k * k + q)) = X) := ⟨_, rfl⟩
 obtain ⟨F, HF⟩ : ∃ F : Nat → Nat, Hid (ptf k l s (fun _ => 1) X = F) := ⟨_, rfl⟩
 have HLo : Hid (∀ w, Calls Tryz.prog 13 #[.int .i64 (k : Int), .int .i64 (l : Int), .int .i64 (m : Int)] w fun e w' => CAns w w' e R k N F l (gpf k s) 0) := fun w => by rw [← HF.out, ← HX.out]; exact qck w k l s m R N h1 h2 h3 (qcd h4) HR (by omega) HN
 have glen : ((len1 : Int) != (k : Int)) = true := by simp; omega
 clear h1 h2 h3 h4 h5 hrr HF HX hlen
 go_enter Tryz.func7, Tryz.ntmps7
 go_wp2
 go_region
 go_wp2_with (first
  | (go_at_call 13; refine (HLo.out _).mono ?_; rintro e w1 ⟨s1, d1, t1, e1, rfl, hm1, hj1, hb1⟩; have HB1 : Hid (Below w.heap.size w (w1.alloc (.cells #[.int .i64 (R : Int), .int .i64 (k : Int), .slice s1 N d1, .slice t1 l e1] 27))) := qa2 (qa2 (qa2 (qa1 _ _) (qb4 _)) hb1) (qa1 _ _); clear hm1 hj1 hb1)
  | (go_at_call 28; refine (qjm _).mono ?_; rintro e w2 ⟨rfl, hb2⟩; have HB2 : Hid (Below w.heap.size w w2) := qa2 HB1.out hb2; clear hb2))
 go_ret
 exact ⟨rfl, HB2.out⟩
open Go.RowKit
theorem qjq (w : World) (len1 l m s : Nat) (hk8 : len1 < 256) (hl8 : l < 256) (hm8 : m < 256) (h1 : 1 ≤ len1) (h2 : 1 ≤ l) (h3 : 1 ≤ s) (h4 : l * s = len1) (h5 : len1 + l + m ≤ 64) (a1 : Option Addr) (cap1 : Nat) (D : Nat → Nat) (HD : Hid (Mt w a1 len1 cap1 D)) :
  Calls Tryz.prog 7 #[.agg #[.int .u8 (len1 : Int), .int .u8 (l : Int), .int .u8 (m : Int)], .slice a1 len1 cap1] w fun e w' => e = .returned (.bool true) ∧ Below w.heap.size w w' := by
 have wk : IntKind.i64.wrap (len1 : Int) = (len1 : Int) := by rw [IntKind.wrap_i64]; omega
 have wl : IntKind.i64.wrap (l : Int) = (l : Int) := by rw [IntKind.wrap_i64]; omega
 have wm : IntKind.i64.wrap (m : Int) = (m : Int) := by rw [IntKind.wrap_i64]; omega
 obtain ⟨R, HR⟩ : ∃ R, Hid (len1 + l + m = R) := ⟨_, rfl⟩
 obtain ⟨N, HN⟩ : ∃ N, Hid (R * len1 = N) := ⟨_, rfl⟩
 have hrr := HR.out
 obtain ⟨X, HX⟩ : ∃ X : Nat → Nat, Hid ((fun q => crf len1 (len1 * len1 + q)) = X) := ⟨_, rfl⟩
 obtain ⟨F, HF⟩ : ∃ F : Nat → Nat, Hid (ptf len1 l s (fun _ => 1) X = F) := ⟨_, rfl⟩
 have HLo : Hid (∀ w, Calls Tryz.prog 13 #[.int .i64 (len1 : Int), .int .i64 (l : Int), .int .i64 (m : Int)] w fun e w' => CAns w w' e R len1 N F l (gpf len1 s) 0) := fun w => by rw [← HF.out, ← HX.out]; exact qck w len1 l s m R N h1 h2 h3 (qcd h4) HR (by omega) HN
 have HRD : Hid (Rt R len1 N) := ⟨by omega, by omega, HN.out⟩
 obtain ⟨Y, HY⟩ : ∃ Y : Nat → Nat, Hid (apf F D len1 = Y) := ⟨_, rfl⟩
 have hDl := HD.out.sl.1
 have HYt : Hid (∀ i, i < len1 → Y i = D i) := fun i hi => by rw [← HY.out, ← HF.out]; exact qjo hDl i hi
 have HYs : Hid (∀ p, p < l → xs (fun t => Y (gpq len1 s p t)) (s + 1) = 0) := fun p hp => by rw [← HY.out, ← HF.out]; exact qjp (by omega) h4 hp hDl
 have HAp : Hid (∀ (w : World) (sa sb : Option Addr) (ka kb : Nat), Sl w sa N F → Sl w sb len1 D → Calls Tryz.prog 29 #[mv R len1 sa N ka, .slice sb len1 kb] w fun e w' => ∃ g, e = .returned (.tuple #[.slice (some ⟨g, 0, none⟩) R R, .int .i64 0]) ∧ RowAt w' g 5 R Y ∧ w.heap.size ≤ g ∧ Below w.heap.size w w') := fun w sa sb ka kb p1 p2 => by rw [← HY.out]; exact qi4 w R len1 N ka kb sa sb F D p1 p2 HRD.out
 have HFl : Hid (∀ q, F q < 256) := fun q => by rw [← HF.out]; exact ptf_lt h4 h2 (fun _ => by show 1 < 256; omega) (fun j => by rw [← HX.out]; exact qei len1 _) q
 have HYl : Hid (∀ i, i < R → Y i < 256) := fun i hi => by rw [← HY.out]; exact apf_lt D (fun q _ => HFl.out q) HRD.out i hi
 have HSm : Hid (sameB len1 len1 Y D = true) := by unfold sameB; exact decide_eq_true ⟨rfl, HYt.out⟩
 have HLs : Hid (∀ p, p < l → ∀ w, Calls Tryz.prog 31 #[.int .u64 ((gpf len1 s p : Nat) : Int)] w fun e w' => ∃ v, e = .returned v ∧ Jo w' w.heap.size 3 .i64 v (s + 1) (gpq len1 s p) ∧ Below w.heap.size w w') := fun p hp w => by
  obtain ⟨e1, e2⟩ := gpq_list h4 hp (by omega)
  refine (rlist_ok (gpf len1 s p) w (gpf_lt h4 hp (by omega))).mono (fun e w' h => ?_)
  obtain ⟨v, hv, ho, hb⟩ := h
  rw [e1] at ho
  exact ⟨v, hv, ho.congr (fun t ht => e2 t ht), hb⟩
 have q1 : (len1 : Int) / (l : Int) = (s : Int) := by rw [← Int.natCast_ediv, ← h4, Nat.mul_div_cancel_left s (by omega)]
 have q2 : (len1 : Int).tdiv (l : Int) = (s : Int) := by rw [Int.tdiv_eq_ediv_of_nonneg (by omega)]; exact q1
 have hsk : s ≤ len1 := by have := Nat.le_mul_of_pos_left s (show 0 < l by omega); rw [h4] at this; exact this
 obtain ⟨s1', HS1⟩ : ∃ x, Hid (s + 1 = x) := ⟨_, rfl⟩
 have hs1 := HS1.out
 rw [HS1.out] at HYs HLs
 have hs65 : s1' ≤ 65 := by omega
 have w1' : IntKind.i64.wrap (s : Int) = (s : Int) := by rw [IntKind.wrap_i64]; omega
 have w2' : IntKind.i64.wrap ((s : Int) + 1) = (s1' : Int) := by rw [IntKind.wrap_i64]; omega
 have gl : ((l : Int) == 0) = false := by simp; omega
 have hlz : ¬ (l : Int) = 0 := by omega
 have hRk : len1 ≤ R := by omega
 have hR64 : R ≤ 64 := by omega
 have j0 : (0 : Int) ≤ (len1 : Int) := Int.natCast_nonneg _
 have j1 : (len1 : Int) ≤ (R : Int) := by omega
 have glen : ((len1 : Int) != (len1 : Int)) = false := by simp
 have gll : ((l : Int) != (l : Int)) = false := by simp
 have gss : ((s1' : Int) != (s1' : Int)) = false := by simp
 have HGq : Hid (∀ p t, p < l → t < s1' → gpq len1 s p t < R) := fun p t hp ht => by
  have hf := qbt h4 hp
  unfold gpq
  split <;> omega
 clear h1 h3 hrr HF HX HY HYt hs1
 go_enter Tryz.func7, Tryz.ntmps7
 go_wp2
 go_region
 go_wp2_with (first
  | (go_at_call 13; refine (HLo.out _).mono ?_; rintro e w1 ⟨s1, d1, t1, e1, rfl, hm1, hj1, hb1⟩; have HB1 : Hid (Below w.heap.size w (w1.alloc (.cells #[.int .i64 (R : Int), .int .i64 (len1 : Int), .slice s1 N d1, .slice t1 l e1] 27))) := qa2 (qa2 (qa2 (qa1 _ _) (qb4 _)) hb1) (qa1 _ _); have HV1 : Hid (Vq (w1.alloc (.cells #[.int .i64 (R : Int), .int .i64 (len1 : Int), .slice s1 N d1, .slice t1 l e1] 27)) w1.heap.size 27 #[.int .i64 (R : Int), .int .i64 (len1 : Int), .slice s1 N d1, .slice t1 l e1]) := Vq.new w1 _ _; have HM1 : Hid (Mt (w1.alloc (.cells #[.int .i64 (R : Int), .int .i64 (len1 : Int), .slice s1 N d1, .slice t1 l e1] 27)) s1 N d1 F) := hm1.later (qa1 _ _); have HJ1 : Hid (Jl (w1.alloc (.cells #[.int .i64 (R : Int), .int .i64 (len1 : Int), .slice s1 N d1, .slice t1 l e1] 27)) t1 .u64 l (fun i => ((gpf len1 s i : Nat) : Int))) := hj1.later (qa1 _ _); have c0 := HV1.out.cell 0 _ rfl; have c1 := HV1.out.cell 1 _ rfl; have c2 := HV1.out.cell 2 _ rfl; clear hm1 hj1 hb1)
  | (go_at_call 29; refine (HAp.out _ _ _ _ _ HM1.out.sl (HD.out.later HB1.out).sl).mono ?_; rintro e w2 ⟨g2, rfl, hr2, hg2, hb2⟩; have HB2 : Hid (Below w.heap.size w w2) := qa2 HB1.out hb2; have HR2 : Hid (RowAt w2 g2 5 R Y) := hr2; have HV2 : Hid (Vq w2 w1.heap.size 27 #[.int .i64 (R : Int), .int .i64 (len1 : Int), .slice s1 N d1, .slice t1 l e1]) := HV1.out.later hb2; have HJ2 : Hid (Jl w2 t1 .u64 l (fun i => ((gpf len1 s i : Nat) : Int))) := HJ1.out.later hb2; have HD2 : Hid (Mt w2 a1 len1 cap1 D) := HD.out.later HB2.out; have c3 := HV2.out.cell 3 _ rfl; clear hr2 hg2 hb2)
  | (go_at_call 30; refine (qdo _ (some ⟨g2, 0, none⟩) a1 len1 len1 R cap1 Y D (sl_cut16 (HR2.out.sl HYl.out) hRk) HD2.out.sl).mono ?_; rw [HSm.out]; rintro e w' ⟨rfl, rfl⟩))
 go_loopw [12, 13, 14, 15] (fun vi _ _ _ wr => ∃ p : Nat, p ≤ l ∧ vi = .int .i64 (p : Int) ∧ Below w2.heap.size w2 wr) (fun vi _ _ _ _ => l - (intOf vi).toNat)
 case atStart => exact ⟨0, by omega, rfl, Below.refl _ _⟩
 case round =>
  obtain ⟨p, hp, rfl, hbr⟩ := hrel
  have HBr : Hid (Below w2.heap.size w2 wr) := hbr
  have c3r := (HV2.out.later hbr).cell 3 _ rfl
  have HJr : Hid (Jl wr t1 .u64 l (fun i => ((gpf len1 s i : Nat) : Int))) := HJ2.out.later hbr
  have HRr : Hid (RowAt wr g2 5 R Y) := HR2.out.later hbr
  clear hbr c3 c0 c1 c2
  by_cases hlt : p < l
  ·obtain ⟨x, o, ex, hcx⟩ := HJr.out p hlt
   obtain ⟨G, HG⟩ : ∃ G, Hid (gpf len1 s p = G) := ⟨_, rfl⟩
   have hcx2 : wr.cell? ⟨x, o + p, none⟩ = some (.int .u64 (G : Int)) := by rw [← HG.out]; exact hcx
   have HLp : Hid (∀ w, Calls Tryz.prog 31 #[.int .u64 (G : Int)] w fun e w' => ∃ v, e = .returned v ∧ Jo w' w.heap.size 3 .i64 v s1' (gpq len1 s p) ∧ Below w.heap.size w w') := by rw [← HG.out]; exact HLs.out p hlt
   have p0 : (0 : Int) ≤ (p : Int) := Int.natCast_nonneg _
   have p1 : (p : Int) < (l : Int) := by omega
   have HQp : Hid (∀ t, t < s1' → gpq len1 s p t < R) := fun t ht => HGq.out p t hlt ht
   have HSp : Hid (xs (fun t => Y (gpq len1 s p t)) s1' = 0) := HYs.out p hlt
   subst ex
   clear hcx
   go_wp2_with (go_at_call 31; refine (HLp.out _).mono ?_; rintro e w3 ⟨v, rfl, ho3, hb3⟩; obtain ⟨sl, d, rfl, hnil⟩ := ho3.form; have HJ3 : Hid (Jl w3 sl .i64 s1' (fun t => ((gpq len1 s p t : Nat) : Int))) := ho3.jl; have HB3 : Hid (Below w2.heap.size w2 w3) := qa2 HBr.out hb3; have HR3 : Hid (RowAt w3 g2 5 R Y) := HRr.out.later hb3; clear ho3 hb3 hnil)
   go_loop [13, 15] (fun vs vj => ∃ j S : Nat, j ≤ s1' ∧ vj = .int .i64 (j : Int) ∧ Hid (xs (fun t => Y (gpq len1 s p t)) j = S) ∧ S < 256 ∧ vs = .int .u8 (S : Int)) (fun _ vj => s1' - (intOf vj).toNat)
   case atStart => exact ⟨0, 0, by omega, rfl, rfl, by omega, rfl⟩
   case round =>
    obtain ⟨j, S, hj, rfl, HS, hS8, rfl⟩ := hrel
    by_cases hlj : j < s1'
    ·obtain ⟨xx, oo, exx, hcj⟩ := HJ3.out j hlj
     obtain ⟨z, HZ⟩ : ∃ z, Hid (gpq len1 s p j = z) := ⟨_, rfl⟩
     have hcj2 : w3.cell? ⟨xx, oo + j, none⟩ = some (.int .i64 (z : Int)) := by rw [← HZ.out]; exact hcj
     have hzR : z < R := by rw [← HZ.out]; exact HQp.out j hlj
     obtain ⟨y, HYz⟩ : ∃ y, Hid (Y z = y) := ⟨_, rfl⟩
     have hcy : w3.cell? ⟨g2, z, none⟩ = some (.int .u8 (y : Int)) := by rw [← HYz.out]; exact HR3.out.cell z hzR
     have hy8 : y < 256 := by rw [← HYz.out]; exact HYl.out z hzR
     have hxo : bits .xor .u8 (S : Int) (y : Int) = ((S ^^^ y : Nat) : Int) := u8_xor_nat S y hS8 hy8
     obtain ⟨S2, HS2⟩ : ∃ S2, Hid (S ^^^ y = S2) := ⟨_, rfl⟩
     rw [HS2.out] at hxo
     have hS2 : S2 < 256 := by rw [← HS2.out]; exact Nat.xor_lt_two_pow (n := 8) hS8 hy8
     have HN2 : Hid (xs (fun t => Y (gpq len1 s p t)) (j + 1) = S2) := by
      show xs (fun t => Y (gpq len1 s p t)) j ^^^ Y (gpq len1 s p j) = S2
      rw [HS.out, HZ.out, HYz.out]; exact HS2.out
     have gz : decide ((R : Int) ≤ (z : Int)) = false := by simp; omega
     have gz2 : decide (R ≤ z) = false := by simp; omega
     have z0' : (0 : Int) ≤ (z : Int) := Int.natCast_nonneg _
     have z1' : (z : Int) < (R : Int) := by omega
     have n0 : (0 : Int) ≤ (j : Int) := Int.natCast_nonneg _
     have n1 : (j : Int) < (s1' : Int) := by omega
     subst exx
     clear hcj
     go_wp2
     exact ⟨⟨j + 1, S2, by omega, by go_num, HN2, hS2, rfl⟩, by simp [intOf]; omega⟩
    ·obtain rfl : j = s1' := by omega
     obtain rfl : S = 0 := by rw [← HS.out]; exact HSp.out
     clear HS HSp
     go_wp2
     exact ⟨⟨p + 1, by omega, by go_num, HB3.out⟩, by simp [intOf]; omega⟩
  ·obtain rfl : p = l := by omega
   go_wp2_with (go_at_call 28; refine (qjm _).mono ?_; rintro e w4 ⟨rfl, hb4⟩; have HB4 : Hid (Below wr.heap.size wr w4) := hb4; clear hb4)
   go_ret
   exact ⟨rfl, qa2 (qa2 HB2.out HBr.out) HB4.out⟩
end Go.Proofs.YtnfbbddoaeofgaaGreat
