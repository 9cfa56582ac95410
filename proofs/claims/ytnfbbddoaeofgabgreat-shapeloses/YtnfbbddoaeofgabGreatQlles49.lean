/-
  What codes of portions bear: lost blocks, told by what the other rows send to nothing. No Go in sight.
  The law's kept: the rank of the rows that are not lost.
  What Local and Pyramid codes bear: no code, or nothing asked; sets of some numbers.
-/
import Derived.Test.YtnfbbddoaeofgabGreatQlles00
import Derived.Test.YtnfbbddoaeofgabGreatQlles48
import Derived.Test.YtnfbbddoaeofgabGreatQlles19
import Derived.Test.YtnfbbddoaeofgabGreatQlles16
import Derived.Test.YtnfbbddoaeofgabGreatQlles44
set_option maxRecDepth 100000
set_option maxHeartbeats 16000000
namespace Go.Proofs.YtnfbbddoaeofgabGreat
open Go.RowKit
theorem qcs {k s p t : Nat} (hs : 0 < s) (ht : t < s) : gpq k s p t = p * s + t ∧ (p * s + t) / s = p ∧ (p * s + t) % s = t := by
 refine ⟨if_neg (by omega), ?_, ?_⟩
 ·rw [Nat.mul_comm, Nat.mul_add_div hs, Nat.div_eq_of_lt ht]; rfl
 ·rw [Nat.mul_comm, Nat.mul_add_mod, Nat.mod_eq_of_lt ht]
theorem qha {k l s p p' t t' : Nat} (hs : 0 < s) (hK : l * s = k) (hp : p < l) (hp' : p' < l) (ht : t < s + 1) (ht' : t' < s + 1) (e : gpq k s p t = gpq k s p' t') : p = p' ∧ t = t' := by
 have f1 := qbq hK hp
 have f2 := qbq hK hp'
 unfold gpq at e
 by_cases h1 : t = s
 ·rw [if_pos h1] at e
  by_cases h2 : t' = s
  ·rw [if_pos h2] at e; exact ⟨by omega, by omega⟩
  ·rw [if_neg h2] at e; omega
 ·rw [if_neg h1] at e
  by_cases h2 : t' = s
  ·rw [if_pos h2] at e; omega
  ·rw [if_neg h2] at e
   have a1 := qcs (k := k) (p := p) hs (show t < s by omega)
   have a2 := qcs (k := k) (p := p') hs (show t' < s by omega)
   rw [e] at a1
   exact ⟨by rw [← a1.2.1, a2.2.1], by rw [← a1.2.2, a2.2.2]⟩
theorem row_id {k l s : Nat} {W X x : Nat → Nat} (hx : El x) {i : Nat} (hi : i < k) : xs (fun j => fm (ptf k l s W X (i * k + j)) (x j)) k = x i := by
 have h := apf_idf (X := x) (n := k) (fun j _ => hx j) i hi
 rw [← h]
 unfold apf
 refine qa7 (fun j hj => ?_)
 rw [ptf_id]
 have : (i + 1) * k ≤ k * k := Nat.mul_le_mul_right k hi
 rw [Nat.add_mul, Nat.one_mul] at this
 omega
/-- One block of each group is lost. -/
theorem qhb {k l s m S : Nat} {W X x τ : Nat → Nat} (hs : 0 < s) (hK : l * s = k) (hW : ∀ j, j < k → W j ≠ 0 ∧ W j < 256) (hx : El x) (hτ : ∀ p, p < l → τ p < s + 1)
  (hS : ∀ i, i < k + l + m → (bt S i = 1 ↔ ∃ p, p < l ∧ gpq k s p (τ p) = i))
  (hz : ∀ i, i < k + l + m → ¬ bt S i = 1 → xs (fun j => fm (ptf k l s W X (i * k + j)) (x j)) k = 0) : ∀ j, j < k → x j = 0 := by
 have keep : ∀ j, j < k → ¬ bt S j = 1 → x j = 0 := fun j hj hb => by rw [← row_id (l := l) (s := s) (W := W) (X := X) hx hj]; exact hz j (by omega) hb
 intro j hj
 by_cases hb : bt S j = 1
 ·obtain ⟨p, hp, e⟩ := (hS j (by omega)).1 hb
  have hf := qbq hK hp
  have ht : τ p < s := by
   have h1 := hτ p hp
   rcases Nat.lt_or_ge (τ p) s with h | h
   ·exact h
   ·unfold gpq at e; rw [if_pos (by omega)] at e; omega
  have e2 := (qcs (k := k) (p := p) hs ht).1
  have hkp : ¬ bt S (k + p) = 1 := fun h => by
   obtain ⟨p2, hp2, e3⟩ := (hS (k + p) (by omega)).1 h
   have := qha (t' := s) hs hK hp2 hp (hτ p2 hp2) (by omega) (e3.trans (show k + p = gpq k s p s from (if_pos rfl).symm))
   obtain ⟨rfl, h3⟩ := this
   omega
  have h0 := hz (k + p) (by omega) hkp
  have hpos : xs (fun j' => fm (ptf k l s W X ((k + p) * k + j')) (x j')) k = fm (W j) (x j) := by
   rw [qb2 hj (fun j' hj' hne => ?_)]
   ·rw [qh6 hp hj, if_pos (by rw [← e, e2]; exact (qcs (k := k) (p := p) hs ht).2.1)]
   ·rw [qh6 hp hj']
    by_cases hd : j' / s = p
    ·rw [if_pos hd, keep j' hj' (fun h => ?_), qaa]
     obtain ⟨p3, hp3, e4⟩ := (hS j' (by omega)).1 h
     have hj2 : j' = gpq k s p (j' % s) := by
      have a := Nat.div_add_mod j' s
      rw [hd, Nat.mul_comm] at a
      rw [(qcs (k := k) (p := p) hs (Nat.mod_lt j' hs)).1]; exact a.symm
     obtain ⟨rfl, h5⟩ := qha hs hK hp3 hp (hτ p3 hp3) (by have := Nat.mod_lt j' hs; omega) (e4.trans hj2)
     exact hne (by rw [← e4, e])
    ·rw [if_neg hd, qad]
  rw [hpos] at h0
  rcases (qbe _ _ (hW j hj).2 (hx j)).1 h0 with h | h
  ·exact absurd h (hW j hj).1
  ·exact h
 ·exact keep j hj hb
theorem qkd {k i j : Nat} (hj : j < k) : crf k (i * k + j) = crs k i j := by
 unfold crf stf crs
 by_cases hi : i < k
 ·have : i * k + j < k * k := Nat.lt_of_lt_of_le (show i * k + j < (i + 1) * k by rw [Nat.add_mul, Nat.one_mul]; omega) (Nat.mul_le_mul_right k hi)
  rw [if_pos this, if_pos hi, qit k i j hi hj]
  unfold dl
  by_cases e : i = j
  ·rw [if_pos e, if_pos e.symm]
  ·rw [if_neg e, if_neg (Ne.symm e)]
 ·have h1 : k * k ≤ i * k := Nat.mul_le_mul_right k (by omega)
  rw [if_neg (by omega), if_neg hi]
  have h2 : i * k + j - k * k = (i - k) * k + j := by rw [Nat.sub_mul]; omega
  rw [h2, qj6 hj]
  congr 2
  omega
theorem qke {k q : Nat} (h : q < k * k) : crf k q = idf k q := if_pos h
/-- A kept row of the identity or of Cross. -/
def kpB (S k l : Nat) (v : Nat) : Bool := if v < k then !decide (bt S v = 1) else !decide (bt S (v + l) = 1)
theorem kp_low (S k l : Nat) : ∀ v, v ≤ k → cnt (kpB S k l) v + cn S v = v := by
 intro v
 induction v with
 | zero => intro _; rfl
 | succ v ih =>
  intro h
  have h1 := ih (by omega)
  have h2 := qeq S v
  rw [qau]
  by_cases hb : bt S v = 1
  ·rw [qcz (show kpB S k l v = false by unfold kpB; rw [if_pos (by omega)]; simp [hb])]; omega
  ·rw [qbn (show kpB S k l v = true by unfold kpB; rw [if_pos (by omega)]; simp [hb])]; omega
theorem kp_all (S k l : Nat) : ∀ u, cnt (kpB S k l) (k + u) + cn S k + cn S (k + l + u) = k + u + cn S (k + l) := by
 intro u
 induction u with
 | zero => have := kp_low S k l k (Nat.le_refl _); rw [Nat.add_zero, Nat.add_zero]; omega
 | succ u ih =>
  have h2 := qeq S (k + l + u)
  rw [← Nat.add_assoc, ← Nat.add_assoc, qau]
  by_cases hb : bt S (k + l + u) = 1
  ·rw [qcz (show kpB S k l (k + u) = false by unfold kpB; rw [if_neg (by omega), show k + u + l = k + l + u by omega]; simp [hb])]; omega
  ·rw [qbn (show kpB S k l (k + u) = true by unfold kpB; rw [if_neg (by omega), show k + u + l = k + l + u by omega]; simp [hb])]; omega
/-- At most m blocks are lost: what the other rows send to nothing is nothing. top: the first row of Cross that stands in the code. -/
theorem qfg {k l s m S top : Nat} {W x : Nat → Nat} (hk : k + l + m ≤ 64) (ht : k ≤ top) (htop : top ≤ k + 1) (hx : El x) (hm : cn S 64 ≤ m)
  (hz : ∀ i, i < k + l + m → ¬ bt S i = 1 → xs (fun j => fm (ptf k l s W (fun q => crf k (top * k + q)) (i * k + j)) (x j)) k = 0) : ∀ j, j < k → x j = 0 := by
 have hc : k ≤ cnt (kpB S k l) (k + m) := by
  have h1 := kp_all S k l m
  have h2 := qb7 (s := S) (show k ≤ k + l by omega)
  have h3 := qb7 (s := S) (show k + l + m ≤ 64 by omega)
  have h4 := qb7 (s := S) (show k + l ≤ k + l + m by omega)
  omega
 have sp : ∀ i, i < k → nth (kpB S k l) (k + m) i < k + m ∧ kpB S k l (nth (kpB S k l) (k + m) i) = true := fun i hi => by
  obtain ⟨a, b, _⟩ := qal (kpB S k l) (k + m) i (by omega)
  exact ⟨a, b⟩
 have inj : ∀ i j, i < k → j < k → nth (kpB S k l) (k + m) i = nth (kpB S k l) (k + m) j → i = j := fun i j hi hj e => by
  rcases (by omega : i < j ∨ i = j ∨ j < i) with h | h | h
  ·have := qig (P := kpB S k l) (n := k + m) h (by omega); omega
  ·exact h
  ·have := qig (P := kpB S k l) (n := k + m) h (by omega); omega
 refine crs_ker (n := k + m + 1) (q := fun i => if nth (kpB S k l) (k + m) i < k then nth (kpB S k l) (k + m) i else nth (kpB S k l) (k + m) i - k + top) (by omega) (by omega) (fun i hi => ?_) (fun i j hi hj e => ?_) hx (fun i hi => ?_)
 ·have := (sp i hi).1
  split <;> omega
 ·apply inj i j hi hj
  split at e <;> split at e <;> omega
 ·obtain ⟨h1, h2⟩ := sp i hi
  generalize nth (kpB S k l) (k + m) i = v at *
  unfold kpB at h2
  unfold dt
  by_cases hv : v < k
  ·rw [if_pos hv] at h2 ⊢
   rw [← hz v (by omega) (by simpa using h2)]
   refine qa7 (fun j hj => ?_)
   rw [ptf_id (by
    have : (v + 1) * k ≤ k * k := Nat.mul_le_mul_right k hv
    rw [Nat.add_mul, Nat.one_mul] at this
    omega), ← qkd (i := v) hj, qke (by
    have : (v + 1) * k ≤ k * k := Nat.mul_le_mul_right k hv
    rw [Nat.add_mul, Nat.one_mul] at this
    omega)]
  ·rw [if_neg hv] at h2 ⊢
   rw [← hz (v + l) (by omega) (by simpa using h2)]
   refine qa7 (fun j hj => ?_)
   obtain ⟨u, rfl⟩ : ∃ u, v = k + u := ⟨v - k, by omega⟩
   rw [show (k + u + l) * k + j = (k + l) * k + u * k + j by rw [show k + u + l = k + l + u by omega, Nat.add_mul (k + l) u k], ptf_rest, show k + u - k + top = top + u by omega, ← qkd (i := top + u) hj, Nat.add_mul top u k, Nat.add_assoc]
open Go.RowKit
theorem qi6 {w : World} {B n : Nat} {T : TypeId} {s : Nat} {v : Value} {xs : List Value} (h : w.ownsRow B T s v n xs) : w.ownsRow 0 T s v n xs := by
 refine ⟨h.1, ?_⟩
 rcases h.2 with h' | ⟨g, cap, cur, e, _, r⟩
 ·exact .inl h'
 ·exact .inr ⟨g, cap, cur, e, Nat.zero_le _, r⟩
/-- What is not lost. -/
def nlB (S : Nat) (i : Nat) : Bool := !decide (bt S i = 1)
theorem kept_rk {F : Nat → Nat} {R k N S : Nat} (hF : ∀ i, i < N → F i < 256) (RD : Rt R k N)
  (h : ∀ x, El x → (∀ i, i < R → ¬ bt S i = 1 → xs (fun j => fm (F (i * k + j)) (x j)) k = 0) → ∀ j, j < k → x j = 0) :
  Rk (m2 (pkf F (nth (nlB S) R) k) (cnt (nlB S) R) k) (cnt (nlB S) R) k := by
 have hz : ∀ i, i < cnt (nlB S) R → nth (nlB S) R i < R := fun i hi => (qal (nlB S) R i hi).1
 have hm : cnt (nlB S) R ≤ 64 := by
  have := qbw (nlB S) R
  have := RD.r64
  omega
 have RP : Rt (cnt (nlB S) R) k (cnt (nlB S) R * k) := ⟨hm, RD.c64, rfl⟩
 refine qj8 (qeo (fun q hq => qfa hF RD hz q hq) RP) (fun i j _ hj => qat _ hj) (fun x hx h0 => h x hx (fun i hi hb => ?_))
 have hP : nlB S i = true := by unfold nlB; simp [hb]
 have hu := cnt_lt hi hP
 have e := qbv hi hP
 rw [← h0 _ hu]
 unfold dt
 refine qa7 (fun j hj => ?_)
 rw [qbj _ hu hj, qe3 F _ k _ j hj, e]
theorem qhc (w : World) (R k N M d e S : Nat) (a b : Option Addr) (F : Nat → Nat) (ha : Mt w a N d F) (RD : Rt R k N) (hS : S < 18446744073709551616)
  (h : ∀ x, El x → (∀ i, i < R → ¬ bt S i = 1 → xs (fun j => fm (F (i * k + j)) (x j)) k = 0) → ∀ j, j < k → x j = 0) :
  Calls Tryz.prog 14 #[cv R k a N d b M e, .int .u64 (S : Int)] w fun e w' => e = .returned (.bool true) ∧ Below w.heap.size w w' := by
 obtain ⟨i0, hi0, hz0, hz1, hz2⟩ := info_parts ji64
 have hRk := kept_rk ha.sl.1 RD h
 have hR64 := RD.r64
 obtain ⟨wb, HW⟩ : ∃ wb, Hid (w.alloc (.cells #[.int .i64 (R : Int), .int .i64 (k : Int), .slice a N d, .slice b M e] 27) = wb) := ⟨_, rfl⟩
 have HB0 : Hid (Below w.heap.size w wb) := by rw [← HW.out]; exact qa1 _ _
 have HV : Hid (Vq wb w.heap.size 27 #[.int .i64 (R : Int), .int .i64 (k : Int), .slice a N d, .slice b M e]) := by rw [← HW.out]; exact Vq.new w _ _
 have HA : Hid (Mt wb a N d F) := ha.later HB0.out
 obtain ⟨P, HP⟩ : ∃ P : Nat → Bool, Hid (nlB S = P) := ⟨_, rfl⟩
 have HPb : Hid (∀ i, P i = !decide (bt S i = 1)) := fun i => by rw [← HP.out]; rfl
 rw [HP.out] at hRk
 obtain ⟨z, HZ⟩ : ∃ z : Nat → Nat, Hid (nth P R = z) := ⟨_, rfl⟩
 obtain ⟨m, HM⟩ : ∃ m, Hid (cnt P R = m) := ⟨_, rfl⟩
 rw [HZ.out, HM.out] at hRk
 have hm64 : m ≤ 64 := by have := qbw P R; have := HM.out; omega
 have HZc : Hid (∀ i, i < R → P i = true → z (cnt P i) = i) := fun i hi hp => by rw [← HZ.out]; exact qbv hi hp
 have HZl : Hid (∀ i, i < m → z i < R) := fun i hi => by rw [← HZ.out]; exact (qal P R i (by rw [HM.out]; exact hi)).1
 obtain ⟨Q, HQ⟩ : ∃ Q, Hid (m * k = Q) := ⟨_, rfl⟩
 have HRP : Hid (Rt m k Q) := ⟨hm64, RD.c64, HQ.out⟩
 have HPl : Hid (∀ q, q < Q → pkf F z k q < 256) := fun q hq => by rw [← HQ.out] at hq; exact qfa ha.sl.1 RD HZl.out q hq
 have HPk : Hid (∀ (w : World) (s : Option Addr) (d2 : Nat), Sl w a N F → Jl w s .i64 m (fun i => (z i : Int)) → Calls Tryz.prog 41 #[mv R k a N d, .slice s m d2] w fun e w' => ∃ s d, e = .returned (.tuple #[mv m k s Q d, .int .i64 0]) ∧ w'.ownsRow w.heap.size 5 1 (.slice s Q d) Q (row Q (pkf F z k)).toList ∧ Below w.heap.size w w') := fun w s d2 h1 h2 => qgk w R k N d m d2 Q a s F z h1 RD h2 HZl.out hm64 HQ
 have HRa : Hid (∀ (w : World) (s : Option Addr) (d2 : Nat), w.ownsRow 0 5 1 (.slice s Q d2) Q (row Q (pkf F z k)).toList → Calls Tryz.prog 42 #[mv m k s Q d2] w fun e w' => e = .returned (.tuple #[.int .i64 (k : Int), .int .i64 0]) ∧ Below w.heap.size w w') := fun w s d2 ho => (rrank_ok w m k Q d2 s (pkf F z k) (qdr ho HPl.out) (qcl ho) HRP.out).mono (fun e w' h => by
  obtain ⟨t, he, ht, hb⟩ := h
  obtain rfl : t = k := ht.unique hRk (SpEq.refl (qeo HPl.out HRP.out) _)
  exact ⟨he, hb⟩)
 clear h ha RD hRk HP HZ
 go_enter Tryz.func14, Tryz.ntmps14
 go_wp2
 rw [HW.out]
 go_loopw [5, 6] (fun vr vi wr => ∃ (i n d2 : Nat) (s : Option Addr), i ≤ R ∧ vi = .int .i64 (i : Int) ∧ Hid (cnt P i = n) ∧ n ≤ i ∧ vr = .slice s n d2 ∧ Jo wr wb.heap.size 3 .i64 (.slice s n d2) n z ∧ Below wb.heap.size wb wr) (fun _ vi _ => R - (intOf vi).toNat)
 case atStart => exact ⟨0, 0, 0, none, by omega, rfl, rfl, by omega, rfl, Jo.nil _ _ _ _ _, Below.refl _ _⟩
 case round =>
  obtain ⟨i, n, d2, s, hi, rfl, HN, hni, rfl, ho, hbr⟩ := hrel
  have HO : Hid (Jo wr wb.heap.size 3 .i64 (.slice s n d2) n z) := ho
  have HB : Hid (Below wb.heap.size wb wr) := hbr
  have hsz := hbr.size
  have v0 := (HV.out.later hbr).cell 0 _ rfl
  have v1 := (HV.out.later hbr).cell 1 _ rfl
  have v2 := (HV.out.later hbr).cell 2 _ rfl
  have HVr : Hid (Vq wr w.heap.size 27 #[.int .i64 (R : Int), .int .i64 (k : Int), .slice a N d, .slice b M e]) := HV.out.later hbr
  have HAr : Hid (Mt wr a N d F) := HA.out.later hbr
  clear ho hbr
  by_cases hlt : i < R
  ·by_cases hb : bt S i = 1
   ·have hdb : decide (bt S i = 1) = true := decide_eq_true hb
    have HN2 : Hid (cnt P (i + 1) = n) := by show _ = _; rw [qcz (show P i = false by rw [HPb.out i]; simp [hb])]; exact HN.out
    clear hb
    go_wp2_with (go_at_call 40; refine (qdd S i _ hS (by omega)).mono ?_; rintro e w' ⟨rfl, rfl⟩; rw [hdb])
    exact ⟨⟨i + 1, n, d2, s, by omega, by go_num, HN2, by omega, rfl, HO.out, HB.out⟩, by simp [intOf]; omega⟩
   ·have hdb : decide (bt S i = 1) = false := decide_eq_false hb
    have hPi : P i = true := by rw [HPb.out i]; simp [hb]
    have HN2 : Hid (cnt P (i + 1) = n + 1) := by show _ = _; rw [qbn hPi, HN.out]
    have HZi : Hid (z n = i) := by show _ = _; rw [← HN.out]; exact HZc.out i hlt hPi
    have hml : n + 1 ≤ maxLen := by unfold maxLen; omega
    clear hb hPi
    go_wp2_with (first
     | (go_at_call 40; refine (qdd S i _ hS (by omega)).mono ?_; rintro e w' ⟨rfl, rfl⟩; rw [hdb])
     | (at_builtin; refine wpList_append_own _ rfl _ _ 41 rfl wb.heap.size 3 i0 (.int .i64 0) 1 8 Tryz.underlying41 hi0 hz0 hz1 hz2 rfl (by decide) _ n _ rfl (World.ownsRow.alloc HO.out _) ⟨wr.heap.size, 0, none⟩ 1 1 [.int .i64 (i : Int)] rfl rfl (qdb _ _ _ _) (qdc _ _) hml (by omega) (by simp; omega) ?_; intro v' w6 hown' hgrow' _; have HO6 := HO.out.push HB.out.size hown' hgrow'; obtain ⟨s6, d6, e6, _⟩ := HO6.1.form; subst e6; clear hown' hgrow'))
    exact ⟨⟨i + 1, n + 1, d6, s6, by omega, by go_num, HN2, by omega, rfl, HO6.1.congr (fun t ht => by
     by_cases e : t = n
     ·subst e; rw [if_pos rfl, HZi.out]
     ·rw [if_neg e]), HB.out.trans HO6.2⟩, by simp [intOf]; omega⟩
  ·obtain rfl : i = R := by omega
   obtain rfl : n = m := by rw [← HN.out, HM.out]
   have HJ : Hid (Jl wr s .i64 n (fun t => (z t : Int))) := HO.out.jl
   go_wp2_with (first
    | (go_at_call 41; refine (HPk.out _ _ _ HAr.out.sl HJ.out).mono ?_; rintro e w2 ⟨s2, d3, rfl, ho2, hb2⟩; have HO2 : Hid ((w2.alloc (.cells #[.int .i64 (n : Int), .int .i64 (k : Int), .slice s2 Q d3] 24)).ownsRow 0 5 1 (.slice s2 Q d3) Q (row Q (pkf F z k)).toList) := (qi6 ho2).alloc _; have HV2 : Hid (Vq (w2.alloc (.cells #[.int .i64 (n : Int), .int .i64 (k : Int), .slice s2 Q d3] 24)) w2.heap.size 24 #[.int .i64 (n : Int), .int .i64 (k : Int), .slice s2 Q d3]) := Vq.new w2 _ _; have HB2 : Hid (Below wr.heap.size wr (w2.alloc (.cells #[.int .i64 (n : Int), .int .i64 (k : Int), .slice s2 Q d3] 24))) := qa2 hb2 (qa1 _ _); have p0 := HV2.out.cell 0 _ rfl; have p1 := HV2.out.cell 1 _ rfl; have p2 := HV2.out.cell 2 _ rfl; clear ho2 hb2)
    | (go_at_call 42; refine (HRa.out _ _ _ HO2.out).mono ?_; rintro e w3 ⟨rfl, hb3⟩; have HB3 : Hid (Below wr.heap.size wr w3) := qa2 HB2.out hb3; have k1 := (HVr.out.later HB3.out).cell 1 _ rfl; clear hb3))
   go_ret
   exact ⟨by simp, qa2 (qa2 HB0.out HB.out) HB3.out⟩
open Go.RowKit
theorem qkf (a b : Nat) : ∀ y, cn (a ||| 2 ^ b) y ≤ cn a y + (if b < y then 1 else 0) := by
 intro y
 induction y with
 | zero => exact Nat.zero_le _
 | succ y ih =>
  rw [qau, qau]
  have hb : bt (a ||| 2 ^ b) y ≤ bt a y + (if b = y then 1 else 0) := by
   have h1 := qeq (a ||| 2 ^ b) y
   by_cases e : b = y
   ·rw [if_pos e]; omega
   ·rw [if_neg e]
    have h2 := qeq a y
    have h3 : bt (a ||| 2 ^ b) y = 1 → bt a y = 1 := fun h => by
     rw [qdy, Nat.testBit_or, Nat.testBit_two_pow] at h
     rw [qdy]
     simpa [e] using h
    omega
  by_cases h1 : b < y
  ·rw [if_pos h1] at ih; rw [if_neg (by omega)] at hb; rw [if_pos (by omega)]; omega
  ·rw [if_neg h1] at ih
   by_cases h2 : b = y
   ·rw [if_pos h2] at hb; rw [if_pos (by omega)]; omega
   ·rw [if_neg h2] at hb; rw [if_neg (by omega)]; omega
theorem cn_ofs (q : Nat → Nat) : ∀ n, cn (ofs q n) 64 ≤ n := by
 intro n
 induction n with
 | zero => rw [show ofs q 0 = 0 from rfl, qfu]; exact Nat.le_refl _
 | succ n ih =>
  have := qkf (ofs q n) (q n) 64
  show cn (ofs q n ||| 2 ^ q n) 64 ≤ n + 1
  split at this <;> omega
theorem qkg (w : World) (k l m : Nat) (hk8 : k < 256) (hl8 : l < 256) (hm8 : m < 256) (E : Int) (hE : PfP k l m E) (h0 : ¬ E = 0) (a1 : Option Addr) (len1 cap1 : Nat) :
  Calls Tryz.prog 4 #[.agg #[.int .u8 (k : Int), .int .u8 (l : Int), .int .u8 (m : Int)], .slice a1 len1 cap1] w fun e w' => e = .returned (.bool true) ∧ Below w.heap.size w w' := by
 have wk : IntKind.i64.wrap (k : Int) = (k : Int) := by rw [IntKind.wrap_i64]; omega
 have wl : IntKind.i64.wrap (l : Int) = (l : Int) := by rw [IntKind.wrap_i64]; omega
 have wm : IntKind.i64.wrap (m : Int) = (m : Int) := by rw [IntKind.wrap_i64]; omega
 have HLo : Hid (∀ w, Calls Tryz.prog 11 #[.int .i64 (k : Int), .int .i64 (l : Int), .int .i64 (m : Int)] w fun e w' => CAns w w' e 0 0 0 (fun _ => 0) 0 (fun _ => 0) E) := fun w => qg4 w k l m E (by omega) (by omega) (by omega) hE h0
 have HPy : Hid (∀ w, Calls Tryz.prog 12 #[.int .i64 (k : Int), .int .i64 (l : Int), .int .i64 (m : Int)] w fun e w' => CAns w w' e 0 0 0 (fun _ => 0) 0 (fun _ => 0) E) := fun w => qk6 w k l m E (by omega) (by omega) (by omega) hE h0
 have gE : (E != 0) = true := by simpa using h0
 have gE2 : (E == 0) = false := by simpa using h0
 clear hE h0
 go_enter Tryz.func4, Tryz.ntmps4
 go_wp2
 go_region
 go_wp2_with (first
  | (go_at_call 11; refine (HLo.out _).mono ?_; rintro e w1 ⟨s1, d1, t1, e1, rfl, hm1, hj1, hb1⟩; have HB1 : Hid (Below w.heap.size w (w1.alloc (.cells #[.int .i64 0, .int .i64 0, .slice s1 0 d1, .slice t1 0 e1] 27))) := qa2 (qa2 (qa2 (qa1 _ _) (qb1 _)) hb1) (qa1 _ _); clear hm1 hj1 hb1)
  | (go_at_call 12; refine (HPy.out _).mono ?_; rintro e w2 ⟨s2, d2, t2, e2, rfl, hm2, hj2, hb2⟩; have HB2 : Hid (Below w.heap.size w (w2.alloc (.cells #[.int .i64 0, .int .i64 0, .slice s2 0 d2, .slice t2 0 e2] 27))) := qa2 (qa2 HB1.out hb2) (qa1 _ _); clear hm2 hj2 hb2)
  | (go_at_call 7; refine (qh9 _).mono ?_; rintro e w3 ⟨rfl, hb3⟩; have HB3 : Hid (Below w.heap.size w w3) := qa2 HB2.out hb3; clear hb3))
 go_ret
 exact ⟨rfl, HB3.out⟩
theorem qkh (w : World) (k l m s : Nat) (hk8 : k < 256) (hl8 : l < 256) (hm8 : m < 256) (h1 : 1 ≤ k) (h2 : 1 ≤ l) (h3 : 1 ≤ s) (h4 : l * s = k) (h5 : k + l + m ≤ 64) (a1 : Option Addr) (len1 cap1 : Nat) (hlen : len1 < l + m) :
  Calls Tryz.prog 4 #[.agg #[.int .u8 (k : Int), .int .u8 (l : Int), .int .u8 (m : Int)], .slice a1 len1 cap1] w fun e w' => e = .returned (.bool true) ∧ Below w.heap.size w w' := by
 have wk : IntKind.i64.wrap (k : Int) = (k : Int) := by rw [IntKind.wrap_i64]; omega
 have wl : IntKind.i64.wrap (l : Int) = (l : Int) := by rw [IntKind.wrap_i64]; omega
 have wm : IntKind.i64.wrap (m : Int) = (m : Int) := by rw [IntKind.wrap_i64]; omega
 obtain ⟨R, HR⟩ : ∃ R, Hid (k + l + m = R) := ⟨_, rfl⟩
 obtain ⟨N, HN⟩ : ∃ N, Hid (R * k = N) := ⟨_, rfl⟩
 have hrr := HR.out
 obtain ⟨F, HF⟩ : ∃ F : Nat → Nat, Hid (ptf k l s (fun _ => 1) (fun q => crf k (k * k + q)) = F) := ⟨_, rfl⟩
 obtain ⟨H, HH⟩ : ∃ H : Nat → Nat, Hid (ptf k l s (fun j => crf k (k * k + j)) (fun q => crf k ((k + 1) * k + q)) = H) := ⟨_, rfl⟩
 have HLo : Hid (∀ w, Calls Tryz.prog 11 #[.int .i64 (k : Int), .int .i64 (l : Int), .int .i64 (m : Int)] w fun e w' => CAns w w' e R k N F l (gpf k s) 0) := fun w => by rw [← HF.out]; exact qcc w k l s m R N h1 h2 h3 (qc7 h4) HR (by omega) HN
 have HPy : Hid (∀ w, Calls Tryz.prog 12 #[.int .i64 (k : Int), .int .i64 (l : Int), .int .i64 (m : Int)] w fun e w' => CAns w w' e R k N H l (gpf k s) 0) := fun w => by rw [← HH.out]; exact qex w k l s m R N h1 h2 h3 (qc7 h4) HR (by omega) HN
 obtain ⟨lm, HLM⟩ : ∃ lm, Hid (l + m = lm) := ⟨_, rfl⟩
 have hlm := HLM.out
 have w4 : IntKind.i64.wrap ((l : Int) + (m : Int)) = (lm : Int) := by rw [IntKind.wrap_i64]; omega
 have g1 : decide ((len1 : Int) < (lm : Int)) = true := by simp; omega
 have g2 : decide (len1 < lm) = true := by simp; omega
 clear h1 h2 h3 h4 h5 hrr HF HH hlen hlm
 go_enter Tryz.func4, Tryz.ntmps4
 go_wp2
 go_region
 go_wp2_with (first
  | (go_at_call 11; refine (HLo.out _).mono ?_; rintro e w1 ⟨s1, d1, t1, e1, rfl, hm1, hj1, hb1⟩; have HB1 : Hid (Below w.heap.size w (w1.alloc (.cells #[.int .i64 (R : Int), .int .i64 (k : Int), .slice s1 N d1, .slice t1 l e1] 27))) := qa2 (qa2 (qa2 (qa1 _ _) (qb1 _)) hb1) (qa1 _ _); clear hm1 hj1 hb1)
  | (go_at_call 12; refine (HPy.out _).mono ?_; rintro e w2 ⟨s2, d2, t2, e2, rfl, hm2, hj2, hb2⟩; have HB2 : Hid (Below w.heap.size w (w2.alloc (.cells #[.int .i64 (R : Int), .int .i64 (k : Int), .slice s2 N d2, .slice t2 l e2] 27))) := qa2 (qa2 HB1.out hb2) (qa1 _ _); clear hm2 hj2 hb2)
  | (go_at_call 7; refine (qh9 _).mono ?_; rintro e w3 ⟨rfl, hb3⟩; have HB3 : Hid (Below w.heap.size w w3) := qa2 HB2.out hb3; clear hb3))
 go_ret
 exact ⟨rfl, HB3.out⟩
theorem qg6 (w : World) (k l m s : Nat) (hk8 : k < 256) (hl8 : l < 256) (hm8 : m < 256) (h1 : 1 ≤ k) (h2 : 1 ≤ l) (h3 : 1 ≤ s) (h4 : l * s = k) (h5 : k + l + m ≤ 64) (a1 : Option Addr) (len1 cap1 : Nat) (hlen : ¬ len1 < l + m) (hk : 12 < k) :
  Calls Tryz.prog 4 #[.agg #[.int .u8 (k : Int), .int .u8 (l : Int), .int .u8 (m : Int)], .slice a1 len1 cap1] w fun e w' => e = .returned (.bool true) ∧ Below w.heap.size w w' := by
 have wk : IntKind.i64.wrap (k : Int) = (k : Int) := by rw [IntKind.wrap_i64]; omega
 have wl : IntKind.i64.wrap (l : Int) = (l : Int) := by rw [IntKind.wrap_i64]; omega
 have wm : IntKind.i64.wrap (m : Int) = (m : Int) := by rw [IntKind.wrap_i64]; omega
 obtain ⟨R, HR⟩ : ∃ R, Hid (k + l + m = R) := ⟨_, rfl⟩
 obtain ⟨N, HN⟩ : ∃ N, Hid (R * k = N) := ⟨_, rfl⟩
 have hrr := HR.out
 obtain ⟨F, HF⟩ : ∃ F : Nat → Nat, Hid (ptf k l s (fun _ => 1) (fun q => crf k (k * k + q)) = F) := ⟨_, rfl⟩
 obtain ⟨H, HH⟩ : ∃ H : Nat → Nat, Hid (ptf k l s (fun j => crf k (k * k + j)) (fun q => crf k ((k + 1) * k + q)) = H) := ⟨_, rfl⟩
 have HLo : Hid (∀ w, Calls Tryz.prog 11 #[.int .i64 (k : Int), .int .i64 (l : Int), .int .i64 (m : Int)] w fun e w' => CAns w w' e R k N F l (gpf k s) 0) := fun w => by rw [← HF.out]; exact qcc w k l s m R N h1 h2 h3 (qc7 h4) HR (by omega) HN
 have HPy : Hid (∀ w, Calls Tryz.prog 12 #[.int .i64 (k : Int), .int .i64 (l : Int), .int .i64 (m : Int)] w fun e w' => CAns w w' e R k N H l (gpf k s) 0) := fun w => by rw [← HH.out]; exact qex w k l s m R N h1 h2 h3 (qc7 h4) HR (by omega) HN
 obtain ⟨lm, HLM⟩ : ∃ lm, Hid (l + m = lm) := ⟨_, rfl⟩
 have hlm := HLM.out
 have w4 : IntKind.i64.wrap ((l : Int) + (m : Int)) = (lm : Int) := by rw [IntKind.wrap_i64]; omega
 have g1 : decide ((len1 : Int) < (lm : Int)) = false := by simp; omega
 have g2 : decide (len1 < lm) = false := by simp; omega
 have g3 : decide ((12 : Int) < (k : Int)) = true := by simp; omega
 have g4 : decide (12 < k) = true := by simpa using hk
 clear h1 h2 h3 h4 h5 hrr HF HH hlen hlm hk
 go_enter Tryz.func4, Tryz.ntmps4
 go_wp2
 go_region
 go_wp2_with (first
  | (go_at_call 11; refine (HLo.out _).mono ?_; rintro e w1 ⟨s1, d1, t1, e1, rfl, hm1, hj1, hb1⟩; have HB1 : Hid (Below w.heap.size w (w1.alloc (.cells #[.int .i64 (R : Int), .int .i64 (k : Int), .slice s1 N d1, .slice t1 l e1] 27))) := qa2 (qa2 (qa2 (qa1 _ _) (qb1 _)) hb1) (qa1 _ _); clear hm1 hj1 hb1)
  | (go_at_call 12; refine (HPy.out _).mono ?_; rintro e w2 ⟨s2, d2, t2, e2, rfl, hm2, hj2, hb2⟩; have HB2 : Hid (Below w.heap.size w (w2.alloc (.cells #[.int .i64 (R : Int), .int .i64 (k : Int), .slice s2 N d2, .slice t2 l e2] 27))) := qa2 (qa2 HB1.out hb2) (qa1 _ _); clear hm2 hj2 hb2)
  | (go_at_call 7; refine (qh9 _).mono ?_; rintro e w3 ⟨rfl, hb3⟩; have HB3 : Hid (Below w.heap.size w w3) := qa2 HB2.out hb3; clear hb3))
 go_ret
 exact ⟨rfl, HB3.out⟩
end Go.Proofs.YtnfbbddoaeofgabGreat
