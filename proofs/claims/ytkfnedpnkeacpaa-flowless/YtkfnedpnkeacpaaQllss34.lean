/-
  Stage 21: Cost of both sides (made by gen34a.py).
-/
import Derived.Test.YtkfnedpnkeacpaaQllss00
import Derived.Test.YtkfnedpnkeacpaaQllss21
import Derived.Lib.MinMax
set_option maxRecDepth 100000
set_option maxHeartbeats 16000000
namespace Go.Proofs.Ytkfnedpnkeacpaa
open Go.RowKit
def csm (nt : Nat → Nat) : Nat → Nat
 | 0 => 0
 | i + 1 => csm nt i + (nt i - 1)
def cp1 (g : Nat → Nat) : Nat → Nat
 | 0 => 0
 | j + 1 => cp1 g j + (if g j = 1 then 0 else 1)
def cpr (nt : Nat → Nat) (fc : Nat → Nat → Nat) : Nat → Nat
 | 0 => 0
 | i + 1 => cpr nt fc i + cp1 (fc i) (nt i)
theorem cp1_le (g : Nat → Nat) : ∀ j, cp1 g j ≤ j := by
 intro j
 induction j with
 | zero => exact Nat.le_refl _
 | succ j ih =>
  show cp1 g j + (if g j = 1 then 0 else 1) ≤ j + 1
  split <;> omega
theorem csm_le (nt : Nat → Nat) (B : Nat) : ∀ i, (∀ k, k < i → nt k ≤ B) → csm nt i ≤ i * B := by
 intro i
 induction i with
 | zero => intro _; exact Nat.le_of_eq (Nat.zero_mul B).symm
 | succ i ih =>
  intro h
  have h1 := ih (fun k hk => h k (by omega))
  have h2 := h i (by omega)
  show csm nt i + (nt i - 1) ≤ _
  rw [Nat.add_mul, Nat.one_mul]
  omega
theorem cpr_le (nt : Nat → Nat) (fc : Nat → Nat → Nat) (B : Nat) : ∀ i, (∀ k, k < i → nt k ≤ B) → cpr nt fc i ≤ i * B := by
 intro i
 induction i with
 | zero => intro _; exact Nat.le_of_eq (Nat.zero_mul B).symm
 | succ i ih =>
  intro h
  have h1 := ih (fun k hk => h k (by omega))
  have h2 := h i (by omega)
  have h3 := cp1_le (fc i) (nt i)
  show cpr nt fc i + cp1 (fc i) (nt i) ≤ _
  rw [Nat.add_mul, Nat.one_mul]
  omega
theorem qbh (w : World) (a b c : Option Addr) (p q r : Nat) (F : Fl) (h : FlR w a b c F) (hm : MayP F) :
  Calls Try.prog 23 #[flv a F.ni p b F.nn q c F.no r] w fun e w' => e = .returned (.tuple #[.int .i64 (csm F.nt F.nn : Nat), .int .i64 (cpr F.nt F.fc F.nn : Nat), .int .i64 0]) ∧ Below w.heap.size w w' := by
 have HN := qa0 h.nodes
 have hn4 := hm.n4
 have HMay := qa0 (fun (w2 : World) (hb : Below w.heap.size w w2) => qa4 (qav w2 a b c p q r F (h.later hb)) hm)
 obtain ⟨ni, inp, nn, nt, of, fc, no, out⟩ := F
 dsimp only at HN hn4 HMay ⊢
 have HBnd : Hid (∀ k, k < nn → nt k ≤ 140737488351232) := fun k hk => (HN.out k hk).1
 have HB0 := qa0 (jlow w (.cells #[.slice a ni p, .slice b nn q, .slice c no r] 28))
 have HV0 := qa0 (Vf.new w 28 #[.slice a ni p, .slice b nn q, .slice c no r])
 obtain ⟨SF, HSF⟩ : ∃ x, Hid (csm nt nn = x) := ⟨_, rfl⟩
 obtain ⟨PF, HPF⟩ : ∃ x, Hid (cpr nt fc nn = x) := ⟨_, rfl⟩
 rw [HSF.out, HPF.out]
 clear h hm
 go_enter Try.func23, Try.ntmps23
 go_wp2_with (go_at_call 34; refine (HMay.out _ HB0.out).mono ?_; rintro e w1 ⟨rfl, hb1⟩; have HB1 := qa0 (jtwo HB0.out hb1); have HV1 := qa0 (HV0.out.later hb1); have x1 := HV1.out.cell 1 (.slice b nn q) rfl; clear hb1)
 go_loopw [2, 3, 15] (fun vs vp vi wr => ∃ i : Nat, i ≤ nn ∧ vi = .int .i64 (i : Int) ∧ vs = .int .i64 (csm nt i : Nat) ∧ vp = .int .i64 (cpr nt fc i : Nat) ∧ Vf wr w.heap.size 28 #[.slice a ni p, .slice b nn q, .slice c no r] ∧ Below w.heap.size w wr) (fun _ _ vi _ => nn - (intOf vi).toNat)
 case atStart => exact ⟨0, by omega, rfl, rfl, rfl, HV1.out, HB1.out⟩
 case round =>
  clear HB0 HV0 HV1 HB1 x1
  obtain ⟨i, hie, rfl, rfl, rfl, hv, hb⟩ := hrel
  have HV := qa0 hv
  have HB := qa0 hb
  have x1 := hv.cell 1 (.slice b nn q) rfl
  obtain ⟨s, HS⟩ : ∃ x, Hid (csm nt i = x) := ⟨_, rfl⟩
  obtain ⟨u, HU⟩ : ∃ x, Hid (cpr nt fc i = x) := ⟨_, rfl⟩
  have hs : s ≤ i * 140737488351232 := by rw [← HS.out]; exact csm_le nt _ i (fun k hk => HBnd.out k (by omega))
  have hu : u ≤ i * 140737488351232 := by rw [← HU.out]; exact cpr_le nt fc _ i (fun k hk => HBnd.out k (by omega))
  rw [HS.out, HU.out]
  clear hv
  by_cases hlt : i < nn
  ·obtain ⟨hnt, x, o, t, d, rfl, hc, htm⟩ := HN.out i hlt
   have HT := qa0 htm
   have HCl := qa0 hc
   obtain ⟨n, HK⟩ : ∃ k, Hid (nt i = k) := ⟨_, rfl⟩
   rw [HK.out] at hnt
   obtain ⟨n1, HK1⟩ : ∃ k, Hid (n - 1 = k) := ⟨_, rfl⟩
   have hn1 : n1 ≤ 140737488351232 := by rw [← HK1.out]; omega
   have p0 : (0 : Int) ≤ (i : Int) := by omega
   have p1 : (i : Int) < (nn : Int) := by omega
   have w1' : IntKind.i64.wrap ((n : Int) - 1) = (n : Int) - 1 := by rw [IntKind.wrap_i64]; omega
   have mx1 : max ((n : Int) - 1) 0 = (n1 : Int) := by have := HK1.out; omega
   have mx2 : max 0 ((n : Int) - 1) = (n1 : Int) := by have := HK1.out; omega
   have w2' : IntKind.i64.wrap ((s : Int) + (n1 : Int)) = (s : Int) + (n1 : Int) := by rw [IntKind.wrap_i64]; omega
   obtain ⟨s2, HS2⟩ : ∃ x, Hid (s + n1 = x) := ⟨_, rfl⟩
   have e2 : (s : Int) + (n1 : Int) = (s2 : Int) := by rw [← HS2.out]; simp
   rw [e2] at w2'
   have HSx : Hid (csm nt (i + 1) = s2) := by show csm nt i + (nt i - 1) = _; rw [HS.out, HK.out, HK1.out, HS2.out]
   have y1 : wr.cell? ⟨x, o + i, none⟩ = some (.slice t n d) := by rw [hb.cell (p := ⟨x, _, none⟩) (qa2 hc), hc, HK.out]
   clear htm hb hc hs
   go_wp2
   go_loopw [3, 27] (fun vp vj w4 => ∃ l : Nat, l ≤ n ∧ vj = .int .i64 (l : Int) ∧ vp = .int .i64 ((u + cp1 (fc i) l : Nat) : Int) ∧ Vf w4 w.heap.size 28 #[.slice a ni p, .slice (some ⟨x, o, none⟩) nn q, .slice c no r] ∧ Below w.heap.size w w4) (fun _ vj _ => n - (intOf vj).toNat)
   case atStart => exact ⟨0, by omega, rfl, by rw [show cp1 (fc i) 0 = 0 from rfl, Nat.add_zero], HV.out, HB.out⟩
   case round =>
    clear HV HB x1 y1
    obtain ⟨l, hle, rfl, rfl, hv, hb⟩ := hrel
    have HV := qa0 hv
    have HB := qa0 hb
    have x1 := hv.cell 1 (.slice (some ⟨x, o, none⟩) nn q) rfl
    have y1 : wr.cell? ⟨x, o + i, none⟩ = some (.slice t n d) := by rw [hb.cell (p := ⟨x, _, none⟩) (qa2 HCl.out), HCl.out, HK.out]
    have hcl := cp1_le (fc i) l
    obtain ⟨v, HVv⟩ : ∃ x, Hid (cp1 (fc i) l = x) := ⟨_, rfl⟩
    rw [HVv.out] at hcl
    rw [HVv.out]
    obtain ⟨uv, HUV⟩ : ∃ x, Hid (u + v = x) := ⟨_, rfl⟩
    have huv : uv ≤ i * 140737488351232 + 140737488351232 := by rw [← HUV.out]; omega
    rw [HUV.out]
    clear hv
    by_cases hlt2 : l < n
    ·obtain ⟨hg, xx, oo, rfl, t0, t1⟩ := (HT.out.later hb) l (by rw [HK.out]; exact hlt2)
     obtain ⟨z, HZ⟩ : ∃ z, Hid (fc i l = z) := ⟨_, rfl⟩
     obtain ⟨yy, HYY⟩ : ∃ z, Hid (of i l = z) := ⟨_, rfl⟩
     rw [HZ.out] at t1 hg
     rw [HYY.out] at t0
     have r0 : (0 : Int) ≤ (l : Int) := by omega
     have r1 : (l : Int) < (n : Int) := by omega
     have w3' : IntKind.i64.wrap ((uv : Int) + 1) = (uv : Int) + 1 := by rw [IntKind.wrap_i64]; omega
     clear hb
     by_cases hz : z = 1
     ·have HZ1 := qa0 hz
      have g1 : ((z : Int) != 1) = false := by simp; omega
      clear hz
      go_wp2
      exact ⟨⟨l + 1, by omega, by go_num, by rw [← HUV.out, ← HVv.out]; show _ = Value.int .i64 ((u + (cp1 (fc i) l + (if fc i l = 1 then 0 else 1)) : Nat) : Int); rw [HZ.out, HZ1.out, if_pos rfl, Nat.add_zero], HV.out.later (jlow _ _), jtwo HB.out (jlow _ _)⟩, by simp [intOf]; omega⟩
     ·have HZ1 := qa0 hz
      have g1 : ((z : Int) != 1) = true := by simp; omega
      clear hz
      go_wp2
      exact ⟨⟨l + 1, by omega, by go_num, by rw [show (uv : Int) + 1 = ((uv + 1 : Nat) : Int) by simp, ← HUV.out, ← HVv.out]; show _ = Value.int .i64 ((u + (cp1 (fc i) l + (if fc i l = 1 then 0 else 1)) : Nat) : Int); rw [HZ.out, if_neg HZ1.out, Nat.add_assoc], HV.out.later (jlow _ _), jtwo HB.out (jlow _ _)⟩, by simp [intOf]; omega⟩
    ·obtain rfl : l = n := by omega
     clear hb
     go_wp2
     exact ⟨⟨i + 1, by omega, by go_num, by rw [HSx.out], by show _ = Value.int .i64 ((cpr nt fc i + cp1 (fc i) (nt i) : Nat) : Int); rw [HU.out, HK.out, HVv.out, HUV.out], HV.out, HB.out⟩, by simp [intOf]; omega⟩
  ·obtain rfl : i = nn := by omega
   obtain rfl : s = SF := by rw [← HS.out, HSF.out]
   obtain rfl : u = PF := by rw [← HU.out, HPF.out]
   clear hb
   go_wp2
   go_ret3
   exact ⟨rfl, HB.out⟩
end Go.Proofs.Ytkfnedpnkeacpaa
