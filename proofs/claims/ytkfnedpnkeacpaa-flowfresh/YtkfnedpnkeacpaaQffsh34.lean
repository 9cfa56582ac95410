/-
  Stage 21: flow.Run.
-/
import Derived.Test.YtkfnedpnkeacpaaQffsh00
import Derived.Test.YtkfnedpnkeacpaaQffsh33
import Derived.Test.YtkfnedpnkeacpaaQffsh28
set_option maxRecDepth 100000
set_option maxHeartbeats 16000000
namespace Go.Proofs.Ytkfnedpnkeacpaa
open Go.RowKit
/-- Blocks that are handed in. -/
structure Bw (w : World) (b : Option Addr) (n : Nat) (A : Nat → Option Addr) (L C : Nat → Nat) (f : Nat → Nat → Nat) : Prop where
 rl : Rl w b n A L C f
 room : ∀ i, i < n → L i ≤ C i
 len : ∀ i, i < n → L i ≤ 140737488351232
theorem Bw.later {w w' : World} {b : Option Addr} {n : Nat} {A : Nat → Option Addr} {L C : Nat → Nat} {f : Nat → Nat → Nat} (h : Bw w b n A L C f) (hb : Below w.heap.size w w') : Bw w' b n A L C f := ⟨h.rl.later hb, h.room, h.len⟩
/-- All are of one length. -/
def LenP (n : Nat) (L : Nat → Nat) : Prop := ∀ i, i < n → L i = L 0
/-- The length. -/
def len1 (n : Nat) (L : Nat → Nat) : Nat := if n = 0 then 0 else L 0
theorem LenP.one {n : Nat} {L : Nat → Nat} (h : LenP n L) : ∀ i, i < n → L i = len1 n L := fun i hi => by
 unfold len1
 rw [if_neg (by omega)]
 exact h i hi
theorem Bw.bl {w : World} {b : Option Addr} {n : Nat} {A : Nat → Option Addr} {L C : Nat → Nat} {f : Nat → Nat → Nat} (h : Bw w b n A L C f) (hl : LenP n L) : Bl w b n (len1 n L) A C f :=
 ⟨⟨fun i hi => by rw [← hl.one i hi]; exact h.rl.at' i hi, fun i hi => by rw [← hl.one i hi]; exact h.rl.sl i hi, fun i hi e => by rw [← hl.one i hi]; exact h.rl.nil i hi e⟩, fun i hi => by rw [← hl.one i hi]; exact h.room i hi⟩
/-- What can be run. -/
def RunP (F : Fl) (n : Nat) (L : Nat → Nat) : Prop := (∀ i, i < F.ni → F.inp i < (n : Int)) ∧ LenP n L
theorem en_all {F : Fl} (hM : MayP F) {n : Int} (h : EnP F n) : ∀ i, i < F.ni → F.inp i < n := fun i hi => by
 rcases h with h | h
 ·omega
 ·by_cases e : i = F.ni - 1
  ·rw [e]; exact h
  ·have := hM.inp.lt (F.ni - 1) i (by omega) (by omega)
   omega
theorem en_of {F : Fl} {n : Int} (h : ∀ i, i < F.ni → F.inp i < n) : EnP F n := by
 by_cases e : F.ni = 0
 ·exact .inl e
 ·exact .inr (h _ (by omega))
/-- The outs are answered, and no error. -/
def OuT (w0 w : World) (n T : Nat) (x : Nat → Nat → Nat) (e : Ending) : Prop := ∃ (g : Nat) (B : Nat → Nat), e = .returned (.tuple #[.slice (some ⟨g, 0, none⟩) n n, .int .i64 0]) ∧ w0.heap.size ≤ g ∧ Ou w w0.heap.size g n n T B x
theorem Ou.mono {w : World} {base base' g n k T : Nat} {B : Nat → Nat} {x : Nat → Nat → Nat} (h : Ou w base g n k T B x) (hb : base' ≤ base) : Ou w base' g n k T B x :=
 ⟨h.ga, h.row, fun o ho => ⟨by have := (h.ne o ho).1; omega, (h.ne o ho).2⟩, h.inj⟩
theorem qcy (w : World) (a b c bl : Option Addr) (p q r nb kb : Nat) (F : Fl) (h : FlR w a b c F) (hM : ¬ MayP F) :
  Calls Try.prog 15 #[flv a F.ni p b F.nn q c F.no r, .slice bl nb kb] w fun e w' => e = .returned (.tuple #[.slice none 0 0, .int .i64 2]) ∧ Below w.heap.size w w' := by
 have HB0 := qa0 (jlow w (.cells #[.slice a F.ni p, .slice b F.nn q, .slice c F.no r] 28))
 have HV0 := qa0 (Vf.new w 28 #[.slice a F.ni p, .slice b F.nn q, .slice c F.no r])
 have x0 := HV0.out.cell 0 (.slice a F.ni p) rfl
 have x1 := HV0.out.cell 1 (.slice b F.nn q) rfl
 have x2 := HV0.out.cell 2 (.slice c F.no r) rfl
 have HMy := qa0 (fun w2 (hb : Below w.heap.size w w2) => qb1 (qbd w2 a b c p q r F (h.later hb)) hM)
 clear h hM
 go_enter Try.func15, Try.ntmps15
 go_wp2_with (go_at_call 34; refine (HMy.out _ HB0.out).mono ?_; rintro e w1 ⟨rfl, hb1⟩; have HB1 := qa0 (jtwo HB0.out hb1); clear hb1)
 go_ret2
 exact ⟨rfl, HB1.out⟩
theorem qbj (w : World) (a b c bl : Option Addr) (p q r nb kb : Nat) (F : Fl) (A : Nat → Option Addr) (L C : Nat → Nat) (bt : Nat → Nat → Nat) (h : FlR w a b c F) (hM : MayP F) (hB : Bw w bl nb A L C bt) (hnb : nb ≤ 140737488351232) :
  Calls Try.prog 15 #[flv a F.ni p b F.nn q c F.no r, .slice bl nb kb] w fun e w' => ((RunP F nb L ∧ OuT w w' F.no (len1 nb L) (fun o i => vlx F bt (F.out o).toNat i) e) ∨ (¬ RunP F nb L ∧ e = .returned (.tuple #[.slice none 0 0, .int .i64 3]))) ∧ Below w.heap.size w w' := by
 have HB0 := qa0 (jlow w (.cells #[.slice a F.ni p, .slice b F.nn q, .slice c F.no r] 28))
 have HV0 := qa0 (Vf.new w 28 #[.slice a F.ni p, .slice b F.nn q, .slice c F.no r])
 have HMy := qa0 (fun w2 (hb : Below w.heap.size w w2) => qam (qbd w2 a b c p q r F (h.later hb)) hM)
 have HEn := qa0 (fun w2 (hb : Below w.heap.size w w2) => qd9 w2 a b c p q r F (h.later hb) (nb : Int))
 have HOu := qa0 (fun w2 (hb : Below w.heap.size w w2) (hI : ∀ i, i < F.ni → F.inp i < (nb : Int)) (hl : LenP nb L) => qdb w2 a b c bl p q r nb kb (len1 nb L) F A C bt (h.later hb) hM ((hB.bl hl).later hb) hI (by unfold len1; split; omega; exact hB.len 0 (by omega)))
 obtain ⟨Q, HQ⟩ : ∃ Q : World → Ending → Prop, Hid ((fun w2 e => ((RunP F nb L ∧ OuT w w2 F.no (len1 nb L) (fun o i => vlx F bt (F.out o).toNat i) e) ∨ (¬ RunP F nb L ∧ e = .returned (.tuple #[.slice none 0 0, .int .i64 3])))) = Q) := ⟨_, rfl⟩
 have HQ1 : Hid (∀ w2, ¬ RunP F nb L → Q w2 (.returned (.tuple #[.slice none 0 0, .int .i64 3]))) := fun w2 h1 => by rw [← HQ.out]; exact .inr ⟨h1, rfl⟩
 have HQ2 : Hid (∀ w1 w2 e, RunP F nb L → Below w.heap.size w w1 → OuA w1 w2 F.no (len1 nb L) (fun o i => vlx F bt (F.out o).toNat i) e → ∃ v, e = .returned v ∧ Q w2 (.returned (.tuple #[v, .int .i64 0]))) := fun w1 w2 e h1 hb h2 => by
  rw [← HQ.out]
  obtain ⟨g, B, rfl, hg, ho⟩ := h2
  exact ⟨_, rfl, .inl ⟨h1, g, B, rfl, Nat.le_trans hb.size hg, ho.mono hb.size⟩⟩
 show Calls _ _ _ _ fun e w' => (fun w2 e => ((RunP F nb L ∧ OuT w w2 F.no (len1 nb L) (fun o i => vlx F bt (F.out o).toNat i) e) ∨ (¬ RunP F nb L ∧ e = .returned (.tuple #[.slice none 0 0, .int .i64 3])))) w' e ∧ _
 rw [HQ.out]
 have HAll := qa0 (fun hh => en_all hM (n := (nb : Int)) hh)
 have HBw := qa0 hB
 obtain ⟨ni, HNi1⟩ : ∃ x, Hid (F.ni = x) := ⟨_, rfl⟩
 obtain ⟨nn, HNn⟩ : ∃ x, Hid (F.nn = x) := ⟨_, rfl⟩
 obtain ⟨no, HNo⟩ : ∃ x, Hid (F.no = x) := ⟨_, rfl⟩
 rw [HNi1.out, HNn.out, HNo.out] at HMy HEn HOu HB0 HV0 ⊢
 rw [HNo.out] at HQ2
 have x0 := HV0.out.cell 0 (.slice a ni p) rfl
 have x1 := HV0.out.cell 1 (.slice b nn q) rfl
 have x2 := HV0.out.cell 2 (.slice c no r) rfl
 clear h hM hB HQ
 by_cases hE : EnP F (nb : Int)
 ·have HEn2 := qa0 (fun w2 hb => qam (HEn.out w2 hb) hE)
  have HI := qa0 (HAll.out hE)
  rw [HNi1.out] at HI
  clear HEn HAll hE
  go_enter Try.func15, Try.ntmps15
  go_wp2_with (first
   | (go_at_call 34; refine (HMy.out _ HB0.out).mono ?_; rintro e w1 ⟨rfl, hb1⟩; have HB1 := qa0 (jtwo HB0.out hb1); have HV1 := qa0 (HV0.out.later hb1); have x0 := HV1.out.cell 0 (.slice a ni p) rfl; have x1 := HV1.out.cell 1 (.slice b nn q) rfl; have x2 := HV1.out.cell 2 (.slice c no r) rfl; clear hb1)
   | (go_at_call 35; refine (HEn2.out _ HB1.out).mono ?_; rintro e w2 ⟨rfl, hb2⟩; have HB2 := qa0 (jtwo HB1.out hb2); have HV2 := qa0 (HV1.out.later hb2); clear hb2))
  clear HB0 HV0 HB1 HV1 x0 x1 x2
  go_loopw [6, 19] (fun vl vi wr => ∃ i : Nat, i ≤ nb ∧ vi = .int .i64 (i : Int) ∧ vl = .int .i64 ((if i = 0 then 0 else L 0 : Nat) : Int) ∧ (∀ j, j < i → L j = L 0) ∧ w2 = wr) (fun _ vi _ => nb - (intOf vi).toNat)
  case atStart => exact ⟨0, by omega, rfl, rfl, fun j hj => by omega, rfl⟩
  case round =>
   obtain ⟨i, hi, rfl, rfl, hl, rfl⟩ := hrel
   have HL := qa0 hl
   have x0 := HV2.out.cell 0 (.slice a ni p) rfl
   have x1 := HV2.out.cell 1 (.slice b nn q) rfl
   have x2 := HV2.out.cell 2 (.slice c no r) rfl
   clear hl
   by_cases hlt : i < nb
   ·obtain ⟨xb, xo, rfl, hc⟩ := (HBw.out.rl.later HB2.out).at' i hlt
    obtain ⟨l, HLi⟩ : ∃ l, Hid (L i = l) := ⟨_, rfl⟩
    obtain ⟨s, HAi⟩ : ∃ s, Hid (A i = s) := ⟨_, rfl⟩
    obtain ⟨k, HCi⟩ : ∃ s, Hid (C i = s) := ⟨_, rfl⟩
    rw [HLi.out, HAi.out, HCi.out] at hc
    have p0 : (0 : Int) ≤ (i : Int) := by omega
    have p1 : (i : Int) < (nb : Int) := by omega
    by_cases h0 : i = 0
    ·have q0 : ¬ (0 : Int) < (i : Int) := by omega
     have q0d : decide ((0 : Int) < (i : Int)) = false := by simp; omega
     have q0n : decide (0 < i) = false := by simp; omega
     have HI0 := qa0 h0
     rw [if_pos h0]
     clear h0
     go_wp2
     exact ⟨⟨i + 1, by omega, by go_num, by rw [if_neg (by omega), ← HLi.out, HI0.out], fun j hj => by rw [show j = 0 by have := HI0.out; omega], trivial⟩, by simp [intOf]; omega⟩
    ·have q0 : (0 : Int) < (i : Int) := by omega
     have q0d : decide ((0 : Int) < (i : Int)) = true := by simp; omega
     have q0n : decide (0 < i) = true := by simp; omega
     rw [if_neg h0]
     obtain ⟨l0, HL0⟩ : ∃ l, Hid (L 0 = l) := ⟨_, rfl⟩
     rw [HL0.out]
     clear h0
     by_cases he : l = l0
     ·have HEq := qa0 he
      subst he
      go_wp2
      exact ⟨⟨i + 1, by omega, by go_num, by rw [if_neg (by omega)], fun j hj => by
       by_cases e : j = i
       ·rw [e, HLi.out]
       ·rw [HL.out j (by omega), HL0.out], trivial⟩, by simp [intOf]; omega⟩
     ·have e1 : ((l : Int) != (l0 : Int)) = true := by simp; omega
      have e2 : ¬ (l : Int) = (l0 : Int) := by omega
      have HNl := qa0 he
      clear he
      go_wp2
      go_ret2
      exact ⟨HQ1.out _ fun hr => HNl.out (by rw [← HLi.out, ← HL0.out]; exact hr.2 i hlt), HB2.out⟩
   ·obtain rfl : i = nb := by omega
    have HR : Hid (RunP F i L) := ⟨by rw [HNi1.out]; exact HI.out, fun j hj => HL.out j hj⟩
    have el : (if i = 0 then 0 else L 0) = len1 i L := rfl
    rw [el]
    have HC := qa0 (HOu.out w2 HB2.out HI.out HR.out.2)
    have HQ3 := qa0 (fun w3 e => HQ2.out w2 w3 e HR.out HB2.out)
    obtain ⟨T, HT⟩ : ∃ t, Hid (len1 i L = t) := ⟨_, rfl⟩
    rw [HT.out] at HC HQ3 ⊢
    clear el
    go_wp2_with (go_at_call 38; refine HC.out.mono ?_; rintro e w4 ⟨ho, hb4⟩; obtain ⟨v, rfl, hq⟩ := HQ3.out w4 e ho; have HQ4 := qa0 hq; have HB4 := qa0 (jtwo HB2.out hb4); clear ho hq hb4)
    go_ret2
    exact ⟨HQ4.out, HB4.out⟩
 ·have HEn2 := qa0 (fun w2 hb => qb1 (HEn.out w2 hb) hE)
  have HE := qa0 hE
  clear HEn hE HAll
  go_enter Try.func15, Try.ntmps15
  go_wp2_with (first
   | (go_at_call 34; refine (HMy.out _ HB0.out).mono ?_; rintro e w1 ⟨rfl, hb1⟩; have HB1 := qa0 (jtwo HB0.out hb1); have HV1 := qa0 (HV0.out.later hb1); have x0 := HV1.out.cell 0 (.slice a ni p) rfl; have x1 := HV1.out.cell 1 (.slice b nn q) rfl; have x2 := HV1.out.cell 2 (.slice c no r) rfl; clear hb1)
   | (go_at_call 35; refine (HEn2.out _ HB1.out).mono ?_; rintro e w2 ⟨rfl, hb2⟩; have HB2 := qa0 (jtwo HB1.out hb2); clear hb2))
  go_ret2
  exact ⟨HQ1.out _ fun hr => HE.out (en_of hr.1), HB2.out⟩
end Go.Proofs.Ytkfnedpnkeacpaa
