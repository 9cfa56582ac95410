/-
  Stage 21: the law of Runs.
-/
import Derived.Test.YtkfnedpnkeacpaaQrrns00
import Derived.Test.YtkfnedpnkeacpaaQrrns47
import Derived.Test.YtkfnedpnkeacpaaQrrns49
set_option maxRecDepth 100000
set_option maxHeartbeats 16000000
namespace Go.Proofs.Ytkfnedpnkeacpaa
open Go.RowKit
theorem fruns21 (w : World) (a b c bl : Option Addr) (p q r nb kb : Nat) (F : Fl) (A : Nat → Option Addr) (L C : Nat → Nat) (bt : Nat → Nat → Nat) (h : FlR w a b c F) (hB : Bw w bl nb A L C bt) (hnb : nb ≤ 140737488351232) :
  Calls Try.prog 4 #[flv a F.ni p b F.nn q c F.no r, .slice bl nb kb] w fun e w' => e = .returned (.bool true) ∧ Below w.heap.size w w' := by
 obtain ⟨K, T, x, E, hR, hall⟩ := qcm w a b c bl p q r nb kb F A L C bt h hB hnb
 have hK : K ≤ 140737488351232 := by
  by_cases hM : MayP F
  ·by_cases hRn : RunP F nb L
   ·have := (hR.ok hM hRn).1
    have := hM.o64
    omega
   ·have := (hR.sh hM hRn).1
    omega
  ·have := (hR.no hM).1
   omega
 have HC := qa0 hall
 have HB0 := qa0 (jlow w (.cells #[.slice a F.ni p, .slice b F.nn q, .slice c F.no r] 28))
 have HV0 := qa0 (Vf.new w 28 #[.slice a F.ni p, .slice b F.nn q, .slice c F.no r])
 obtain ⟨ni, HNi⟩ : ∃ x, Hid (F.ni = x) := ⟨_, rfl⟩
 obtain ⟨nn, HNn⟩ : ∃ x, Hid (F.nn = x) := ⟨_, rfl⟩
 obtain ⟨no, HNo⟩ : ∃ x, Hid (F.no = x) := ⟨_, rfl⟩
 rw [HNi.out, HNn.out, HNo.out] at HC HB0 HV0 ⊢
 have x0 := HV0.out.cell 0 (.slice a ni p) rfl
 have x1 := HV0.out.cell 1 (.slice b nn q) rfl
 have x2 := HV0.out.cell 2 (.slice c no r) rfl
 clear h hB hR hall HNi HNn HNo
 go_enter Try.func4, Try.ntmps4
 go_wp2_with (first
  | (go_at_call 15; refine (HC.out _ HB0.out).1.mono ?_; rintro e w1 ⟨⟨s1, d1, A1, C1, rfl, hr1⟩, hb1⟩; have HR1 := qa0 hr1; have HB1 := qa0 (jtwo HB0.out hb1); have HV1 := qa0 (HV0.out.later hb1); have x0 := HV1.out.cell 0 (.slice a ni p) rfl; have x1 := HV1.out.cell 1 (.slice b nn q) rfl; have x2 := HV1.out.cell 2 (.slice c no r) rfl; clear hb1 hr1)
  | (go_at_call 16; refine (HC.out _ HB1.out).2.mono ?_; rintro e w2 ⟨⟨s2, d2, A2, C2, rfl, hr2⟩, hb2⟩; have HR2 := qa0 hr2; have HR12 := qa0 (HR1.out.later hb2); have HB2 := qa0 (jtwo HB1.out hb2); clear hb2 hr2)
  | (go_at_call 17; refine (qdc w2 s1 s2 K d1 d2 A1 A2 (fun _ => T) C1 C2 x HR12.out HR2.out hK).mono ?_; rintro e w3 ⟨rfl, hb3⟩; have HB3 := qa0 (jtwo HB2.out hb3); clear hb3))
 go_ret
 exact ⟨rfl, HB3.out⟩
end Go.Proofs.Ytkfnedpnkeacpaa
