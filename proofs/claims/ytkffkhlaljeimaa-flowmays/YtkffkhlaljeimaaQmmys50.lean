/-
  Stage 21: FlowMays (made by gen33g.py).
-/
import Derived.Test.YtkffkhlaljeimaaQmmys00
import Derived.Test.YtkffkhlaljeimaaQmmys49
import Derived.Deep.RegionHeld3
set_option maxRecDepth 100000
set_option maxHeartbeats 16000000
namespace Go.Proofs.Ytkffkhlaljeimaa
open Go.RowKit
theorem qbf {P : Program} {f : FuncId} {args : Array Value} {w : World} {Pr : Prop} {R : World → Prop} {v : Bool} (h : Calls P f args w fun e w' => AnsB e Pr ∧ R w') (hv : v = true ↔ Pr) : Calls P f args w fun e w' => e = .returned (.bool v) ∧ R w' :=
 h.mono fun e w' hx => by
  obtain ⟨⟨s, rfl, hs⟩, hr⟩ := hx
  refine ⟨?_, hr⟩
  have : s = v := by
   cases s <;> cases v <;> simp_all
  rw [this]
theorem qbz (P : Prop) : ∃ v : Bool, v = true ↔ P := ⟨@decide P (Classical.propDecidable _), @decide_eq_true_iff P (Classical.propDecidable _)⟩
theorem fmays21 (w : World) (a b c a' b' c' : Option Addr) (p q r p' q' r' : Nat) (F G : Fl) (h : FlR w a b c F) (h' : FlR w a' b' c' G) :
  Calls Try.prog 3 #[flv a F.ni p b F.nn q c F.no r, flv a' G.ni p' b' G.nn q' c' G.no r'] w fun e w' => e = .returned (.bool true) ∧ Below w.heap.size w w' := by
 obtain ⟨wb, HW⟩ : ∃ wb, Hid ((w.alloc (.cells #[.slice a F.ni p, .slice b F.nn q, .slice c F.no r] 25)).alloc (.cells #[.slice a' G.ni p', .slice b' G.nn q', .slice c' G.no r'] 25) = wb) := ⟨_, rfl⟩
 have HB0 : Hid (Below w.heap.size w wb) := by rw [← HW.out]; exact jtwo (jlow _ _) (jlow _ _)
 have HA : Hid (Vf wb w.heap.size 25 #[.slice a F.ni p, .slice b F.nn q, .slice c F.no r]) := by rw [← HW.out]; exact (Vf.new w _ _).later (jlow _ _)
 have HC : Hid (Vf wb (w.heap.size + 1) 25 #[.slice a' G.ni p', .slice b' G.nn q', .slice c' G.no r']) := by rw [← HW.out]; exact Vf.new1 _ _ _ _
 have HBd : Hid (Below wb.heap.size wb wb.drew) := qaj wb
 obtain ⟨v, hv⟩ := qbz (MayP F)
 obtain ⟨s, hs⟩ := qbz (EqF F G)
 have HMy := qa0 (fun (w2 : World) (hb : Below wb.heap.size wb w2) => qbf (qba w2 a b c p q r F ((h.later HB0.out).later hb)) hv)
 have HRy := qa0 (fun (w2 : World) (hb : Below wb.heap.size wb w2) => qbf (rmay_any w2 a b c p q r F ((h.later HB0.out).later hb)) hv)
 have HPs := qa0 (fun (w2 : World) (hb : Below wb.heap.size wb w2) => qbf (qax w2 a b c a' b' c' p q r p' q' r' F G ((h.later HB0.out).later hb) ((h'.later HB0.out).later hb)) hs)
 have HRs := qa0 (fun (w2 : World) (hb : Below wb.heap.size wb w2) => qbf (qap w2 a b c a' b' c' p q r p' q' r' F G ((h.later HB0.out).later hb) ((h'.later HB0.out).later hb)) hs)
 have HPp := qa0 (fun (w2 : World) (hb : Below wb.heap.size wb w2) => qa1 (qax w2 a b c a b c p q r p q r F F ((h.later HB0.out).later hb) ((h.later HB0.out).later hb)) (EqF.refl F))
 have ev : (v == v) = true := by simp
 have es : (s == s) = true := by simp
 have M1 : Hid True := trivial
 clear h h' hv hs
 obtain ⟨ni, inp, nn, nt, of, fc, no, out⟩ := F
 obtain ⟨ni', inp', nn', nt', of', fc', no', out'⟩ := G
 dsimp only at HW HA HC HMy HRy HPs HRs HPp ⊢
 have z0 := HA.out.cell 0 (.slice a ni p) rfl
 have z1 := HA.out.cell 1 (.slice b nn q) rfl
 have z2 := HA.out.cell 2 (.slice c no r) rfl
 have y0 := HC.out.cell 0 (.slice a' ni' p') rfl
 have y1 := HC.out.cell 1 (.slice b' nn' q') rfl
 have y2 := HC.out.cell 2 (.slice c' no' r') rfl
 have HZ : Hid (wb.cell? ⟨w.heap.size, 0, none⟩ = some (.slice a ni p) ∧ wb.cell? ⟨w.heap.size, 1, none⟩ = some (.slice b nn q) ∧ wb.cell? ⟨w.heap.size, 2, none⟩ = some (.slice c no r) ∧ wb.cell? ⟨w.heap.size + 1, 0, none⟩ = some (.slice a' ni' p') ∧ wb.cell? ⟨w.heap.size + 1, 1, none⟩ = some (.slice b' nn' q') ∧ wb.cell? ⟨w.heap.size + 1, 2, none⟩ = some (.slice c' no' r')) := ⟨z0, z1, z2, y0, y1, y2⟩
 have HD : Hid (wb.drew.cell? ⟨w.heap.size, 0, none⟩ = some (.slice a ni p) ∧ wb.drew.cell? ⟨w.heap.size, 1, none⟩ = some (.slice b nn q) ∧ wb.drew.cell? ⟨w.heap.size, 2, none⟩ = some (.slice c no r) ∧ wb.drew.cell? ⟨w.heap.size + 1, 0, none⟩ = some (.slice a' ni' p') ∧ wb.drew.cell? ⟨w.heap.size + 1, 1, none⟩ = some (.slice b' nn' q') ∧ wb.drew.cell? ⟨w.heap.size + 1, 2, none⟩ = some (.slice c' no' r')) := ⟨z0, z1, z2, y0, y1, y2⟩
 go_enter Try.func3, Try.ntmps3
 go_wp2
 rw [HW.out]
 go_region_held3 (fun w' => w'.cell? ⟨w.heap.size, 0, none⟩ = some (.slice a ni p) ∧ w'.cell? ⟨w.heap.size, 1, none⟩ = some (.slice b nn q) ∧ w'.cell? ⟨w.heap.size, 2, none⟩ = some (.slice c no r) ∧ w'.cell? ⟨w.heap.size + 1, 0, none⟩ = some (.slice a' ni' p') ∧ w'.cell? ⟨w.heap.size + 1, 1, none⟩ = some (.slice b' nn' q') ∧ w'.cell? ⟨w.heap.size + 1, 2, none⟩ = some (.slice c' no' r'))
  (first
   | exact HK6.out
   | exact HK5.out
   | exact HK4.out
   | exact HK3.out
   | exact HK2.out
   | exact HK1.out
   | exact HD.out)
  (first
   | (go_at_call 9; refine (HMy.out _ HBd.out).mono ?_; rintro e w1 ⟨rfl, hb1⟩; have HB1 : Hid (Below wb.heap.size wb w1) := jtwo HBd.out hb1; have HK1 : Hid (w1.cell? ⟨w.heap.size, 0, none⟩ = some (.slice a ni p) ∧ w1.cell? ⟨w.heap.size, 1, none⟩ = some (.slice b nn q) ∧ w1.cell? ⟨w.heap.size, 2, none⟩ = some (.slice c no r) ∧ w1.cell? ⟨w.heap.size + 1, 0, none⟩ = some (.slice a' ni' p') ∧ w1.cell? ⟨w.heap.size + 1, 1, none⟩ = some (.slice b' nn' q') ∧ w1.cell? ⟨w.heap.size + 1, 2, none⟩ = some (.slice c' no' r')) := ⟨keepc (jtwo HBd.out hb1) HZ.out.1, keepc (jtwo HBd.out hb1) HZ.out.2.1, keepc (jtwo HBd.out hb1) HZ.out.2.2.1, keepc (jtwo HBd.out hb1) HZ.out.2.2.2.1, keepc (jtwo HBd.out hb1) HZ.out.2.2.2.2.1, keepc (jtwo HBd.out hb1) HZ.out.2.2.2.2.2⟩; clear hb1)
   | (go_at_call 10; refine (HRy.out _ HB1.out).mono ?_; rintro e w2 ⟨rfl, hb2⟩; have HB2 : Hid (Below wb.heap.size wb w2) := jtwo HB1.out hb2; have HK2 : Hid (w2.cell? ⟨w.heap.size, 0, none⟩ = some (.slice a ni p) ∧ w2.cell? ⟨w.heap.size, 1, none⟩ = some (.slice b nn q) ∧ w2.cell? ⟨w.heap.size, 2, none⟩ = some (.slice c no r) ∧ w2.cell? ⟨w.heap.size + 1, 0, none⟩ = some (.slice a' ni' p') ∧ w2.cell? ⟨w.heap.size + 1, 1, none⟩ = some (.slice b' nn' q') ∧ w2.cell? ⟨w.heap.size + 1, 2, none⟩ = some (.slice c' no' r')) := ⟨keepc (jtwo HB1.out hb2) HZ.out.1, keepc (jtwo HB1.out hb2) HZ.out.2.1, keepc (jtwo HB1.out hb2) HZ.out.2.2.1, keepc (jtwo HB1.out hb2) HZ.out.2.2.2.1, keepc (jtwo HB1.out hb2) HZ.out.2.2.2.2.1, keepc (jtwo HB1.out hb2) HZ.out.2.2.2.2.2⟩; clear hb2)
   | (go_at_call 11; clear M1; refine (HPs.out _ HB2.out).mono ?_; rintro e w3 ⟨rfl, hb3⟩; have HB3 : Hid (Below wb.heap.size wb w3) := jtwo HB2.out hb3; have HK3 : Hid (w3.cell? ⟨w.heap.size, 0, none⟩ = some (.slice a ni p) ∧ w3.cell? ⟨w.heap.size, 1, none⟩ = some (.slice b nn q) ∧ w3.cell? ⟨w.heap.size, 2, none⟩ = some (.slice c no r) ∧ w3.cell? ⟨w.heap.size + 1, 0, none⟩ = some (.slice a' ni' p') ∧ w3.cell? ⟨w.heap.size + 1, 1, none⟩ = some (.slice b' nn' q') ∧ w3.cell? ⟨w.heap.size + 1, 2, none⟩ = some (.slice c' no' r')) := ⟨keepc (jtwo HB2.out hb3) HZ.out.1, keepc (jtwo HB2.out hb3) HZ.out.2.1, keepc (jtwo HB2.out hb3) HZ.out.2.2.1, keepc (jtwo HB2.out hb3) HZ.out.2.2.2.1, keepc (jtwo HB2.out hb3) HZ.out.2.2.2.2.1, keepc (jtwo HB2.out hb3) HZ.out.2.2.2.2.2⟩; clear hb3)
   | (go_at_call 12; refine (HRs.out _ HB3.out).mono ?_; rintro e w4 ⟨rfl, hb4⟩; have HB4 : Hid (Below wb.heap.size wb w4) := jtwo HB3.out hb4; have HK4 : Hid (w4.cell? ⟨w.heap.size, 0, none⟩ = some (.slice a ni p) ∧ w4.cell? ⟨w.heap.size, 1, none⟩ = some (.slice b nn q) ∧ w4.cell? ⟨w.heap.size, 2, none⟩ = some (.slice c no r) ∧ w4.cell? ⟨w.heap.size + 1, 0, none⟩ = some (.slice a' ni' p') ∧ w4.cell? ⟨w.heap.size + 1, 1, none⟩ = some (.slice b' nn' q') ∧ w4.cell? ⟨w.heap.size + 1, 2, none⟩ = some (.slice c' no' r')) := ⟨keepc (jtwo HB3.out hb4) HZ.out.1, keepc (jtwo HB3.out hb4) HZ.out.2.1, keepc (jtwo HB3.out hb4) HZ.out.2.2.1, keepc (jtwo HB3.out hb4) HZ.out.2.2.2.1, keepc (jtwo HB3.out hb4) HZ.out.2.2.2.2.1, keepc (jtwo HB3.out hb4) HZ.out.2.2.2.2.2⟩; clear hb4)
   | (go_at_call 11; refine (HPp.out _ HB4.out).mono ?_; rintro e w5 ⟨rfl, hb5⟩; have HB5 : Hid (Below wb.heap.size wb w5) := jtwo HB4.out hb5; have HK5 : Hid (w5.cell? ⟨w.heap.size, 0, none⟩ = some (.slice a ni p) ∧ w5.cell? ⟨w.heap.size, 1, none⟩ = some (.slice b nn q) ∧ w5.cell? ⟨w.heap.size, 2, none⟩ = some (.slice c no r) ∧ w5.cell? ⟨w.heap.size + 1, 0, none⟩ = some (.slice a' ni' p') ∧ w5.cell? ⟨w.heap.size + 1, 1, none⟩ = some (.slice b' nn' q') ∧ w5.cell? ⟨w.heap.size + 1, 2, none⟩ = some (.slice c' no' r')) := ⟨keepc (jtwo HB4.out hb5) HZ.out.1, keepc (jtwo HB4.out hb5) HZ.out.2.1, keepc (jtwo HB4.out hb5) HZ.out.2.2.1, keepc (jtwo HB4.out hb5) HZ.out.2.2.2.1, keepc (jtwo HB4.out hb5) HZ.out.2.2.2.2.1, keepc (jtwo HB4.out hb5) HZ.out.2.2.2.2.2⟩; clear hb5)
   | (go_at_call 13; refine (anch21 _).mono ?_; rintro e w6 ⟨rfl, hb6⟩; have HB6 : Hid (Below wb.heap.size wb w6) := jtwo HB5.out hb6; have HK6 : Hid (w6.cell? ⟨w.heap.size, 0, none⟩ = some (.slice a ni p) ∧ w6.cell? ⟨w.heap.size, 1, none⟩ = some (.slice b nn q) ∧ w6.cell? ⟨w.heap.size, 2, none⟩ = some (.slice c no r) ∧ w6.cell? ⟨w.heap.size + 1, 0, none⟩ = some (.slice a' ni' p') ∧ w6.cell? ⟨w.heap.size + 1, 1, none⟩ = some (.slice b' nn' q') ∧ w6.cell? ⟨w.heap.size + 1, 2, none⟩ = some (.slice c' no' r')) := ⟨keepc (jtwo HB5.out hb6) HZ.out.1, keepc (jtwo HB5.out hb6) HZ.out.2.1, keepc (jtwo HB5.out hb6) HZ.out.2.2.1, keepc (jtwo HB5.out hb6) HZ.out.2.2.2.1, keepc (jtwo HB5.out hb6) HZ.out.2.2.2.2.1, keepc (jtwo HB5.out hb6) HZ.out.2.2.2.2.2⟩; clear hb6))
 go_wp2
 go_ret
 exact ⟨rfl, jtwo HB0.out HB6.out⟩
end Go.Proofs.Ytkffkhlaljeimaa
