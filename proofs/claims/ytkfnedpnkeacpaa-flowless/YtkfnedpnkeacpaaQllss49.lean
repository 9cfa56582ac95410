/-
  Stage 21: the law of Runs.
  Stage 21: Trim of a flow that may not be.
  Stage 21: what trimming leaves, as one; what comes out of it.
-/
import Derived.Test.YtkfnedpnkeacpaaQllss00
import Derived.Test.YtkfnedpnkeacpaaQllss46
import Derived.Test.YtkfnedpnkeacpaaQllss48
import Derived.Test.YtkfnedpnkeacpaaQllss33
import Derived.Test.YtkfnedpnkeacpaaQllss34
import Derived.Test.YtkfnedpnkeacpaaQllss47
set_option maxRecDepth 100000
set_option maxHeartbeats 16000000
namespace Go.Proofs.Ytkfnedpnkeacpaa
open Go.RowKit
theorem qfg (w : World) (a b c : Option Addr) (p q r : Nat) (F : Fl) (h : FlR w a b c F) (hM : ¬ MayP F) :
  Calls Try.prog 22 #[flv a F.ni p b F.nn q c F.no r] w fun e w' => e = .returned (.tuple #[flv none 0 0 none 0 0 none 0 0, .int .i64 2]) ∧ Below w.heap.size w w' := by
 obtain ⟨wb, HW⟩ : ∃ wb, Hid ((w.alloc (.cells #[.slice a F.ni p, .slice b F.nn q, .slice c F.no r] 28)).alloc (.cells #[.slice none 0 0, .slice none 0 0, .slice none 0 0] 28) = wb) := ⟨_, rfl⟩
 have HB0 : Hid (Below w.heap.size w wb) := by rw [← HW.out]; exact jtwo (jlow _ _) (jlow _ _)
 have HVR : Hid (Vf wb (w.heap.size + 1) 28 #[.slice none 0 0, .slice none 0 0, .slice none 0 0]) := by rw [← HW.out]; exact Vf.new1 _ _ _ _
 have HMay := qa0 (fun (w2 : World) (hb : Below w.heap.size w w2) => qah (qav w2 a b c p q r F (h.later hb)) hM)
 clear h hM
 obtain ⟨ni, inp, nn, nt, of, fc, no, out⟩ := F
 dsimp only at HMay HW ⊢
 go_enter Try.func22, Try.ntmps22
 go_wp2
 go_step3
 go_wp2_with (first
  | (go_at_call 34; rw [HW.out]; refine (HMay.out _ HB0.out).mono ?_; rintro e w1 ⟨rfl, hb1⟩; have HB1 := qa0 (jtwo HB0.out hb1); have HVR1 := qa0 (HVR.out.later hb1); clear hb1)
  | (refine qad rfl 28 _ _ rfl (w.heap.size + 1) _ #[.slice none 0 0, .slice none 0 0, .slice none 0 0] rfl rfl HVR1.out sizeFl rfl (all3s _ _ _ _ _ _ _ _ _) ?_; intro w9 HV9 HG9))
 have d0 := HV9.out.cell 0 (.slice none 0 0) rfl
 have e1 := HV9.out.cell 1 (.slice none 0 0) rfl
 have e2 := HV9.out.cell 2 (.slice none 0 0) rfl
 try rw [Exit.noGoto_ret]
 refine bodyPost_ret (v := .tuple #[flv none 0 0 none 0 0 none 0 0, .int .i64 2]) (by simp [results, Try.results22, go_sem, d0, e1, e2]) rfl ?_
 exact ⟨rfl, qb0 HB1.out HG9.out (by omega)⟩
open Go.RowKit
/-- G is F, trimmed. -/
def IsTr (F G : Fl) : Prop := ∃ m N k g, G = trF F m N k g ∧ F.ni + F.nn = N ∧ En (fun x => m x = true) F.ni k g ∧ ∀ u, m u = true ↔ NeedP F u
/-- A trimmed flow is answered. -/
def TrG (F : Fl) (w : World) (e : Ending) : Prop := ∃ (x : Option Addr) (p : Nat) (y : Option Addr) (q : Nat) (z : Option Addr) (s : Nat) (G : Fl), e = .returned (.tuple #[flv x G.ni p y G.nn q z G.no s, .int .i64 0]) ∧ FlR w x y z G ∧ IsTr F G
theorem qcf (w : World) (a b c : Option Addr) (p q r : Nat) (F : Fl) (h : FlR w a b c F) (hM : MayP F) :
  Calls Try.prog 22 #[flv a F.ni p b F.nn q c F.no r] w fun e w' => TrG F w' e ∧ Below w.heap.size w w' :=
 (ftrim_ok w a b c p q r F h hM _ rfl).mono fun e w' hh => by
  obtain ⟨⟨x, p, y, q, z, s, k, g, m, rfl, hf, he, hm⟩, hb⟩ := hh
  exact ⟨⟨x, p, y, q, z, s, _, rfl, hf, m, _, k, g, rfl, rfl, he, hm⟩, hb⟩
theorem IsTr.may {F G : Fl} (h : IsTr F G) (hM : MayP F) : MayP G := by
 obtain ⟨m, N, k, g, rfl, hN, he, hm⟩ := h
 exact qf3 hM hN he hm
theorem IsTr.twice {F G H : Fl} (h : IsTr F G) (hM : MayP F) (h2 : IsTr G H) : EqF H G := by
 obtain ⟨m, N, k, g, rfl, hN, he, hm⟩ := h
 obtain ⟨m', N', k', g', rfl, hN', he', hm'⟩ := h2
 exact qf5 hM hN he hm hN' he' hm'
theorem IsTr.cost {F G : Fl} (h : IsTr F G) : csm G.nt G.nn ≤ csm F.nt F.nn ∧ cpr G.nt G.fc G.nn ≤ cpr F.nt F.fc F.nn := by
 obtain ⟨m, N, k, g, rfl, hN, he, hm⟩ := h
 exact trF_cost F m k g hN
theorem IsTr.no {F G : Fl} (h : IsTr F G) : G.no = F.no := by
 obtain ⟨m, N, k, g, rfl, hN, he, hm⟩ := h
 rfl
theorem IsTr.run {F G : Fl} (h : IsTr F G) (hM : MayP F) {nb : Nat} {L : Nat → Nat} (hR : RunP F nb L) : RunP G nb L := by
 obtain ⟨m, N, k, g, rfl, hN, he, hm⟩ := h
 refine ⟨fun i hi => ?_, hR.2⟩
 obtain ⟨e, hlt⟩ := trF_inp (m := m) (N := N) hM he i hi
 rw [e]
 exact hR.1 _ hlt
theorem qfh {F : Fl} (hM : MayP F) (b : Nat → Nat → Nat) {v d : Nat} (hv : v < F.ni + F.nn) (hd : v < d) : vlx F b v = evl F b opx d v :=
 qdq hM b opx _ _ v hv (by omega) hd
theorem IsTr.out {F G : Fl} (h : IsTr F G) (hM : MayP F) (b : Nat → Nat → Nat) {o : Nat} (ho : o < F.no) : vlx G b (G.out o).toNat = vlx F b (F.out o).toNat := by
 have hG := h.may hM
 have hno := h.no
 have h1 := hG.outLt (o := o) (by omega)
 have h2 := hM.outLt ho
 obtain ⟨m, N, k, g, rfl, hN, he, hm⟩ := h
 rw [qfh hG b (d := (trF F m N k g).ni + (trF F m N k g).nn + N) h1 (by omega), qfh hM b (d := (trF F m N k g).ni + (trF F m N k g).nn + N) h2 (by omega)]
 exact evl_out hM hN he hm b opx _ o ho
theorem Rl.congr {w : World} {b : Option Addr} {m : Nat} {A : Nat → Option Addr} {L C : Nat → Nat} {f f' : Nat → Nat → Nat} (h : Rl w b m A L C f) (e : ∀ i, i < m → f i = f' i) : Rl w b m A L C f' :=
 ⟨h.at', fun i hi => by rw [← e i hi]; exact h.sl i hi, h.nil⟩
end Go.Proofs.Ytkfnedpnkeacpaa
