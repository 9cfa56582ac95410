/-
  Stage 21: neededFor.
-/
import Derived.Test.YtkfnedpnkeacpaaQffsh00
import Derived.Test.YtkfnedpnkeacpaaQffsh24
set_option maxRecDepth 100000
set_option maxHeartbeats 16000000
namespace Go.Proofs.Ytkfnedpnkeacpaa
open Go.RowKit
/-- A value on which some of the outs hangs. -/
def NeedP (F : Fl) (u : Nat) : Prop := ∃ o, o < F.no ∧ Hng F (F.out o).toNat u
/-- The first k outs are gone through. -/
structure NI21 (F : Fl) (k : Nat) (m : Nat → Bool) : Prop where
 clo : ∀ u, m u = true → Clo F m u
 from' : ∀ u, m u = true → ∃ o, o < k ∧ Hng F (F.out o).toNat u
 done : ∀ o, o < k → m (F.out o).toNat = true
theorem NI21.step {F : Fl} {k : Nat} {m m' : Nat → Bool} (h : NI21 F k m) (hk : Mk21 F (F.out k).toNat m m') : NI21 F (k + 1) m' := by
 refine ⟨fun u hu => ?_, fun u hu => ?_, fun o ho => ?_⟩
 ·by_cases e : u ≤ (F.out k).toNat
  ·exact hk.clo u e hu
  ·rw [hk.up u (by omega)] at hu
   exact (h.clo u hu).mono hk.mono
 ·rcases hk.from' u hu with h1 | h1
  ·obtain ⟨o, ho, hx⟩ := h.from' u h1
   exact ⟨o, by omega, hx⟩
  ·exact ⟨k, by omega, h1⟩
 ·by_cases e : o = k
  ·rw [e]; exact hk.at'
  ·exact hk.mono _ (h.done o (by omega))
theorem clo_hang {F : Fl} {m : Nat → Bool} (h : ∀ u, m u = true → Clo F m u) : ∀ k v u, hang F k v u → m v = true → m u = true := by
 intro k
 induction k with
 | zero => intro v u hv hm; rw [← (show v = u from hv)]; exact hm
 | succ k ih =>
  intro v u hv hm
  obtain ⟨j, hj, hx⟩ := hv
  exact ih _ _ hx (h v hm j hj)
theorem NI21.fin {F : Fl} {m : Nat → Bool} (h : NI21 F F.no m) : ∀ u, m u = true ↔ NeedP F u := fun u =>
 ⟨h.from' u, fun ⟨o, ho, k, hk⟩ => clo_hang h.clo k _ _ hk (h.done o ho)⟩
/-- The marks are answered. -/
def NdA (w0 w : World) (F : Fl) (N : Nat) (e : Ending) : Prop := ∃ (g : Nat) (m : Nat → Bool), e = .returned (.slice (some ⟨g, 0, none⟩) N N) ∧ w0.heap.size ≤ g ∧ Ga w g 4 N (fun i => .bool (m i)) ∧ ∀ u, m u = true ↔ NeedP F u
theorem jboo : (Try.prog.info? 4).map (fun i => (i.zero, i.size, i.bytes)) = some (some (.bool false), 1, 1) := by kernel_rfl
theorem qcx (w : World) (a b c : Option Addr) (p q r : Nat) (F : Fl) (h : FlR w a b c F) (hM : MayP F) (N : Nat) (hN : F.ni + F.nn = N) :
  Calls Try.prog 42 #[flv a F.ni p b F.nn q c F.no r] w fun e w' => NdA w w' F N e ∧ Below w.heap.size w w' := by
 obtain ⟨i0, hi0, hz0, hz1, hz2⟩ := info_parts jboo
 have hi := h.hi
 have hn := h.hn
 have hn4 := hM.n4
 have HF := qa0 h
 have HM := qa0 hM
 have hN7 : N ≤ 140737488351232 + 4096 := by omega
 have hml : N ≤ maxLen := by unfold maxLen; omega
 have HCnt := qa0 (fun w2 => qci w2 a b c F.ni p F.nn q F.no r hi hn)
 have HB0 := qa0 (jlow w (.cells #[.slice a F.ni p, .slice b F.nn q, .slice c F.no r] 28))
 have HV0 := qa0 (Vf.new w 28 #[.slice a F.ni p, .slice b F.nn q, .slice c F.no r])
 have hN2 : ((F.ni : Int) + (F.nn : Int)) = (N : Int) := by rw [← hN]; simp
 obtain ⟨Q, HQ⟩ : ∃ Q : World → Ending → Prop, Hid ((fun w2 e => NdA w w2 F N e) = Q) := ⟨_, rfl⟩
 have HQ2 : Hid (∀ (w2 : World) (g : Nat) (m : Nat → Bool), w.heap.size ≤ g → Ga w2 g 4 N (fun i => .bool (m i)) → NI21 F F.no m → Q w2 (.returned (.slice (some ⟨g, 0, none⟩) N N))) := fun w2 g m h1 h2 h3 => by
  rw [← HQ.out]
  exact ⟨g, m, rfl, h1, h2, h3.fin⟩
 show Calls _ _ _ _ fun e w' => (fun w2 e => NdA w w2 F N e) w' e ∧ _
 rw [HQ.out]
 have HNi := qa0 hN
 have HOut := qa0 hM.outs
 have HOL := qa0 h.outs
 have hno := hM.o64
 rw [hN2] at HCnt
 obtain ⟨ni, HNi1⟩ : ∃ x, Hid (F.ni = x) := ⟨_, rfl⟩
 obtain ⟨nn, HNn⟩ : ∃ x, Hid (F.nn = x) := ⟨_, rfl⟩
 obtain ⟨no, HNo⟩ : ∃ x, Hid (F.no = x) := ⟨_, rfl⟩
 have HMk := qa0 (fun (g : Nat) (hg : w.heap.size ≤ g) => qfb w a b c p q r F h hM g N hN hg)
 rw [HNi1.out, HNn.out, HNo.out] at HCnt HB0 HV0 HMk ⊢
 rw [HNo.out] at HQ2 HOut HOL hno
 clear h hM hN hN2 hi hn HQ
 go_enter Try.func42, Try.ntmps42
 go_wp2_with (first
  | (go_at_call 52; refine (HCnt.out _).mono ?_; rintro e w1 ⟨rfl, hb1⟩; have HB1 := qa0 (jtwo HB0.out hb1); have HV1 := qa0 (HV0.out.later hb1); clear hb1)
  | (at_make; refine wpList_make_full _ rfl _ _ 78 rfl w1.heap.size 4 i0 (.bool false) 1 Try.underlying78 hi0 hz0 hz1 .i64 .i64 _ _ N rfl rfl rfl rfl (by rw [hz2]; omega) hml (Nat.le_refl _) ?_; intro w2 hown hgrow; have HG2 : Hid (Ga w2 w1.heap.size 4 N (fun _ => .bool false)) := qbi rfl hown; have hb2 : Below w1.heap.size w1 w2 := qag.mp hgrow; have HB2 := qa0 (jtwo HB1.out hb2); have HV2 := qa0 (HV1.out.later hb2); have x2 := HV2.out.cell 2 (.slice c no r) rfl; have hg2 : w.heap.size < w1.heap.size := HV1.out.lt; clear hown hgrow hb2))
 obtain ⟨g, HGe⟩ : ∃ g, Hid (w1.heap.size = g) := ⟨_, rfl⟩
 rw [HGe.out] at HG2 hg2 ⊢
 have HI0 : Hid (NI21 F 0 (fun _ => false)) := ⟨fun u hu => (by cases hu), fun u hu => (by cases hu), fun o ho => by omega⟩
 clear HB1 HV1 HGe HCnt HB0 HV0
 go_loopw [12] (fun vi wr => ∃ (j : Nat) (m : Nat → Bool), j ≤ no ∧ vi = .int .i64 (j : Int) ∧ Ga wr g 4 N (fun i => .bool (m i)) ∧ NI21 F j m ∧ Vf wr w.heap.size 28 #[.slice a ni p, .slice b nn q, .slice c no r] ∧ Below w.heap.size w wr) (fun vi _ => no - (intOf vi).toNat)
 case atStart => exact ⟨0, _, by omega, rfl, HG2.out, HI0.out, HV2.out, HB2.out⟩
 case round =>
  clear HG2 HI0 HV2 HB2 x2
  obtain ⟨j, m, hj, rfl, hG, hI, hv, hb⟩ := hrel
  have HG := qa0 hG
  have HI := qa0 hI
  have HV := qa0 hv
  have HB := qa0 hb
  have x0 := hv.cell 0 (.slice a ni p) rfl
  have x1 := hv.cell 1 (.slice b nn q) rfl
  have x2 := hv.cell 2 (.slice c no r) rfl
  clear hG hI hv
  by_cases hlt : j < no
  ·obtain ⟨x, o, rfl, hc⟩ := (HOL.out.later hb) j hlt
   have ho := HOut.out j hlt
   have e1 : F.out j = (((F.out j).toNat : Nat) : Int) := by omega
   obtain ⟨y, HY⟩ : ∃ y, Hid ((F.out j).toNat = y) := ⟨_, rfl⟩
   rw [e1, HY.out] at hc
   have hy : y < N := by rw [← HY.out, ← HNi.out]; omega
   have q0 : (0 : Int) ≤ (j : Int) := by omega
   have q1 : (j : Int) < (no : Int) := by omega
   have HC := qa0 (HMk.out g (by omega) y hy wr m hb HG.out (fun u _ h => HI.out.clo u h))
   have HSt : Hid (∀ m5, Mk21 F y m m5 → NI21 F (j + 1) m5) := fun m5 k => HI.out.step (by rw [HY.out]; exact k)
   have hNe : w.heap.size ≠ g := by omega
   have hgw : w.heap.size ≤ g := by omega
   clear hb ho e1
   go_wp2_with (go_at_call 56; refine HC.out.mono ?_; rintro e w5 ⟨rfl, ⟨m5, hg5, hk5⟩, hr5⟩; have HG6 := qa0 hg5; have HI6 := qa0 (HSt.out m5 hk5); have HV6 := qa0 (HV.out.kept hr5 (fun e => by cases e; exact hNe rfl)); have HB6 := qa0 (HB.out.grown hr5 HB.out.size (fun k e => by cases e; exact hgw)); clear hg5 hk5 hr5)
   exact ⟨⟨j + 1, m5, by omega, by go_num, HG6.out, HI6.out, HV6.out, HB6.out⟩, by simp [intOf]; omega⟩
  ·obtain rfl : j = no := by omega
   clear hb
   go_wp2
   go_ret
   exact ⟨HQ2.out _ g m (by omega) HG.out HI.out, HB.out⟩
end Go.Proofs.Ytkfnedpnkeacpaa
