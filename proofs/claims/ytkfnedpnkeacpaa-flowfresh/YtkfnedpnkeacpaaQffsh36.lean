/-
  Stage 21: the reference's Run.
-/
import Derived.Test.YtkfnedpnkeacpaaQffsh00
import Derived.Test.YtkfnedpnkeacpaaQffsh35
set_option maxRecDepth 100000
set_option maxHeartbeats 16000000
namespace Go.Proofs.Ytkfnedpnkeacpaa
open Go.RowKit
theorem qfh (w : World) (a b c bl : Option Addr) (p q r nb kb : Nat) (F : Fl) (h : FlR w a b c F) (hM : ¬ MayP F) :
  Calls Try.prog 16 #[flv a F.ni p b F.nn q c F.no r, .slice bl nb kb] w fun e w' => e = .returned (.tuple #[.slice none 0 0, .int .i64 2]) ∧ Below w.heap.size w w' := by
 have HB0 := qa0 (jlow w (.cells #[.slice a F.ni p, .slice b F.nn q, .slice c F.no r] 28))
 have HV0 := qa0 (Vf.new w 28 #[.slice a F.ni p, .slice b F.nn q, .slice c F.no r])
 have x0 := HV0.out.cell 0 (.slice a F.ni p) rfl
 have x1 := HV0.out.cell 1 (.slice b F.nn q) rfl
 have x2 := HV0.out.cell 2 (.slice c F.no r) rfl
 have HMy := qa0 (fun w2 (hb : Below w.heap.size w w2) => qb1 (qdu w2 a b c p q r F (h.later hb)) hM)
 clear h hM
 go_enter Try.func16, Try.ntmps16
 go_wp2_with (go_at_call 21; refine (HMy.out _ HB0.out).mono ?_; rintro e w1 ⟨rfl, hb1⟩; have HB1 := qa0 (jtwo HB0.out hb1); clear hb1)
 go_ret2
 exact ⟨rfl, HB1.out⟩
/-- One block more. -/
theorem qdc {w w3 w4 : World} {D B k T : Nat} {vv v4 u : Value} {x : Nat → Nat → Nat} {f : Nat → Nat} {vs : List Value} {xs : Array Value} {ty : TypeId} {o : Obj} (hD : w.heap.size < D)
  (hvs : w3.ownsRow D 22 1 vv k vs) (hel : ∀ i, i < k → ∃ u, vs[i]? = some u ∧ w3.ownsRow D 5 1 u T (row T (x i)).toList) (hu : w3.ownsRow B 5 1 u T (row T f).toList) (hB : D ≤ B)
  (ho : w4.ownsRow D 22 1 v4 (k + 1) (vs ++ [u])) (hg : (w3.alloc o).grownBy w4 vv.ownBlock) (hf : x k = f) (hV : Vf w3 w.heap.size ty xs) (hb : Below w.heap.size w w3) :
  Bo w4 D v4 (k + 1) T x ∧ Vf w4 w.heap.size ty xs ∧ Below w.heap.size w w4 ∧ ∀ W, W.heap.size = D → Below D W w3 → Below D W w4 := by
 have hal := jlow w3 o
 have hbo := Bo.push (qa8 hvs hal) (fun i hi => by
  obtain ⟨u, h1, h2⟩ := hel i hi
  exact ⟨u, h1, qa8 h2 hal⟩) (qa8 (qar hu hB) hal) ho hg
 have hb2 := jtwo hb hal
 refine ⟨hbo.congr fun i _ => ?_, (hV.later hal).kept hg (qaq hvs (by omega)), hb2.grown hg hb2.size (fun k e => by have := qac hvs k e; omega), fun W hW hbW => ?_⟩
 ·by_cases e : i = k
  ·rw [if_pos e, e, hf]
  ·rw [if_neg e]
 ·subst hW
  have hb3 := jtwo hbW hal
  exact hb3.grown hg hb3.size (fun k e => qac hvs k e)
theorem FlR.fc8 {w : World} {a b c : Option Addr} {F : Fl} (h : FlR w a b c F) {v j : Nat} (h1 : F.ni ≤ v) (h2 : v < F.ni + F.nn) (h3 : j < tn F v) : F.fc (v - F.ni) j < 256 := by
 obtain ⟨_, x, o, t, d, _, _, ht⟩ := h.nodes (v - F.ni) (by omega)
 rw [qfe h1] at h3
 exact (ht j h3).1
theorem qfi (T : Nat) : (madeCells (Value.int .u8 0).cells (T * 1)).toList = (row T fun _ => 0).toList := by rw [Nat.mul_one]; exact congrArg Array.toList (qdj T)
theorem qce (w : World) (a b c bl : Option Addr) (p q r nb kb : Nat) (F : Fl) (A : Nat → Option Addr) (L C : Nat → Nat) (bt : Nat → Nat → Nat) (h : FlR w a b c F) (hM : MayP F) (hB : Bw w bl nb A L C bt) (hnb : nb ≤ 140737488351232) :
  Calls Try.prog 16 #[flv a F.ni p b F.nn q c F.no r, .slice bl nb kb] w fun e w' => ((RunP F nb L ∧ ∃ v, e = .returned (.tuple #[v, .int .i64 0]) ∧ Bo w' w.heap.size v F.no (len1 nb L) (fun o => vlx F bt (F.out o).toNat)) ∨ (¬ RunP F nb L ∧ e = .returned (.tuple #[.slice none 0 0, .int .i64 3]))) ∧ Below w.heap.size w w' := by
 obtain ⟨i0, hi0, hz0, hz1, hz2⟩ := info_parts jsl8
 obtain ⟨i1, hi1, hy0, hy1, hy2⟩ := info_parts qcr
 have HB0 := qa0 (jlow w (.cells #[.slice a F.ni p, .slice b F.nn q, .slice c F.no r] 28))
 have HV0 := qa0 (Vf.new w 28 #[.slice a F.ni p, .slice b F.nn q, .slice c F.no r])
 have HMy := qa0 (fun w2 (hb : Below w.heap.size w w2) => qam (qdu w2 a b c p q r F (h.later hb)) hM)
 have hno := hM.o64
 have hn4 := hM.n4
 have hi64 := hM.inp.le
 have HM := qa0 hM
 have HF := qa0 h
 have HBw := qa0 hB
 obtain ⟨Q, HQ⟩ : ∃ Q : World → Ending → Prop, Hid ((fun w2 e => ((RunP F nb L ∧ ∃ v, e = .returned (.tuple #[v, .int .i64 0]) ∧ Bo w2 w.heap.size v F.no (len1 nb L) (fun o => vlx F bt (F.out o).toNat)) ∨ (¬ RunP F nb L ∧ e = .returned (.tuple #[.slice none 0 0, .int .i64 3])))) = Q) := ⟨_, rfl⟩
 have HQ1 : Hid (∀ w2, ¬ RunP F nb L → Q w2 (.returned (.tuple #[.slice none 0 0, .int .i64 3]))) := fun w2 h1 => by rw [← HQ.out]; exact .inr ⟨h1, rfl⟩
 have HQ2 : Hid (∀ w2 v, RunP F nb L → Bo w2 (w.heap.size + 1) v F.no (len1 nb L) (fun o => vlx F bt (F.out o).toNat) → Q w2 (.returned (.tuple #[v, .int .i64 0]))) := fun w2 v h1 h2 => by
  rw [← HQ.out]
  exact .inl ⟨h1, v, rfl, h2.mono (by omega)⟩
 show Calls _ _ _ _ fun e w' => (fun w2 e => ((RunP F nb L ∧ ∃ v, e = .returned (.tuple #[v, .int .i64 0]) ∧ Bo w2 w.heap.size v F.no (len1 nb L) (fun o => vlx F bt (F.out o).toNat)) ∨ (¬ RunP F nb L ∧ e = .returned (.tuple #[.slice none 0 0, .int .i64 3])))) w' e ∧ _
 rw [HQ.out]
 obtain ⟨ni, HNi1⟩ : ∃ x, Hid (F.ni = x) := ⟨_, rfl⟩
 obtain ⟨nn, HNn⟩ : ∃ x, Hid (F.nn = x) := ⟨_, rfl⟩
 obtain ⟨no, HNo⟩ : ∃ x, Hid (F.no = x) := ⟨_, rfl⟩
 rw [HNi1.out, HNn.out, HNo.out] at HMy HB0 HV0 ⊢
 rw [HNo.out] at HQ2 hno
 rw [HNi1.out] at hi64
 rw [HNn.out] at hn4
 have x0 := HV0.out.cell 0 (.slice a ni p) rfl
 have x1 := HV0.out.cell 1 (.slice b nn q) rfl
 have x2 := HV0.out.cell 2 (.slice c no r) rfl
 clear h hM hB HQ
 go_enter Try.func16, Try.ntmps16
 go_wp2_with (go_at_call 21; refine (HMy.out _ HB0.out).mono ?_; rintro e w1 ⟨rfl, hb1⟩; have HB1 := qa0 (jtwo HB0.out hb1); have HV1 := qa0 (HV0.out.later hb1); clear hb1)
 clear HB0 HV0 x0 x1 x2 HMy
 go_loopw [6, 7] (fun vl vi wr => ∃ i : Nat, i ≤ nb ∧ vi = .int .i64 (i : Int) ∧ vl = .int .i64 ((if i = 0 then 0 else L 0 : Nat) : Int) ∧ (∀ j, j < i → L j = L 0) ∧ w1 = wr) (fun _ vi _ => nb - (intOf vi).toNat)
 case atStart => exact ⟨0, by omega, rfl, rfl, fun j hj => by omega, rfl⟩
 case round =>
  obtain ⟨i, hi, rfl, rfl, hl, rfl⟩ := hrel
  have HL := qa0 hl
  clear hl
  by_cases hlt : i < nb
  ·obtain ⟨xb, xo, rfl, hc⟩ := (HBw.out.rl.later HB1.out).at' i hlt
   obtain ⟨xb', xo', ee, hc0⟩ := (HBw.out.rl.later HB1.out).at' 0 (by omega)
   cases ee
   have hq0 : ((if i = 0 then 0 else L 0 : Nat) : Int) = ((if i = 0 then 0 else L 0 : Nat) : Int) := rfl
   obtain ⟨sz, HSz⟩ : ∃ l, Hid ((if i = 0 then 0 else L 0 : Nat) = l) := ⟨_, rfl⟩
   rw [HSz.out]
   obtain ⟨l, HLi⟩ : ∃ l, Hid (L i = l) := ⟨_, rfl⟩
   obtain ⟨s, HAi⟩ : ∃ s, Hid (A i = s) := ⟨_, rfl⟩
   obtain ⟨k, HCi⟩ : ∃ s, Hid (C i = s) := ⟨_, rfl⟩
   obtain ⟨s0, HA0⟩ : ∃ s, Hid (A 0 = s) := ⟨_, rfl⟩
   obtain ⟨k0, HC0⟩ : ∃ s, Hid (C 0 = s) := ⟨_, rfl⟩
   obtain ⟨l0, HL0⟩ : ∃ l, Hid (L 0 = l) := ⟨_, rfl⟩
   rw [HLi.out, HAi.out, HCi.out] at hc
   rw [HL0.out, HA0.out, HC0.out, Nat.add_zero] at hc0
   rw [HL0.out]
   have p0 : (0 : Int) ≤ (i : Int) := by omega
   have p1 : (i : Int) < (nb : Int) := by omega
   have p2 : (0 : Int) < (nb : Int) := by omega
   clear hq0
   by_cases he : l = l0
   ·have HEq := qa0 he
    subst he
    go_wp2
    exact ⟨⟨i + 1, by omega, by go_num, by rw [if_neg (by omega)], fun j hj => by
     by_cases e : j = i
     ·rw [e, HLi.out]
     ·rw [HL.out j (by omega), HL0.out], trivial⟩, by simp [intOf]; omega⟩
   ·have e1 : ((l : Int) != (l0 : Int)) = true := by simp; omega
    have e2 : ¬ (l : Int) = (l0 : Int) := by omega
    have HNl := qa0 he
    clear he
    go_wp2
    go_ret2
    exact ⟨HQ1.out _ fun hr => HNl.out (by rw [← HLi.out, ← HL0.out]; exact hr.2 i hlt), HB1.out⟩
  ·obtain rfl : i = nb := by omega
   have HLen : Hid (LenP i L) := fun j hj => HL.out j hj
   have el : (if i = 0 then 0 else L 0) = len1 i L := rfl
   rw [el]
   obtain ⟨T, HT⟩ : ∃ t, Hid (len1 i L = t) := ⟨_, rfl⟩
   have hT : T ≤ 140737488351232 := by
    rw [← HT.out]
    unfold len1
    split
    ·omega
    ·exact HBw.out.len 0 (by omega)
   have hmt : T ≤ maxLen := by unfold maxLen; omega
   have HOne : Hid (∀ j, j < i → L j = T) := fun j hj => by rw [HLen.out.one j hj, HT.out]
   rw [HT.out] at HQ2 ⊢
   clear el HL
   go_wp2
   go_loopw [8, 9] (fun vv vi wr => ∃ k : Nat, k ≤ ni ∧ vi = .int .i64 (k : Int) ∧ Bo wr (w.heap.size + 1) vv k T (fun j => vlx F bt j) ∧ (∀ j, j < k → F.inp j < (i : Int)) ∧ Vf wr w.heap.size 28 #[.slice a ni p, .slice b nn q, .slice c no r] ∧ Below w.heap.size w wr) (fun _ vi _ => ni - (intOf vi).toNat)
   case atStart => exact ⟨0, by omega, rfl, Bo.nil _ _ _ _, fun j hj => by omega, HV1.out, HB1.out⟩
   case round =>
    clear HV1 HB1
    obtain ⟨k, hk, rfl, hbo, hin, hv2, hb2⟩ := hrel
    have HIn := qa0 hin
    have HV2 := qa0 hv2
    have HB2 := qa0 hb2
    have HBo := qa0 hbo
    have x0 := hv2.cell 0 (.slice a ni p) rfl
    have x1 := hv2.cell 1 (.slice b nn q) rfl
    clear hin hv2 hbo
    by_cases hlk : k < ni
    ·obtain ⟨ib, io, rfl, i1⟩ := (HF.out.inp.later hb2) k (by rw [HNi1.out]; exact hlk)
     have hi2 := HM.out.inp k (by rw [HNi1.out]; exact hlk)
     obtain ⟨z, HZ⟩ : ∃ z, Hid ((F.inp k).toNat = z) := ⟨_, rfl⟩
     have e1 : F.inp k = (z : Int) := by have := HZ.out; omega
     rw [e1] at i1
     have HE1 := qa0 e1
     have p0 : (0 : Int) ≤ (k : Int) := by omega
     have p1 : (k : Int) < (ni : Int) := by omega
     by_cases hz : z < i
     ·obtain ⟨bb, bo, rfl, b0⟩ := (HBw.out.rl.later hb2).at' z hz
      have hs := (HBw.out.rl.later hb2).sl z hz
      have hnil := HBw.out.rl.nil z hz
      rw [HOne.out z hz] at b0 hs hnil
      have HXk : Hid (bt z = vlx F bt k) := by rw [qfg (by rw [HNi1.out]; exact hlk), HZ.out]; exact rfl
      rw [HXk.out] at hs
      have HCp := qa0 (qb8 wr (A z) T (C z) (vlx F bt k) hs hT hnil)
      obtain ⟨f, HFf⟩ : ∃ f, Hid (vlx F bt k = f) := ⟨_, rfl⟩
      obtain ⟨s, HAz⟩ : ∃ s, Hid (A z = s) := ⟨_, rfl⟩
      obtain ⟨d, HCz⟩ : ∃ s, Hid (C z = s) := ⟨_, rfl⟩
      rw [HAz.out, HCz.out] at b0
      rw [HAz.out, HCz.out, HFf.out] at HCp
      have z0 : (0 : Int) ≤ (z : Int) := by omega
      have z1 : (z : Int) < (i : Int) := by omega
      have z2 : ¬ (i : Int) ≤ (z : Int) := by omega
      have hml : k + 1 ≤ maxLen := by unfold maxLen; omega
      have hws := hb2.size
      have hvl := HV2.out.lt
      clear hs hnil hb2 hi2 e1
      go_wp2_with (first
       | (go_at_call 40; refine HCp.out.mono ?_; rintro e w3 ⟨u, rfl, hu3, hb3⟩; obtain ⟨s3, d3, rfl⟩ := qaf hu3; have HU3 := qa0 hu3; have hsz3 := hb3.size; have HBo3 := qa0 (HBo.out.later hb3); have HV3 := qa0 (HV2.out.later hb3); have HB3 := qa0 (jtwo HB2.out hb3); obtain ⟨vs, hvs, hel⟩ := HBo3.out; have HVs := qa0 hvs; have HEl := qa0 hel; clear hu3 hb3 hvs hel)
       | (at_builtin; refine wpList_append_own _ rfl _ _ 41 rfl (w.heap.size + 1) 22 i0 (.slice none 0 0) 1 24 Try.underlying41 hi0 hz0 hz1 hz2 rfl (by decide) _ k vs rfl (World.ownsRow.alloc HVs.out _) ⟨w3.heap.size, 0, none⟩ 1 1 [.slice s3 T d3] rfl rfl (qap _ _ _) (by intro x hx; rw [List.mem_singleton.1 hx]; rfl) hml (by omega) (by simp; omega) ?_; intro v4 w4 hown4 hgrow4 _; have HO4 := qa0 hown4; have HG4 := qa0 hgrow4; clear hown4 hgrow4))
      obtain ⟨hbo4, hv4, hb4, _⟩ := qdc (B := wr.heap.size) (D := w.heap.size + 1) (x := fun j => vlx F bt j) (by omega) HVs.out HEl.out HU3.out (by omega) HO4.out HG4.out HFf.out HV3.out HB3.out
      exact ⟨⟨k + 1, by omega, by go_num, hbo4, fun j hj => by
       by_cases e : j = k
       ·rw [e, HE1.out]; omega
       ·exact HIn.out j (by omega), hv4, hb4⟩, by simp [intOf]; omega⟩
     ·have z2 : (i : Int) ≤ (z : Int) := by omega
      clear hb2 hi2 e1
      go_wp2
      go_ret2
      exact ⟨HQ1.out _ fun hr => by
       have h1 := hr.1 k (by rw [HNi1.out]; exact hlk)
       rw [HE1.out] at h1
       omega, HB2.out⟩
    ·obtain rfl : k = ni := by omega
     have HRun : Hid (RunP F i L) := ⟨fun j hj => HIn.out j (by rw [HNi1.out] at hj; exact hj), HLen.out⟩
     have HLt : Hid (∀ v j, v < F.ni + F.nn → j < T → vlx F bt v j < 256) := fun v j hv hj =>
      vlx_lt HM.out (fun v j h1 h2 h3 => HF.out.fc8 h1 h2 h3) (fun u hu => by
       have h1 := HRun.out.1 u hu
       have h2 := (HM.out.inp u hu).1
       exact (HBw.out.rl.sl (F.inp u).toNat (by omega)).1 j (by rw [HOne.out _ (by omega)]; exact hj)) hv
     clear hb2 x1 HIn HOne HLen
     go_wp2
     go_loopw [8, 10] (fun vv vi wr => ∃ m : Nat, m ≤ nn ∧ vi = .int .i64 (m : Int) ∧ Bo wr (w.heap.size + 1) vv (k + m) T (fun j => vlx F bt j) ∧ Vf wr w.heap.size 28 #[.slice a k p, .slice b nn q, .slice c no r] ∧ Below w.heap.size w wr) (fun _ vi _ => nn - (intOf vi).toNat)
     case atStart => exact ⟨0, by omega, rfl, HBo.out, HV2.out, HB2.out⟩
     case round =>
      clear HBo HV2 HB2 x0
      obtain ⟨m, hm, rfl, hbo, hv2, hb2⟩ := hrel
      have HV2 := qa0 hv2
      have HB2 := qa0 hb2
      have HBo := qa0 hbo
      have x1 := hv2.cell 1 (.slice b nn q) rfl
      have x2 := hv2.cell 2 (.slice c no r) rfl
      clear hv2 hbo
      by_cases hlm : m < nn
      ·obtain ⟨hnt, xb, xo, t, d, rfl, hc, htm⟩ := (HF.out.nodes.later hb2) m (by rw [HNn.out]; exact hlm)
       obtain ⟨tl, HTL⟩ : ∃ l, Hid (F.nt m = l) := ⟨_, rfl⟩
       rw [HTL.out] at hc hnt htm
       have HTm := qa0 htm
       have hkN : k + m < F.ni + F.nn := by have := HNi1.out; have := HNn.out; omega
       have etn : tn F (k + m) = tl := by rw [qfe (by have := HNi1.out; omega), show k + m - F.ni = m by have := HNi1.out; omega, HTL.out]
       have HNode : Hid (vlx F bt (k + m) = sx (fun j => vlx F bt (tv F (k + m) j)) (F.fc m) tl) := by
        rw [qcm HM.out (by have := HNi1.out; omega) hkN, etn, show k + m - F.ni = m by have := HNi1.out; omega]
        exact rfl
       have HTerm : Hid (∀ j, j < tl → F.of m j = (tv F (k + m) j : Int) ∧ tv F (k + m) j < k + m) := fun j hj => by
        have h1 := HM.out.term (v := k + m) (j := j) hkN (by rw [etn]; exact hj)
        rw [show k + m - F.ni = m by have := HNi1.out; omega] at h1
        exact ⟨h1.1, h1.2.1⟩
       have p0 : (0 : Int) ≤ (m : Int) := by omega
       have p1 : (m : Int) < (nn : Int) := by omega
       have hws := hb2.size
       have hvl := HV2.out.lt
       have HC0 := qa0 hc
       have HWR := qa0 (Below.refl wr.heap.size wr)
       obtain ⟨W0, HW0⟩ : ∃ W0, Hid (wr = W0) := ⟨_, rfl⟩
       clear htm hb2 etn
       go_wp2_with (at_make; refine wpList_make_full _ rfl _ _ 22 rfl wr.heap.size 5 i1 (.int .u8 0) 1 Try.underlying22 hi1 hy0 hy1 .i64 .i64 _ _ T rfl rfl rfl rfl (by rw [hy2]; omega) hmt (Nat.le_refl _) ?_; intro w3 hown hgrow; have HU3 : Hid (w3.ownsRow (w.heap.size + 1) 5 1 (.slice (some ⟨wr.heap.size, 0, none⟩) T T) T (row T fun _ => 0).toList) := by { rw [← qfi]; exact qar hown (by omega) }; have hb3 : Below wr.heap.size wr w3 := qag.mp hgrow; have HB3 := qa0 (jtwo HB2.out hb3); have HV3 := qa0 (HV2.out.later hb3); have HBo3 := qa0 (HBo.out.later hb3); have HTm3 := qa0 (HTm.out.later hb3); have HC3 : Hid (w3.cell? ⟨xb, xo + m, none⟩ = some (.slice t tl d)) := (by rw [hb3.cell (p := ⟨xb, xo + m, none⟩) (qa5 HC0.out)]; exact HC0.out); clear hown hgrow hb3)
       clear HB2 HV2 HBo HTm HC0 x1 x2 HWR HW0 hc
       obtain ⟨X, HX⟩ : ∃ X : Nat → Nat → Nat, Hid ((fun j => vlx F bt (tv F (k + m) j)) = X) := ⟨_, rfl⟩
       obtain ⟨g, HGg⟩ : ∃ g : Nat → Nat, Hid (F.fc m = g) := ⟨_, rfl⟩
       rw [HX.out, HGg.out] at HNode
       rw [HGg.out] at HTm3
       go_loopw [11, 12] (fun sv vi w5 => ∃ j : Nat, j ≤ tl ∧ vi = .int .i64 (j : Int) ∧ w5.ownsRow (w.heap.size + 1) 5 1 sv T (row T (sx X g j)).toList ∧ Bo w5 (w.heap.size + 1) u8 (k + m) T (fun j => vlx F bt j) ∧ Vf w5 w.heap.size 28 #[.slice a k p, .slice (some ⟨xb, xo, none⟩) nn q, .slice c no r] ∧ Below w.heap.size w w5 ∧ Below w3.heap.size w3 w5) (fun _ vi _ => tl - (intOf vi).toNat)
       case atStart => exact ⟨0, by omega, rfl, HU3.out, HBo3.out, HV3.out, HB3.out, Below.refl _ _⟩
       case round =>
        clear HU3 HBo3 HV3 HB3
        obtain ⟨j, hj, rfl, hu5, hbo5, hv5, hb5, hb35⟩ := hrel
        have HU5 := qa0 hu5
        have HBo5 := qa0 hbo5
        have HV5 := qa0 hv5
        have HB5 := qa0 hb5
        have HB35 := qa0 hb35
        have x1 := hv5.cell 1 (.slice (some ⟨xb, xo, none⟩) nn q) rfl
        have hc := hb35.cell (p := ⟨xb, xo + m, none⟩) (qa5 HC3.out)
        rw [HC3.out] at hc
        clear hv5 hb5
        by_cases hjl : j < tl
        ·obtain ⟨hg8, tb, to, rfl, t0, t1⟩ := (HTm3.out.later hb35) j hjl
         obtain ⟨f1, f2⟩ := HTerm.out j hjl
         have hXj : X j = vlx F bt (tv F (k + m) j) := by rw [← HX.out]
         obtain ⟨z, HZ⟩ : ∃ z, Hid (tv F (k + m) j = z) := ⟨_, rfl⟩
         rw [f1] at t0
         rw [HZ.out] at t0 f2 hXj
         obtain ⟨cc, HCC⟩ : ∃ c, Hid (g j = c) := ⟨_, rfl⟩
         rw [HCC.out] at t1 hg8
         obtain ⟨va, vd, rfl, hvn⟩ := hbo5.form
         obtain ⟨gv, u, ev, hcv, hov⟩ := hbo5.cell z f2
         cases ev
         obtain ⟨s2, d2, rfl, hs2, _⟩ := qbl hov (fun i hi => HLt.out z i (by omega) hi)
         obtain ⟨s1, d1, rfl, hs1, _⟩ := qbl hu5 (fun i _ => sx_lt _ fun l hl => (HTm3.out l (by omega)).1)
         have HMac := qa0 (fun w6 (hb : Below wr.heap.size wr w6) => rmac_any w6 s1 s2 T cc d1 d2 (sx X g j) (vlx F bt z) hg8 (hs1.later hb) (hs2.later hb) hT)
         have hsx : (fun i => sx X g j i ^^^ fm cc (vlx F bt z i)) = sx X g (j + 1) := by
          funext i
          show _ = sx X g j i ^^^ fm (g j) (X j i)
          rw [HCC.out, hXj]
         rw [hsx] at HMac
         have hdr : Below wr.heap.size wr wr.drew := (Below.refl _ _).drew
         have HD : Hid ((fun w' : World => w'.cell? ⟨w.heap.size, 1, none⟩ = some (.slice (some ⟨xb, xo, none⟩) nn q) ∧ w'.cell? ⟨xb, xo + m, none⟩ = some (.slice (some ⟨tb, to, none⟩) tl d) ∧ w'.cell? ⟨tb, to + j * 2, none⟩ = some (.int .i64 (z : Int)) ∧ w'.cell? ⟨tb, to + j * 2 + 1, none⟩ = some (.int .u8 (cc : Int)) ∧ w'.cell? ⟨gv, z, none⟩ = some (.slice s2 T d2)) wr.drew) := ⟨x1, hc, t0, t1, hcv⟩
         have HBoD := qa0 (HBo5.out.later hdr)
         have HVD := qa0 (HV5.out.later hdr)
         have HBD := qa0 (jtwo HB5.out hdr)
         have HB3D := qa0 (jtwo HB35.out hdr)
         have HDr := qa0 hdr
         have p0 : (0 : Int) ≤ (j : Int) := by omega
         have p1 : (j : Int) < (tl : Int) := by omega
         have pm0 : (0 : Int) ≤ (m : Int) := by omega
         have pm1 : (m : Int) < (nn : Int) := by omega
         have z0 : (0 : Int) ≤ (z : Int) := by omega
         have z1 : (z : Int) < (((k + m : Nat)) : Int) := by omega
         have z3 : (z : Int) < (k : Int) + (m : Int) := by omega
         have hws := HBD.out.size
         have hvl := HVD.out.lt
         clear hu5 hbo5 hs1 hs2 hov hdr hb35 hvn hXj
         go_wp2
         go_region_held3 (fun w' => w'.cell? ⟨w.heap.size, 1, none⟩ = some (.slice (some ⟨xb, xo, none⟩) nn q) ∧ w'.cell? ⟨xb, xo + m, none⟩ = some (.slice (some ⟨tb, to, none⟩) tl d) ∧ w'.cell? ⟨tb, to + j * 2, none⟩ = some (.int .i64 (z : Int)) ∧ w'.cell? ⟨tb, to + j * 2 + 1, none⟩ = some (.int .u8 (cc : Int)) ∧ w'.cell? ⟨gv, z, none⟩ = some (.slice s2 T d2))
          (first
           | exact HK6.out
           | exact HD.out)
          (first
           | (go_at_call 41; refine (HMac.out _ HDr.out).mono ?_; rintro e w6 ⟨u6, rfl, hu6, hb6⟩; have HU6 := qa0 (qar hu6 (show w.heap.size + 1 ≤ _ by omega)); have HBo6 := qa0 (HBoD.out.later hb6); have HV6 := qa0 (HVD.out.later hb6); have HB6 := qa0 (jtwo HBD.out hb6); have HB36 := qa0 (jtwo HB3D.out hb6); have HK6 : Hid ((fun w' : World => w'.cell? ⟨w.heap.size, 1, none⟩ = some (.slice (some ⟨xb, xo, none⟩) nn q) ∧ w'.cell? ⟨xb, xo + m, none⟩ = some (.slice (some ⟨tb, to, none⟩) tl d) ∧ w'.cell? ⟨tb, to + j * 2, none⟩ = some (.int .i64 (z : Int)) ∧ w'.cell? ⟨tb, to + j * 2 + 1, none⟩ = some (.int .u8 (cc : Int)) ∧ w'.cell? ⟨gv, z, none⟩ = some (.slice s2 T d2)) w6) := ⟨keepc hb6 HD.out.1, keepc hb6 HD.out.2.1, keepc hb6 HD.out.2.2.1, keepc hb6 HD.out.2.2.2.1, keepc hb6 HD.out.2.2.2.2⟩; clear hu6 hb6))
         clear HMac HD HK6 HBoD HVD HBD HB3D HDr
         go_wp2
         exact ⟨⟨j + 1, by omega, by go_num, HU6.out, HBo6.out, HV6.out, HB6.out, HB36.out⟩, by simp [intOf]; omega⟩
        ·obtain rfl : j = tl := by omega
         obtain ⟨s1, d1, rfl⟩ := qaf hu5
         obtain ⟨vs, hvs, hel⟩ := hbo5
         have HVs := qa0 hvs
         have HEl := qa0 hel
         have hml : k + m + 1 ≤ maxLen := by unfold maxLen; omega
         have hws := HB5.out.size
         have hvl := HV5.out.lt
         clear hu5 hvs hel hb35 HBo5
         go_wp2_with (at_builtin; refine wpList_append_own _ rfl _ _ 41 rfl (w.heap.size + 1) 22 i0 (.slice none 0 0) 1 24 Try.underlying41 hi0 hz0 hz1 hz2 rfl (by decide) _ (k + m) vs rfl (World.ownsRow.alloc HVs.out _) ⟨wr.heap.size, 0, none⟩ 1 1 [.slice s1 T d1] rfl rfl (qap _ _ _) (by intro x hx; rw [List.mem_singleton.1 hx]; rfl) hml (by omega) (by simp; omega) ?_; intro v4 w4 hown4 hgrow4 _; have HO4 := qa0 hown4; have HG4 := qa0 hgrow4; clear hown4 hgrow4)
         obtain ⟨hbo4, hv4, hb4, _⟩ := qdc (B := w.heap.size + 1) (D := w.heap.size + 1) (x := fun j => vlx F bt j) (by omega) HVs.out HEl.out HU5.out (Nat.le_refl _) HO4.out HG4.out HNode.out HV5.out HB5.out
         exact ⟨⟨m + 1, by omega, by go_num, hbo4, hv4, hb4⟩, by simp [intOf]; omega⟩
      ·obtain rfl : m = nn := by omega
       have HOut : Hid (∀ o, o < no → F.out o = ((F.out o).toNat : Int) ∧ (F.out o).toNat < k + m) := fun o ho => by
        have h1 := HM.out.outs o (by rw [HNo.out]; exact ho)
        have h2 := HNi1.out
        have h3 := HNn.out
        exact ⟨by omega, by omega⟩
       obtain ⟨va, vd, rfl, hvn⟩ := HBo.out.form
       clear hb2 hvn
       go_wp2
       clear x1
       obtain ⟨D, HDd⟩ : ∃ D, Hid (wr.heap.size = D) := ⟨_, rfl⟩
       have HWr := qa0 (Below.refl D wr)
       have hVD : w.heap.size < D := by rw [← HDd.out]; exact HV2.out.lt
       go_loopw [13, 14] (fun vv vi w5 => ∃ o : Nat, o ≤ no ∧ vi = .int .i64 (o : Int) ∧ Bo w5 D vv o T (fun o => vlx F bt (F.out o).toNat) ∧ Below D wr w5 ∧ Vf w5 w.heap.size 28 #[.slice a k p, .slice b m q, .slice c no r] ∧ Below w.heap.size w w5) (fun _ vi _ => no - (intOf vi).toNat)
       case atStart => exact ⟨0, by omega, rfl, Bo.nil _ _ _ _, HWr.out, HV2.out, HB2.out⟩
       case round =>
        clear HV2 HB2 x2 HWr
        obtain ⟨o, ho, rfl, hout, hbD, hv2, hb2⟩ := hrel
        have hbo := HBo.out.later (by rw [HDd.out]; exact hbD)
        have HBD := qa0 hbD
        have HV2 := qa0 hv2
        have HB2 := qa0 hb2
        have HOt := qa0 hout
        have x2 := hv2.cell 2 (.slice c no r) rfl
        have hDl := hbD.size
        clear hv2 hout
        by_cases hlo : o < no
        ·obtain ⟨f1, f2⟩ := HOut.out o hlo
         obtain ⟨ob, oo, rfl, o0⟩ := (HF.out.outs.later hb2) o (by rw [HNo.out]; exact hlo)
         obtain ⟨y, HY⟩ : ∃ y : Nat → Nat → Nat, Hid ((fun o => vlx F bt (F.out o).toNat) = y) := ⟨_, rfl⟩
         have HYo : Hid (y o = vlx F bt (F.out o).toNat) := by rw [← HY.out]; exact rfl
         rw [HY.out] at HOt
         obtain ⟨z, HZ⟩ : ∃ z, Hid ((F.out o).toNat = z) := ⟨_, rfl⟩
         rw [HZ.out] at f1 f2 HYo
         rw [f1] at o0
         obtain ⟨gv, u, rfl, hcv, hov⟩ := hbo.cell z f2
         obtain ⟨s2, d2, rfl, hs2, _⟩ := qbl hov (fun i hi => HLt.out z i (by have := HNi1.out; have := HNn.out; omega) hi)
         have hn2 : s2 = none → T = 0 ∧ d2 = 0 := fun e => by
          rcases hov.2 with ⟨e1, e2⟩ | ⟨g2, cap, cur, e1, _⟩
          ·simp at e1; exact ⟨e2, e1.2.2⟩
          ·simp only [Value.slice.injEq] at e1; rw [e1.1] at e; cases e
         have HCp := qa0 (qb8 wr s2 T d2 (vlx F bt z) hs2 hT hn2)
         have p0 : (0 : Int) ≤ (o : Int) := by omega
         have p1 : (o : Int) < (no : Int) := by omega
         have z0 : (0 : Int) ≤ (z : Int) := by omega
         have z1 : (z : Int) < (((k + m : Nat)) : Int) := by omega
         have z3 : (z : Int) < (k : Int) + (m : Int) := by omega
         have hml : o + 1 ≤ maxLen := by unfold maxLen; omega
         have hws := hb2.size
         have hvl := HV2.out.lt
         rw [HY.out]
         have hDl2 : D ≤ wr.heap.size := by have := HDd.out; omega
         clear hs2 hn2 hov hb2 hbo hbD
         go_wp2_with (first
          | (go_at_call 40; refine HCp.out.mono ?_; rintro e w3 ⟨u, rfl, hu3, hb3⟩; obtain ⟨s3, d3, rfl⟩ := qaf hu3; have HU3 := qa0 hu3; have hsz3 := hb3.size; have HOt3 := qa0 (HOt.out.later hb3); have HBD3 := qa0 (HBD.out.trans (hb3.mono hDl2)); have HV3 := qa0 (HV2.out.later hb3); have HB3 := qa0 (jtwo HB2.out hb3); obtain ⟨vs, hvs, hel⟩ := HOt3.out; have HVs := qa0 hvs; have HEl := qa0 hel; clear hu3 hb3 hvs hel)
          | (at_builtin; refine wpList_append_own _ rfl _ _ 41 rfl D 22 i0 (.slice none 0 0) 1 24 Try.underlying41 hi0 hz0 hz1 hz2 rfl (by decide) _ o vs rfl (World.ownsRow.alloc HVs.out _) ⟨w3.heap.size, 0, none⟩ 1 1 [.slice s3 T d3] rfl rfl (qap _ _ _) (by intro x hx; rw [List.mem_singleton.1 hx]; rfl) hml (by omega) (by simp; omega) ?_; intro v4 w4 hown4 hgrow4 _; have HO4 := qa0 hown4; have HG4 := qa0 hgrow4; clear hown4 hgrow4))
         obtain ⟨hbo4, hv4, hb4, hbW⟩ := qdc (B := wr.heap.size) hVD HVs.out HEl.out HU3.out (by omega) HO4.out HG4.out HYo.out HV3.out HB3.out
         exact ⟨⟨o + 1, by omega, by go_num, hbo4, hbW _ HDd.out HBD3.out, hv4, hb4⟩, by simp [intOf]; omega⟩
        ·obtain rfl : o = no := by omega
         clear hb2 hbo hbD
         go_wp2
         go_ret2
         exact ⟨HQ2.out _ _ HRun.out (HOt.out.mono (by omega)), HB2.out⟩
end Go.Proofs.Ytkfnedpnkeacpaa
