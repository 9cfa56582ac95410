/-
  Stage 21: May of the reference.
-/
import Derived.Test.YthdgpmanijifoaaQbbst00
import Derived.Test.YthdgpmanijifoaaQbbst19
set_option maxRecDepth 100000
set_option maxHeartbeats 16000000
namespace Go.Proofs.Ythdgpmanijifoaa
open Go.RowKit
theorem Vf.drewN {w : World} {b : Nat} {T : TypeId} {xs : Array Value} (h : Vf w b T xs) (k : Nat) : Vf (w.drewN k) b T xs := h.later (below_drewN (Below.refl _ _) _)
theorem InP.stepr {q : Nat → Int} {i : Nat} (h : InP i q) (h0 : ¬ q i < 0) (h1 : 0 < i → ¬ q i ≤ q (i - 1)) (h2 : ¬ 64 ≤ q i) : InP (i + 1) q := fun j hj => by
 by_cases e : j = i
 ·subst e
  exact ⟨by omega, by omega, fun h => by have := h1 h; omega⟩
 ·exact h j (by omega)
theorem TmP.stepr {m : Int} {f : Nat → Int} {g : Nat → Nat} {i : Nat} (h : TmP m i f g) (h0 : ¬ f i < 0) (h1 : 0 < i → ¬ f i ≤ f (i - 1)) (h2 : ¬ m ≤ f i) (h3 : g i ≠ 0) : TmP m (i + 1) f g := fun j hj => by
 by_cases e : j = i
 ·subst e
  exact ⟨h3, by omega, by omega, fun h => by have := h1 h; omega⟩
 ·exact h j (by omega)
theorem qbt (w : World) (a b c : Option Addr) (p q r : Nat) (F : Fl) (h : FlR w a b c F) :
  Calls Try.prog 17 #[flv a F.ni p b F.nn q c F.no r] w fun e w' => AnsB e (MayP F) ∧ Below w.heap.size w w' := by
 have hi := h.hi
 have hn := h.hn
 have ho := h.ho
 have HI := qa0 h.inp
 have HN := qa0 h.nodes
 have HO := qa0 h.outs
 obtain ⟨ni, inp, nn, nt, of, fc, no, out⟩ := F
 dsimp only at hi hn ho HI HN HO ⊢
 clear h
 have HB0 := qa0 (jlow w (.cells #[.slice a ni p, .slice b nn q, .slice c no r] 25))
 have HV0 := qa0 (Vf.new w 25 #[.slice a ni p, .slice b nn q, .slice c no r])
 by_cases h1 : nn ≤ 4096
 ·have g1 : ¬ (4096 : Int) < (nn : Int) := by omega
  by_cases h2 : no ≤ 64
  ·have g2 : ¬ (64 : Int) < (no : Int) := by omega
   go_enter Try.func17, Try.ntmps17
   go_wp2
   go_loopw [3] (fun vi wr => ∃ i : Nat, i ≤ ni ∧ vi = .int .i64 (i : Int) ∧ InP i inp ∧ Vf wr w.heap.size 25 #[.slice a ni p, .slice b nn q, .slice c no r] ∧ Below w.heap.size w wr) (fun vi _ => ni - (intOf vi).toNat)
   case atStart => exact ⟨0, by omega, rfl, fun k hk => by omega, HV0.out, HB0.out⟩
   case round =>
    clear HB0 HV0
    obtain ⟨i, hie, rfl, hp, hv, hb⟩ := hrel
    have HP := qa0 hp
    have HV := qa0 hv
    have HB := qa0 hb
    have x0 := hv.cell 0 _ rfl
    have x1 := hv.cell 1 _ rfl
    have x2 := hv.cell 2 _ rfl
    clear hp hv hb
    by_cases hlt : i < ni
    ·obtain ⟨x, o, rfl, hc⟩ := (HI.out.later HB.out) i hlt
     obtain ⟨y, HY⟩ : ∃ y, Hid (inp i = y) := ⟨_, rfl⟩
     rw [HY.out] at hc
     have p0 : (0 : Int) ≤ (i : Int) := by omega
     have p1 : (i : Int) < (ni : Int) := by omega
     by_cases h3 : y < 0
     ·have dh3 : decide (y < 0) = true := by simp; omega
      go_wp2
      go_big_quiet (fail)
      go_wp2
      go_ret
      exact ⟨AnsB.no fun hm => by have := hm.inp i hlt; dsimp only at this; rw [HY.out] at this; omega, below_drewN HB.out _⟩
     ·have dh3 : decide (y < 0) = false := by simp; omega
      by_cases h4 : 64 ≤ y
      ·have dh4 : decide (64 ≤ y) = true := by simp; omega
       go_wp2
       go_big_quiet (fail)
       go_wp2
       go_ret
       exact ⟨AnsB.no fun hm => by have := hm.inp i hlt; dsimp only at this; rw [HY.out] at this; omega, below_drewN HB.out _⟩
      ·have dh4 : decide (64 ≤ y) = false := by simp; omega
       by_cases h5 : i = 0
       ·have H5 := qa0 h5
        have q0 : ¬ (0 : Int) < (i : Int) := by omega
        have q0d : decide ((0 : Int) < (i : Int)) = false := by simp; omega
        have q0n : decide (0 < i) = false := by simp; omega
        clear h5
        go_wp2
        go_big_quiet (fail)
        go_wp2
        exact ⟨⟨i + 1, by omega, by go_num, HP.out.stepr (by rw [HY.out]; omega) (fun h => by have := H5.out; omega) (by rw [HY.out]; omega), HV.out.drewN _, below_drewN HB.out _⟩, by simp [intOf]; omega⟩
       ·have q0 : (0 : Int) < (i : Int) := by omega
        have q0d : decide ((0 : Int) < (i : Int)) = true := by simp; omega
        have q0n : decide (0 < i) = true := by simp; omega
        obtain ⟨j, HJ⟩ : ∃ j, Hid (i - 1 = j) := ⟨_, rfl⟩
        have hj : j + 1 = i := by have := HJ.out; omega
        obtain ⟨x', o', e', hc'⟩ := (HI.out.later HB.out) j (by omega)
        cases e'
        obtain ⟨z, HZ⟩ : ∃ z, Hid (inp j = z) := ⟨_, rfl⟩
        rw [HZ.out] at hc'
        have w1 : IntKind.i64.wrap ((i : Int) - 1) = (j : Int) := by rw [IntKind.wrap_i64]; omega
        have q1 : (0 : Int) ≤ (j : Int) := by omega
        have q2 : (j : Int) < (ni : Int) := by omega
        have HJ2 := qa0 hj
        clear h5 hj
        by_cases h6 : y ≤ z
        ·have dh6 : decide (y ≤ z) = true := by simp; omega
         go_wp2
         go_big_quiet (fail)
         go_wp2
         go_ret
         exact ⟨AnsB.no fun hm => by
          have := (hm.inp i hlt).2.2 (by have := HJ2.out; omega)
          dsimp only at this
          rw [HY.out, HJ.out, HZ.out] at this
          omega, below_drewN HB.out _⟩
        ·have dh6 : decide (y ≤ z) = false := by simp; omega
         go_wp2
         go_big_quiet (fail)
         go_wp2
         exact ⟨⟨i + 1, by omega, by go_num, HP.out.stepr (by rw [HY.out]; omega) (fun _ => by rw [HY.out, HJ.out, HZ.out]; omega) (by rw [HY.out]; omega), HV.out.drewN _, below_drewN HB.out _⟩, by simp [intOf]; omega⟩
    ·obtain rfl : i = ni := by omega
     have H3 := qa0 HP.out
     go_wp2
     go_loopw [4] (fun vi w3 => ∃ j : Nat, j ≤ nn ∧ vi = .int .i64 (j : Int) ∧ (∀ k, k < j → TmP ((i : Int) + (k : Int)) (nt k) (of k) (fc k)) ∧ Vf w3 w.heap.size 25 #[.slice a i p, .slice b nn q, .slice c no r] ∧ Below w.heap.size w w3) (fun vi _ => nn - (intOf vi).toNat)
     case atStart => exact ⟨0, by omega, rfl, fun k hk => by omega, HV.out, HB.out⟩
     case round =>
      clear HV HB x0 x1 x2 HP
      obtain ⟨j, hje, rfl, hp, hv, hb⟩ := hrel
      have HP := qa0 hp
      have HV := qa0 hv
      have HB := qa0 hb
      have x0 := hv.cell 0 _ rfl
      have x1 := hv.cell 1 _ rfl
      have x2 := hv.cell 2 _ rfl
      clear hp hv hb
      by_cases hlt : j < nn
      ·obtain ⟨hnt, xb, ob, t, d, rfl, hc, htm⟩ := HN.out j hlt
       have HT := qa0 htm
       have HC := qa0 hc
       have HXB := qa0 (qa2 hc)
       obtain ⟨n, HK⟩ : ∃ k, Hid (nt j = k) := ⟨_, rfl⟩
       rw [HK.out] at hnt
       have p0 : (0 : Int) ≤ (j : Int) := by omega
       have p1 : (j : Int) < (nn : Int) := by omega
       have w1 : IntKind.i64.wrap ((i : Int) + (j : Int)) = (i : Int) + (j : Int) := by rw [IntKind.wrap_i64]; omega
       obtain ⟨m, HM⟩ : ∃ m, Hid ((i : Int) + (j : Int) = m) := ⟨_, rfl⟩
       rw [HM.out] at w1
       clear htm hc
       go_wp2
       go_loopw [5] (fun vi w4 => ∃ l : Nat, l ≤ n ∧ vi = .int .i64 (l : Int) ∧ TmP m l (of j) (fc j) ∧ Vf w4 w.heap.size 25 #[.slice a i p, .slice (some ⟨xb, ob, none⟩) nn q, .slice c no r] ∧ Below w.heap.size w w4) (fun vi _ => n - (intOf vi).toNat)
       case atStart => exact ⟨0, by omega, rfl, fun k hk => by omega, HV.out, HB.out⟩
       case round =>
        clear HV HB x0 x1 x2
        obtain ⟨l, hle, rfl, hp, hv, hb⟩ := hrel
        have HP2 := qa0 hp
        have HV := qa0 hv
        have HB := qa0 hb
        have x0 := hv.cell 0 _ rfl
        have x1 := hv.cell 1 _ rfl
        have x2 := hv.cell 2 _ rfl
        have hc : wr.cell? ⟨xb, ob + j, none⟩ = some (.slice t n d) := by rw [hb.cell (p := ⟨xb, _, none⟩) HXB.out, HC.out, HK.out]
        clear hp hv
        by_cases hlt2 : l < n
        ·obtain ⟨hg, x, o, rfl, t0, t1⟩ := (HT.out.later hb) l (by rw [HK.out]; exact hlt2)
         obtain ⟨y, HY⟩ : ∃ y, Hid (of j l = y) := ⟨_, rfl⟩
         obtain ⟨z, HZ⟩ : ∃ z, Hid (fc j l = z) := ⟨_, rfl⟩
         rw [HY.out] at t0
         rw [HZ.out] at t1 hg
         have r0 : (0 : Int) ≤ (l : Int) := by omega
         have r1 : (l : Int) < (n : Int) := by omega
         have HL2 := qa0 (show l < nt j by rw [HK.out]; exact hlt2)
         have HV3 := qa0 (HV.out.later (jlow wr (.cells #[.int .i64 y, .int .u8 (z : Int)] 59)))
         have HB3 := qa0 (jtwo HB.out (jlow wr (.cells #[.int .i64 y, .int .u8 (z : Int)] 59)))
         have y0 := HV3.out.cell 0 _ rfl
         have y1 := HV3.out.cell 1 _ rfl
         have hc2 := keepc (jlow wr (.cells #[.int .i64 y, .int .u8 (z : Int)] 59)) hc
         by_cases h3 : z = 0
         ·have H3' := qa0 h3
          have e3 : ((z : Int) == 0) = true := by simp; omega
          clear h3 hb
          go_wp2
          go_big_quiet (fail)
          go_wp2
          go_ret
          exact ⟨AnsB.no fun hm => (hm.nodes j hlt l HL2.out).1 (HZ.out.trans H3'.out), below_drewN HB3.out _⟩
         ·have H3' := qa0 h3
          have e3 : ((z : Int) == 0) = false := by simp; omega
          clear h3 hb
          by_cases h4 : y < 0
          ·have dh4 : decide (y < 0) = true := by simp; omega
           go_wp2
           go_big_quiet (fail)
           go_wp2
           go_ret
           exact ⟨AnsB.no fun hm => by have := (hm.nodes j hlt l HL2.out).2.1; dsimp only at this; rw [HY.out] at this; omega, below_drewN HB3.out _⟩
          ·have dh4 : decide (y < 0) = false := by simp; omega
           by_cases h5 : m ≤ y
           ·have dh5 : decide (m ≤ y) = true := by simp; omega
            have dh5' : decide ((i : Int) + (j : Int) ≤ y) = true := by rw [HM.out]; exact dh5
            go_wp2
            go_big_quiet (fail)
            go_wp2
            go_ret
            exact ⟨AnsB.no fun hm => by have := (hm.nodes j hlt l HL2.out).2.2.1; dsimp only at this; rw [HY.out, HM.out] at this; omega, below_drewN HB3.out _⟩
           ·have dh5 : decide (m ≤ y) = false := by simp; omega
            have dh5' : decide ((i : Int) + (j : Int) ≤ y) = false := by rw [HM.out]; exact dh5
            by_cases h6 : l = 0
            ·have H6 := qa0 h6
             have q0 : ¬ (0 : Int) < (l : Int) := by omega
             have q0d : decide ((0 : Int) < (l : Int)) = false := by simp; omega
             have q0n : decide (0 < l) = false := by simp; omega
             clear h6
             go_wp2
             go_big_quiet (fail)
             go_wp2
             exact ⟨⟨l + 1, by omega, by go_num, HP2.out.stepr (by rw [HY.out]; omega) (fun h => by have := H6.out; omega) (by rw [HY.out]; omega) (by rw [HZ.out]; exact H3'.out), HV3.out.drewN _, below_drewN HB3.out _⟩, by simp [intOf]; omega⟩
            ·have q0 : (0 : Int) < (l : Int) := by omega
             have q0d : decide ((0 : Int) < (l : Int)) = true := by simp; omega
             have q0n : decide (0 < l) = true := by simp; omega
             obtain ⟨l1, HJ⟩ : ∃ l1, Hid (l - 1 = l1) := ⟨_, rfl⟩
             have hj : l1 + 1 = l := by have := HJ.out; omega
             obtain ⟨_, x', o', e', s0, s1⟩ := (HT.out.later HB.out) l1 (by rw [HK.out]; omega)
             cases e'
             obtain ⟨y', HY'⟩ : ∃ z, Hid (of j l1 = z) := ⟨_, rfl⟩
             rw [HY'.out] at s0
             have s0' := (qa2 s0)
             have s2 := keepc (jlow wr (.cells #[.int .i64 y, .int .u8 (z : Int)] 59)) s0
             have w2 : IntKind.i64.wrap ((l : Int) - 1) = (l1 : Int) := by rw [IntKind.wrap_i64]; omega
             have q1 : (0 : Int) ≤ (l1 : Int) := by omega
             have q2 : (l1 : Int) < (n : Int) := by omega
             have HJ2 := qa0 hj
             clear h6 hj
             by_cases h7 : y ≤ y'
             ·have dh7 : decide (y ≤ y') = true := by simp; omega
              go_wp2
              go_big_quiet (fail)
              go_wp2
              go_ret
              exact ⟨AnsB.no fun hm => by
               have := (hm.nodes j hlt l HL2.out).2.2.2 (by have := HJ2.out; omega)
               dsimp only at this
               rw [HY.out, HJ.out, HY'.out] at this
               omega, below_drewN HB3.out _⟩
             ·have dh7 : decide (y ≤ y') = false := by simp; omega
              go_wp2
              go_big_quiet (fail)
              go_wp2
              exact ⟨⟨l + 1, by omega, by go_num, HP2.out.stepr (by rw [HY.out]; omega) (fun _ => by rw [HY.out, HJ.out, HY'.out]; omega) (by rw [HY.out]; omega) (by rw [HZ.out]; exact H3'.out), HV3.out.drewN _, below_drewN HB3.out _⟩, by simp [intOf]; omega⟩
        ·obtain rfl : l = n := by omega
         clear hb
         go_wp2
         refine ⟨⟨j + 1, by omega, by go_num, fun k hk => ?_, HV.out, HB.out⟩, by simp [intOf]; omega⟩
         by_cases e : k = j
         ·subst e; rw [HK.out, HM.out]; exact HP2.out
         ·exact HP.out k (by omega)
      ·obtain rfl : j = nn := by omega
       go_wp2
       go_loopw [7] (fun vi w3 => ∃ l : Nat, l ≤ no ∧ vi = .int .i64 (l : Int) ∧ (∀ k, k < l → 0 ≤ out k ∧ out k < (i : Int) + (j : Int)) ∧ Vf w3 w.heap.size 25 #[.slice a i p, .slice b j q, .slice c no r] ∧ Below w.heap.size w w3) (fun vi _ => no - (intOf vi).toNat)
       case atStart => exact ⟨0, by omega, rfl, fun k hk => by omega, HV.out, HB.out⟩
       case round =>
        clear HV HB x0 x1 x2
        obtain ⟨l, hle, rfl, hp, hv, hb⟩ := hrel
        have HP2 := qa0 hp
        have HV := qa0 hv
        have HB := qa0 hb
        have x0 := hv.cell 0 _ rfl
        have x1 := hv.cell 1 _ rfl
        have x2 := hv.cell 2 _ rfl
        clear hp hv hb
        by_cases hlt : l < no
        ·obtain ⟨x, o, rfl, hc⟩ := (HO.out.later HB.out) l hlt
         obtain ⟨y, HY⟩ : ∃ y, Hid (out l = y) := ⟨_, rfl⟩
         rw [HY.out] at hc
         have p0 : (0 : Int) ≤ (l : Int) := by omega
         have p1 : (l : Int) < (no : Int) := by omega
         have w1 : IntKind.i64.wrap ((i : Int) + (j : Int)) = (i : Int) + (j : Int) := by rw [IntKind.wrap_i64]; omega
         obtain ⟨s, HS⟩ : ∃ s, Hid ((i : Int) + (j : Int) = s) := ⟨_, rfl⟩
         rw [HS.out] at w1
         by_cases h5 : y < 0
         ·have dh5 : decide (y < 0) = true := by simp; omega
          go_wp2
          go_big_quiet (fail)
          go_wp2
          go_ret
          exact ⟨AnsB.no fun hm => by have := hm.outs l hlt; dsimp only at this; rw [HY.out] at this; omega, below_drewN HB.out _⟩
         ·have dh5 : decide (y < 0) = false := by simp; omega
          by_cases h6 : s ≤ y
          ·have dh6 : decide (s ≤ y) = true := by simp; omega
           have dh6' : decide ((i : Int) + (j : Int) ≤ y) = true := by rw [HS.out]; exact dh6
           go_wp2
           go_big_quiet (fail)
           go_wp2
           go_ret
           exact ⟨AnsB.no fun hm => by have := hm.outs l hlt; dsimp only at this; rw [HY.out, HS.out] at this; omega, below_drewN HB.out _⟩
          ·have dh6 : decide (s ≤ y) = false := by simp; omega
           have dh6' : decide ((i : Int) + (j : Int) ≤ y) = false := by rw [HS.out]; exact dh6
           go_wp2
           go_big_quiet (fail)
           go_wp2
           refine ⟨⟨l + 1, by omega, by go_num, fun k hk => ?_, HV.out.drewN _, below_drewN HB.out _⟩, by simp [intOf]; omega⟩
           by_cases e : k = l
           ·subst e; rw [HY.out, HS.out]; omega
           ·exact HP2.out k (by omega)
        ·obtain rfl : l = no := by omega
         go_wp2
         go_ret
         exact ⟨AnsB.yes ⟨h1, h2, H3.out, HP.out, HP2.out⟩, HB.out⟩
  ·have g2 : (64 : Int) < (no : Int) := by omega
   go_enter Try.func17, Try.ntmps17
   go_wp2
   go_ret
   exact ⟨AnsB.no fun hm => h2 hm.o64, HB0.out⟩
 ·have g1 : (4096 : Int) < (nn : Int) := by omega
  go_enter Try.func17, Try.ntmps17
  go_wp2
  go_ret
  exact ⟨AnsB.no fun hm => h1 hm.n4, HB0.out⟩
end Go.Proofs.Ythdgpmanijifoaa
