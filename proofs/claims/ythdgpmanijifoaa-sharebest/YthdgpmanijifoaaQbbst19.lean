/-
  Stage 21: May, of the program and of the reference.
-/
import Derived.Test.YthdgpmanijifoaaQbbst00
import Derived.Test.YthdgpmanijifoaaQbbst18
set_option maxRecDepth 100000
set_option maxHeartbeats 16000000
namespace Go.Proofs.Ythdgpmanijifoaa
open Go.RowKit
theorem qa6 {P : Program} {f : FuncId} {args : Array Value} {w : World} {Pr : Prop} {R : World → Prop} (h : Calls P f args w fun e w' => AnsB e Pr ∧ R w') (hp : Pr) : Calls P f args w fun e w' => e = .returned (.bool true) ∧ R w' :=
 h.mono fun e w' hx => by
  rcases hx.1.use with ⟨_, rfl⟩ | ⟨hn, _⟩
  ·exact ⟨rfl, hx.2⟩
  ·exact absurd hp hn
theorem qad {P : Program} {f : FuncId} {args : Array Value} {w : World} {Pr : Prop} {R : World → Prop} (h : Calls P f args w fun e w' => AnsB e Pr ∧ R w') (hp : ¬ Pr) : Calls P f args w fun e w' => e = .returned (.bool false) ∧ R w' :=
 h.mono fun e w' hx => by
  rcases hx.1.use with ⟨hy, _⟩ | ⟨_, rfl⟩
  ·exact absurd hy hp
  ·exact ⟨rfl, hx.2⟩
theorem qbn (w : World) (a b c : Option Addr) (p q r : Nat) (F : Fl) (h : FlR w a b c F) :
  Calls Try.prog 21 #[flv a F.ni p b F.nn q c F.no r] w fun e w' => AnsB e (MayP F) ∧ Below w.heap.size w w' := by
 have hi := h.hi
 have hn := h.hn
 have ho := h.ho
 have HI := qa0 h.inp
 have HN := qa0 h.nodes
 have HO := qa0 h.outs
 obtain ⟨ni, inp, nn, nt, of, fc, no, out⟩ := F
 dsimp only at hi hn ho HI HN HO ⊢
 clear h
 have HB0 := qa0 (jlow w (.cells #[.slice a ni p, .slice b nn q, .slice c no r] 25))
 have HV0 := qa0 (Vf.new w 25 #[.slice a ni p, .slice b nn q, .slice c no r])
 by_cases h1 : nn ≤ 4096
 ·have g1 : ¬ (4096 : Int) < (nn : Int) := by omega
  by_cases h2 : no ≤ 64
  ·have g2 : ¬ (64 : Int) < (no : Int) := by omega
   by_cases h3 : InP ni inp
   ·have HF := qa0 (fun w' (hb : Below w.heap.size w w') => qa6 (qbm w' a ni p inp (HI.out.later hb) hi) h3)
    have H3 := qa0 h3
    clear h3
    go_enter Try.func21, Try.ntmps21
    go_wp2_with (go_at_call 34; refine (HF.out _ HB0.out).mono ?_; rintro e w' ⟨rfl, rfl⟩)
    go_loopw [26] (fun vi wr => ∃ i : Nat, i ≤ nn ∧ vi = .int .i64 (i : Int) ∧ (∀ k, k < i → TmP ((ni : Int) + (k : Int)) (nt k) (of k) (fc k)) ∧ Vf wr w.heap.size 25 #[.slice a ni p, .slice b nn q, .slice c no r] ∧ Below w.heap.size w wr) (fun vi _ => nn - (intOf vi).toNat)
    case atStart => exact ⟨0, by omega, rfl, fun k hk => by omega, HV0.out, HB0.out⟩
    case round =>
     clear HB0 HV0
     obtain ⟨i, hie, rfl, hp, hv, hb⟩ := hrel
     have HP := qa0 hp
     have HV := qa0 hv
     have HB := qa0 hb
     have x0 := hv.cell 0 _ rfl
     have x1 := hv.cell 1 _ rfl
     have x2 := hv.cell 2 _ rfl
     clear hp hv hb
     by_cases hlt : i < nn
     ·obtain ⟨hnt, x, o, t, d, rfl, hc, htm⟩ := (HN.out.later HB.out) i hlt
      have HT := qa0 htm
      obtain ⟨k, HK⟩ : ∃ k, Hid (nt i = k) := ⟨_, rfl⟩
      rw [HK.out] at hc hnt
      have p0 : (0 : Int) ≤ (i : Int) := by omega
      have p1 : (i : Int) < (nn : Int) := by omega
      have w1 : IntKind.i64.wrap ((ni : Int) + (i : Int)) = (ni : Int) + (i : Int) := by rw [IntKind.wrap_i64]; omega
      have HC := qa0 (ftms_any wr t k d ((ni : Int) + (i : Int)) (of i) (fc i) (by have := HT.out; rw [HK.out] at this; exact this) hnt)
      clear htm
      by_cases h4 : TmP ((ni : Int) + (i : Int)) k (of i) (fc i)
      ·have HC2 := qa0 (qa6 HC.out h4)
       have H4 := qa0 h4
       clear h4 HC
       go_wp2_with (go_at_call 35; refine HC2.out.mono ?_; rintro e w2 ⟨rfl, hb2⟩; have HB2 := qa0 (jtwo HB.out hb2); have HV2 := qa0 (HV.out.later hb2); clear hb2)
       refine ⟨⟨i + 1, by omega, by go_num, fun k' hk' => ?_, HV2.out, HB2.out⟩, by simp [intOf]; omega⟩
       by_cases e : k' = i
       ·subst e; rw [HK.out]; exact H4.out
       ·exact HP.out k' (by omega)
      ·have HC2 := qa0 (qad HC.out h4)
       have H4 := qa0 h4
       clear h4 HC
       go_wp2_with (go_at_call 35; refine HC2.out.mono ?_; rintro e w2 ⟨rfl, hb2⟩; have HB2 := qa0 (jtwo HB.out hb2); clear hb2)
       go_ret
       exact ⟨AnsB.no fun hm => H4.out (by have := hm.nodes i hlt; dsimp only at this; rw [HK.out] at this; exact this), HB2.out⟩
     ·obtain rfl : i = nn := by omega
      go_wp2
      go_loopw [43] (fun vi w3 => ∃ j : Nat, j ≤ no ∧ vi = .int .i64 (j : Int) ∧ (∀ k, k < j → 0 ≤ out k ∧ out k < (ni : Int) + (i : Int)) ∧ Vf w3 w.heap.size 25 #[.slice a ni p, .slice b i q, .slice c no r] ∧ Below w.heap.size w w3) (fun vi _ => no - (intOf vi).toNat)
      case atStart => exact ⟨0, by omega, rfl, fun k hk => by omega, HV.out, HB.out⟩
      case round =>
       clear HV HB x0 x1 x2
       obtain ⟨j, hje, rfl, hp, hv, hb⟩ := hrel
       have HP2 := qa0 hp
       have HV := qa0 hv
       have HB := qa0 hb
       have x0 := hv.cell 0 _ rfl
       have x1 := hv.cell 1 _ rfl
       have x2 := hv.cell 2 _ rfl
       clear hp hv hb
       by_cases hlt : j < no
       ·obtain ⟨x, o, rfl, hc⟩ := (HO.out.later HB.out) j hlt
        obtain ⟨y, HY⟩ : ∃ y, Hid (out j = y) := ⟨_, rfl⟩
        rw [HY.out] at hc
        have p0 : (0 : Int) ≤ (j : Int) := by omega
        have p1 : (j : Int) < (no : Int) := by omega
        by_cases h5 : y < 0
        ·go_wp2
         go_ret
         exact ⟨AnsB.no fun hm => by have := hm.outs j hlt; dsimp only at this; rw [HY.out] at this; omega, HB.out⟩
        ·obtain ⟨s, HS⟩ : ∃ s, Hid ((ni : Int) + (i : Int) = s) := ⟨_, rfl⟩
         have HC := qa0 (fun w' => fcnt_any w' a b (some ⟨x, o, none⟩) ni p i q no r hi hn)
         rw [HS.out] at HC
         by_cases h6 : s ≤ y
         ·go_wp2_with (go_at_call 36; refine (HC.out _).mono ?_; rintro e w2 ⟨rfl, hb2⟩; have HB2 := qa0 (jtwo HB.out hb2); clear hb2)
          go_ret
          exact ⟨AnsB.no fun hm => by have := hm.outs j hlt; dsimp only at this; rw [HY.out, HS.out] at this; omega, HB2.out⟩
         ·go_wp2_with (go_at_call 36; refine (HC.out _).mono ?_; rintro e w2 ⟨rfl, hb2⟩; have HB2 := qa0 (jtwo HB.out hb2); have HV2 := qa0 (HV.out.later hb2); clear hb2)
          refine ⟨⟨j + 1, by omega, by go_num, fun k hk => ?_, HV2.out, HB2.out⟩, by simp [intOf]; omega⟩
          by_cases e : k = j
          ·subst e; rw [HY.out, HS.out]; omega
          ·exact HP2.out k (by omega)
       ·obtain rfl : j = no := by omega
        go_wp2
        go_ret
        exact ⟨AnsB.yes ⟨h1, h2, H3.out, HP.out, HP2.out⟩, HB.out⟩
   ·have HF := qa0 (fun w' (hb : Below w.heap.size w w') => qad (qbm w' a ni p inp (HI.out.later hb) hi) h3)
    have H3 := qa0 h3
    clear h3
    go_enter Try.func21, Try.ntmps21
    go_wp2_with (go_at_call 34; refine (HF.out _ HB0.out).mono ?_; rintro e w' ⟨rfl, rfl⟩)
    go_ret
    exact ⟨AnsB.no fun hm => H3.out hm.inp, HB0.out⟩
  ·have g2 : (64 : Int) < (no : Int) := by omega
   go_enter Try.func21, Try.ntmps21
   go_wp2
   go_ret
   exact ⟨AnsB.no fun hm => h2 hm.o64, HB0.out⟩
 ·have g1 : (4096 : Int) < (nn : Int) := by omega
  go_enter Try.func21, Try.ntmps21
  go_wp2
  go_ret
  exact ⟨AnsB.no fun hm => h1 hm.n4, HB0.out⟩
end Go.Proofs.Ythdgpmanijifoaa
