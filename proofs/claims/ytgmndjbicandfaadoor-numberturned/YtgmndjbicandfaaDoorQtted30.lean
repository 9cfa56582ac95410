/-
  Stage 12: MayEnv, of the reference.
-/
import Derived.Test.YtgmndjbicandfaaDoorQtted10
import Derived.Test.YtgmndjbicandfaaDoorQtted29
import Derived.Test.YtgmndjbicandfaaDoorQtted00
set_option maxRecDepth 100000
set_option maxHeartbeats 16000000
namespace Go.Proofs.YtgmndjbicandfaaDoor
open Go.RowKit
theorem rmayenv (w : World) (a : Option Addr) (n c : Nat) (F : Nat → Cn) (hE : EL w a n F) (hn : n ≤ 140737488351232) :
  Calls Tryd.prog 18 #[.slice a n c] w fun e w' => e = .returned (.bool (mayE F n)) ∧ Below w.heap.size w w' := by
 have HE := qa0 hE
 clear hE
 go_enter Tryd.func18, Tryd.ntmps18
 go_wp2
 go_loopw [3] (fun vi wr => ∃ (i : Nat), i ≤ n ∧ vi = .int .i64 (i : Int) ∧ Hid (mayE F i = true) ∧ Below w.heap.size w wr) (fun vi _ => n - (intOf vi).toNat)
 case atStart => exact ⟨0, by omega, rfl, rfl, Below.refl _ _⟩
 case round =>
  obtain ⟨i, hi, rfl, HM, hb⟩ := hrel
  have HB := qa0 hb
  by_cases hlt : i < n
  ·have p0 : (0 : Int) ≤ (i : Int) := by omega
   have p1 : (i : Int) < (n : Int) := by omega
   obtain ⟨⟨hs, hn1, hn2⟩, b, o, rfl, k0, k1⟩ := (HE.out.later hb) i hlt
   have HNo : Hid ((isN (F i).nm && nmB (F i).n && (elk F i (F i).nm).isNone) = false → mayE F n = false) := fun h => qdp hlt h
   have HYes : Hid ((isN (F i).nm && nmB (F i).n && (elk F i (F i).nm).isNone) = true → mayE F (i + 1) = true) := fun h => by
    show (mayE F i && _) = true
    rw [HM.out, h]
    rfl
   have HEl : Hid ((∀ j, j < i → (F j).nm ≠ (F i).nm) → elk F i (F i).nm = none) := fun h => qb3.2 h
   have HEn : Hid (∀ j, j < i → (F j).nm = (F i).nm → (elk F i (F i).nm).isNone = false) := fun j hj e => by
    cases hq : elk F i (F i).nm with
    | none => exact absurd e (qb3.1 hq j hj)
    | some v => rfl
   have HI : Hid (∀ w' : World, Calls Tryd.prog 33 #[.string (F i).nm] w' fun e w'' => e = .returned (.bool (isN (F i).nm)) ∧ Below w'.heap.size w' w'') := fun w' => qbp w' _ _ rfl hs
   have HN : Hid (∀ w' : World, Calls Tryd.prog 20 #[.int .i64 (F i).n] w' fun e w'' => e = .returned (.bool (nmB (F i).n)) ∧ w' = w'') := fun w' => qch w' _
   have HCl : Hid (∀ w', Below w.heap.size w w' → w'.cell? ⟨b, o + i * 2, none⟩ = some (.string (F i).nm) ∧ w'.cell? ⟨b, o + i * 2 + 1, none⟩ = some (.int .i64 (F i).n)) := fun w' hb' => by
    obtain ⟨_, b', o', e', g0, g1⟩ := (HE.out.later hb') i hlt
    cases e'
    exact ⟨g0, g1⟩
   have HCj : Hid (∀ (j : Nat) (w' : World), j < i → Below w.heap.size w w' → w'.cell? ⟨b, o + j * 2, none⟩ = some (.string (F j).nm)) := fun j w' hj hb' => by
    obtain ⟨_, b', o', e', g0, _⟩ := (HE.out.later hb') j (by omega)
    cases e'
    exact g0
   clear HM hb
   cases h1 : isN (F i).nm with
   | false =>
    rw [h1] at HI HNo
    have hf := HNo.out rfl
    have Hf := qa0 hf
    clear HNo HYes HN HEl HEn hf
    go_wp2_with (go_at_call 33; refine (HI.out _).mono ?_; rintro e w1 ⟨rfl, hb1⟩; have HB1 := qa0 (jtwo HB.out hb1); clear hb1)
    go_ret
    exact ⟨by rw [Hf.out]; rfl, HB1.out⟩
   | true =>
    rw [h1] at HI HNo HYes
    cases h2 : nmB (F i).n with
    | false =>
     rw [h2] at HN HNo
     have hf := HNo.out rfl
     have Hf := qa0 hf
     clear HNo HYes HEl HEn hf
     go_wp2_with (first
      | (go_at_call 33; refine (HI.out _).mono ?_; rintro e w1 ⟨rfl, hb1⟩; have HB1 := qa0 (jtwo HB.out hb1); obtain ⟨m0, m1⟩ := HCl.out _ HB1.out; clear hb1)
      | (go_at_call 20; refine (HN.out _).mono ?_; rintro e w2 ⟨rfl, rfl⟩))
     go_ret
     exact ⟨by rw [Hf.out]; rfl, HB1.out⟩
    | true =>
     rw [h2] at HN HNo HYes
     clear h1 h2
     go_wp2_with (first
      | (go_at_call 33; refine (HI.out _).mono ?_; rintro e w1 ⟨rfl, hb1⟩; have HB1 := qa0 (jtwo HB.out hb1); obtain ⟨m0, m1⟩ := HCl.out _ HB1.out; clear hb1)
      | (go_at_call 20; refine (HN.out _).mono ?_; rintro e w2 ⟨rfl, rfl⟩))
     clear k0 k1 m0 m1
     go_loopw [4] (fun vk ws => ∃ (j : Nat), j ≤ i ∧ vk = .int .i64 (j : Int) ∧ Hid (∀ j', j' < j → (F j').nm ≠ (F i).nm) ∧ Below w.heap.size w ws) (fun vk _ => i - (intOf vk).toNat)
     case atStart => exact ⟨0, by omega, rfl, fun j' h' => by omega, HB1.out⟩
     case round =>
      obtain ⟨j, hj, rfl, HD, hb2⟩ := hrel
      have HB2 := qa0 hb2
      by_cases hlt2 : j < i
      ·have p2 : (0 : Int) ≤ (j : Int) := by omega
       have p3 : (j : Int) < (n : Int) := by omega
       have p4 : (j : Int) < (i : Int) := by omega
       obtain ⟨m0, m1⟩ := HCl.out _ hb2
       have mj := HCj.out j _ hlt2 hb2
       by_cases e : (F j).nm = (F i).nm
       ·have q : ((F j).nm.toList == (F i).nm.toList) = true := qb7.2 e
        have Hf := qa0 (HNo.out (by rw [HEn.out j hlt2 e]; rfl))
        clear HNo HYes HEl HEn HCl HCj HI HN HD hb2
        generalize (F j).nm = s2 at *
        generalize (F i).nm = s1 at *
        clear e
        go_wp2
        go_quiet (fail)
        go_wp2
        go_ret
        exact ⟨by rw [Hf.out]; rfl, below_drewN HB2.out _⟩
       ·have q : ((F j).nm.toList == (F i).nm.toList) = false := qbc e
        have HD2 : Hid (∀ j', j' < j + 1 → (F j').nm ≠ (F i).nm) := fun j' h' => by
         by_cases e2 : j' = j
         ·subst e2; exact e
         ·exact HD.out j' (by omega)
        obtain ⟨s2, Hs2⟩ : ∃ s, Hid ((F j).nm = s) := ⟨_, rfl⟩
        obtain ⟨s1, Hs1⟩ : ∃ s, Hid ((F i).nm = s) := ⟨_, rfl⟩
        rw [Hs2.out, Hs1.out] at q
        rw [Hs2.out] at mj
        rw [Hs1.out] at m0
        clear HNo HYes HEl HEn HCl HCj HI HN HD hb2 e Hs1 Hs2
        go_wp2
        go_quiet (fail)
        go_wp2
        exact ⟨⟨j + 1, by omega, by go_num, HD2, below_drewN HB2.out _⟩, by simp [intOf]; omega⟩
      ·obtain rfl : j = i := by omega
       have Hy := qa0 (HYes.out (by rw [HEl.out HD.out]; rfl))
       clear HNo HYes HEl HEn HCl HCj HI HN HD hb2
       go_wp2
       exact ⟨⟨j + 1, by omega, by go_num, Hy, HB2.out⟩, by simp [intOf]; omega⟩
  ·obtain rfl : i = n := by omega
   clear hb
   go_wp2
   go_ret
   exact ⟨by rw [HM.out]; rfl, HB.out⟩
end Go.Proofs.YtgmndjbicandfaaDoor
