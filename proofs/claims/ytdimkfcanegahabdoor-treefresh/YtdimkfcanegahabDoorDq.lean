/-
  Contracts of the program's tree: putShape.
-/
import Derived.Test.YtdimkfcanegahabDoorDp
namespace Go.Proofs.YtdimkfcanegahabDoor
open Go.RowKit
theorem gSw : Tryd.prog.globalNamed "recoup/tree.shapeWords" = some 2 := by kernel_rfl
theorem Sw10.cell {w : World} (h : Sw10 w) (k : Nat) (h4 : 2 ≤ k) (h8 : k ≤ 8) : w.cell? ⟨2, k, none⟩ = some (.string ⟨(wdb k).toArray⟩) := by
  rw [World.var?_cell gSw h k]
  obtain rfl | rfl | rfl | rfl | rfl | rfl | rfl : k = 2 ∨ k = 3 ∨ k = 4 ∨ k = 5 ∨ k = 6 ∨ k = 7 ∨ k = 8 := by omega
  all_goals rfl
/-- How much room the parts of a shape d deep want. -/
def rm10 (d : Nat) : Nat := 400000000 + 20000000 * d
theorem rm10_succ (d : Nat) : rm10 (d + 1) = rm10 d + 20000000 := by unfold rm10; omega
theorem rm10_low (d : Nat) : 400000000 ≤ rm10 d := by unfold rm10; omega
theorem MS.no {S : St} (h : MS 0 S) : False := by
  obtain ⟨left, _, h⟩ := h
  exact absurd h (by show ¬ (0 : Int) ≤ -1; omega)
theorem stk_pieces {d : Nat} {S : St} (h : MS (d + 1) S) : (rtk (S []).args (S []).na).length ≤ 57344 ∧ (ptk (stk d) (part S) (S []).np).length ≤ 57344 ∧ (mtk (S []).rl (S []).rows (S []).nr).length ≤ 57344 := by
  have h1 := h.toks
  obtain ⟨hw, _⟩ := h.parts
  rw [stk_succ] at h1
  rcases swant_cases hw with ⟨k1, hn, na, np, nr⟩ | ⟨k2, k5, _, na, np, nr⟩ | ⟨k6, k7, _, na, np, nr⟩ | ⟨k8, _, na, np, nr⟩
  · rw [na, np, nr]
    exact ⟨Nat.zero_le _, Nat.zero_le _, Nat.zero_le _⟩
  · rw [if_neg (by omega), if_neg (by omega)] at h1
    simp only [List.length_cons, List.length_append] at h1
    rw [nr]
    exact ⟨by omega, by omega, Nat.zero_le _⟩
  · rw [if_neg (by omega), if_neg (by omega)] at h1
    simp only [List.length_cons, List.length_append] at h1
    rw [nr]
    exact ⟨by omega, by omega, Nat.zero_le _⟩
  · rw [if_neg (by omega), if_pos k8] at h1
    simp only [List.length_cons, List.length_append] at h1
    rw [na, np]
    exact ⟨Nat.zero_le _, Nat.zero_le _, by omega⟩
set_option maxRecDepth 20000 in
set_option maxHeartbeats 8000000 in
theorem tputs : ∀ (d : Nat) (w0 w : World) (bc : Nat) (L : List TV) (S : St) (v : Value), d ≤ 16 → SV w0 v S → MS d S → Xs10 w0 → Sw10 w0 → Lp w0 w bc L → Room L (rm10 d) →
    Calls Tryd.prog 28 #[.func (.func 21) #[] #[.pointer (some ⟨bc, 0, none⟩)], v] w fun e w' => e = .returned (.tuple #[]) ∧ Lp w0 w' bc (L ++ stk d S) ∧ Gw bc w w' := by
  intro d
  induction d with
  | zero => intro w0 w bc L S v _ _ h; exact h.no.elim
  | succ d ih =>
    intro w0 w bc L S v hd hX hM hs hsw hL hr
    have HRm := hr
    clear hr
    obtain ⟨hw, hMa, hMr, hMp⟩ := hM.parts
    have HLn : ∃ _ : Unit, (rtk (S []).args (S []).na).length ≤ 57344 ∧ (ptk (stk d) (part S) (S []).np).length ≤ 57344 ∧ (mtk (S []).rl (S []).rows (S []).nr).length ≤ 57344 := ⟨(), stk_pieces hM⟩
    have HE : Hid (stk (d + 1) S = if (S []).k = 1 then [tkN (S []).nm]
      else if (S []).k = 8 then tkW ⟨(wdb (S []).k).toArray⟩ :: tkS ⟨#[91]⟩ :: (mtk (S []).rl (S []).rows (S []).nr ++ [tkS ⟨#[93]⟩])
      else tkW ⟨(wdb (S []).k).toArray⟩ :: tkS ⟨#[40]⟩ :: (rtk (S []).args (S []).na ++ (ptk (stk d) (part S) (S []).np ++ [tkS ⟨#[41]⟩]))) := rfl
    rw [HE.out]
    obtain ⟨⟨aa, pa, ra, ca, cp, cr, rfl, ha, hrr, hp⟩, hok⟩ := hX
    have hways := swant_cases hw
    have HSw := jhid9 hsw
    have HCa : Hid ((S []).na ≤ 64 → ∀ (w' : World) (L' : List TV), Lp w0 w' bc L' → Room L' 3000000 → Calls Tryd.prog 48 #[.func (.func 21) #[] #[.pointer (some ⟨bc, 0, none⟩)], .slice aa (S []).na ca] w' fun e w'' => e = .returned (.tuple #[]) ∧ Lp w0 w'' bc (L' ++ rtk (S []).args (S []).na) ∧ Gw bc w' w'') := fun h64 w' L' h1 h2 => tputxs w0 w' bc L' aa _ ca _ ha h64 hMa hs h1 h2
    have HCr : Hid ((S []).nr ≤ 64 → ∀ (w' : World) (L' : List TV), Lp w0 w' bc L' → Room L' 300000000 → Calls Tryd.prog 47 #[.func (.func 21) #[] #[.pointer (some ⟨bc, 0, none⟩)], .slice ra (S []).nr cr] w' fun e w'' => e = .returned (.tuple #[]) ∧ Lp w0 w'' bc (L' ++ mtk (S []).rl (S []).rows (S []).nr) ∧ Gw bc w' w'') := fun h64 w' L' h1 h2 => tputrows w0 w' bc L' ra _ cr _ _ hrr h64 (fun i hi => ⟨(hMr i hi).2.1, (hMr i hi).2.2⟩) hs h1 h2
    have HCp : Hid ((S []).np ≤ 64 → ∀ (w' : World) (L' : List TV), Lp w0 w' bc L' → Room L' (rm10 d + 10000000) → Calls Tryd.prog 49 #[.func (.func 21) #[] #[.pointer (some ⟨bc, 0, none⟩)], .slice pa (S []).np cp] w' fun e w'' => e = .returned (.tuple #[]) ∧ Lp w0 w'' bc (L' ++ ptk (stk d) (part S) (S []).np) ∧ Gw bc w' w'') := fun h64 w' L' h1 h2 => tputparts w0 w' bc L' pa _ cp d (rm10 d) _ (fun i w L v hi hv hl hr => ih w0 w bc L _ v (by omega) hv (hMp i hi) hs hsw hl hr) hp h64 (fun i hi => (hMp i hi).toks) h1 h2
    have hsz : (S []).na ≤ 64 ∧ (S []).np ≤ 64 ∧ (S []).nr ≤ 64 := by
      have hwn := hw
      unfold swant at hwn
      rcases hways with ⟨k1, hn, na, np, nr⟩ | ⟨k2, k5, _, na, np, nr⟩ | ⟨k6, k7, _, na, np, nr⟩ | ⟨k8, _, na, np, nr⟩
      · omega
      · refine ⟨?_, by omega, by omega⟩
        rw [if_neg (by omega)] at hwn
        by_cases h23 : (S []).k = 2 ∨ (S []).k = 3
        · rw [if_pos h23] at hwn; simp only [Bool.and_eq_true, decide_eq_true_eq] at hwn; omega
        · rw [if_neg h23, if_pos (by omega)] at hwn; simp only [Bool.and_eq_true, decide_eq_true_eq] at hwn; omega
      · omega
      · refine ⟨by omega, by omega, ?_⟩
        rw [if_neg (by omega), if_neg (by omega), if_neg (by omega), if_neg (by omega), if_pos k8] at hwn
        simp only [Bool.and_eq_true, decide_eq_true_eq] at hwn
        omega
    obtain ⟨R1, hR1⟩ : ∃ R1, rm10 (d + 1) = R1 := ⟨_, rfl⟩
    obtain ⟨R0, hR0⟩ : ∃ R0, rm10 d = R0 := ⟨_, rfl⟩
    have HRR : ∃ _ : Unit, R1 = R0 + 20000000 ∧ 400000000 ≤ R0 := ⟨(), by rw [← hR1, ← hR0]; exact ⟨rm10_succ d, rm10_low d⟩⟩
    rw [hR1] at HRm
    rw [hR0] at HCp
    clear hR1 hR0
    have HCa := jhid9 (HCa.out hsz.1)
    have HCp := jhid9 (HCp.out hsz.2.1)
    have HCr := jhid9 (HCr.out hsz.2.2)
    have HL := jhid9 hL
    have HG := jhid9 (Gw.of (bc := bc) (jlow w (.cells #[.int .u8 ((S []).k : Int), .string (S []).nm, .slice aa (S []).na ca, .slice pa (S []).np cp, .slice ra (S []).nr cr, .int .i64 (S []).ln, .int .i64 (S []).cl] 38)))
    have HX := jhid9 (Bx.new hL 38 #[.int .u8 ((S []).k : Int), .string (S []).nm, .slice aa (S []).na ca, .slice pa (S []).np cp, .slice ra (S []).nr cr, .int .i64 (S []).ln, .int .i64 (S []).cl] (by decide))
    replace HL := jhid9 (HL.out.later (jlow w (.cells #[.int .u8 ((S []).k : Int), .string (S []).nm, .slice aa (S []).na ca, .slice pa (S []).np cp, .slice ra (S []).nr cr, .int .i64 (S []).ln, .int .i64 (S []).cl] 38)))
    have hkw : ((S []).k = 1) ∨ ((S []).k ≠ 1 ∧ 2 ≤ (S []).k ∧ (S []).k ≤ 8) := by rcases hways with ⟨k1, _⟩ | ⟨k2, k5, _⟩ | ⟨k6, k7, _⟩ | ⟨k8, _⟩ <;> omega
    clear HE hL hs hsw hok ha hrr hp hways hMa hMr hMp hM hsz ih
    generalize ptk (stk d) (part S) (S []).np = XP at *
    generalize rtk (S []).args (S []).na = XA1 at *
    generalize mtk (S []).rl (S []).rows (S []).nr = XM at *
    clear hw
    generalize S [] = l at *
    obtain ⟨k, nm, na, args, np, nr, rl, rows, ln, cl⟩ := l
    have hkw : k = 1 ∨ (k ≠ 1 ∧ 2 ≤ k ∧ k ≤ 8) := hkw
    have m0 := HX.out.cell 0 _ rfl
    have m1 := HX.out.cell 1 _ rfl
    have m2 := HX.out.cell 2 _ rfl
    have m3 := HX.out.cell 3 _ rfl
    have m4 := HX.out.cell 4 _ rfl
    rcases hkw with h1 | ⟨h1, h2, h8⟩
    · have HEq : Hid ((if k = 1 then [tkN nm] else if k = 8 then tkW ⟨(wdb k).toArray⟩ :: tkS ⟨#[91]⟩ :: (XM ++ [tkS ⟨#[93]⟩]) else tkW ⟨(wdb k).toArray⟩ :: tkS ⟨#[40]⟩ :: (XA1 ++ (XP ++ [tkS ⟨#[41]⟩]))) = [tkN nm]) := by show _ = _; rw [if_pos h1]
      show Calls _ _ _ _ fun e w' => _ ∧ Lp w0 w' bc (L ++ (if k = 1 then [tkN nm] else if k = 8 then tkW ⟨(wdb k).toArray⟩ :: tkS ⟨#[91]⟩ :: (XM ++ [tkS ⟨#[93]⟩]) else tkW ⟨(wdb k).toArray⟩ :: tkS ⟨#[40]⟩ :: (XA1 ++ (XP ++ [tkS ⟨#[41]⟩])))) ∧ _
      rw [HEq.out]
      have q1 : ((k : Int) == 1) = true := by simp; omega
      have HSg : Hid (∀ w' : World, Sw10 w' → True) := fun _ _ => trivial
      have s3 := (HSg.out _ (HSw.out.later HL.out.below))
      clear HEq h1
      have M0 : True := trivial
      go_enter Tryd.func28, Tryd.ntmps28
      go_wp2_with (first
        | (go_at_call 25; refine (tname10 _ _).mono ?_; rintro e w1 ⟨rfl, hb1⟩; replace HL := jhid9 (HL.out.later hb1); replace HG := jhid9 (HG.out.trans (Gw.of hb1)); replace HX := jhid9 (HX.out.step (Gw.of hb1)); clear hb1; replace m0 := HX.out.cell 0 _ rfl; replace m1 := HX.out.cell 1 _ rfl; replace m2 := HX.out.cell 2 _ rfl; replace m3 := HX.out.cell 3 _ rfl; replace m4 := HX.out.cell 4 _ rfl; replace s3 := (HSg.out _ (HSw.out.later HL.out.below)))
        | (go_at_call 21; clear M0; refine (tput w0 _ bc _ (tkN nm) _ rfl HL (by (repeat rw [List.length_append]) <;> (try simp only [List.length_cons]) <;> (try simp only [List.length_nil]) <;> (have hr1 := HRm.le; obtain ⟨_, hr3⟩ := HRR; obtain ⟨_, hr2⟩ := HLn; omega))).mono ?_; rintro e w1 ⟨rfl, hl1, hg1⟩; replace HL := jhid9 hl1; replace HG := jhid9 (HG.out.trans hg1); replace HX := jhid9 (HX.out.step hg1); clear hl1 hg1; replace m0 := HX.out.cell 0 _ rfl; replace m1 := HX.out.cell 1 _ rfl; replace m2 := HX.out.cell 2 _ rfl; replace m3 := HX.out.cell 3 _ rfl; replace m4 := HX.out.cell 4 _ rfl; replace s3 := (HSg.out _ (HSw.out.later HL.out.below))))
      go_end0
      refine ⟨rfl, ?_, HG.out⟩
      have h9 := HL.out
      simpa using h9
    have q1 : ((k : Int) == 1) = false := by simp; omega
    have p0 : (0 : Int) ≤ (k : Int) := by omega
    have p1 : (k : Int) < 9 := by omega
    have HSg0 : Hid (∀ w' : World, Sw10 w' → w'.cell? ⟨2, k, none⟩ = some (.string ⟨(wdb k).toArray⟩)) := fun w' h => h.cell k h2 h8
    obtain ⟨sg, Hsg⟩ : ∃ sg : ByteArray, Hid (⟨(wdb k).toArray⟩ = sg) := ⟨_, rfl⟩
    rw [Hsg.out] at HSg0
    have HSg := HSg0
    clear HSg0
    have s3 := (HSg.out _ (HSw.out.later HL.out.below))
    by_cases hk8 : k = 8
    · have HEq : Hid ((if k = 1 then [tkN nm] else if k = 8 then tkW ⟨(wdb k).toArray⟩ :: tkS ⟨#[91]⟩ :: (XM ++ [tkS ⟨#[93]⟩]) else tkW ⟨(wdb k).toArray⟩ :: tkS ⟨#[40]⟩ :: (XA1 ++ (XP ++ [tkS ⟨#[41]⟩]))) = tkW sg :: tkS ⟨#[91]⟩ :: (XM ++ [tkS ⟨#[93]⟩])) := by show _ = _; rw [if_neg h1, if_pos hk8, Hsg.out]
      show Calls _ _ _ _ fun e w' => _ ∧ Lp w0 w' bc (L ++ (if k = 1 then [tkN nm] else if k = 8 then tkW ⟨(wdb k).toArray⟩ :: tkS ⟨#[91]⟩ :: (XM ++ [tkS ⟨#[93]⟩]) else tkW ⟨(wdb k).toArray⟩ :: tkS ⟨#[40]⟩ :: (XA1 ++ (XP ++ [tkS ⟨#[41]⟩])))) ∧ _
      rw [HEq.out]
      have q8 : ((k : Int) == 8) = true := by simp; omega
      clear HEq h1 h2 h8 hk8 Hsg
      have M0 : True := trivial
      have M1 : True := trivial
      have M2 : True := trivial
      go_enter Tryd.func28, Tryd.ntmps28
      go_wp2_with (first
        | (go_at_call 24; refine (tword10 _ _).mono ?_; rintro e w1 ⟨rfl, hb1⟩; replace HL := jhid9 (HL.out.later hb1); replace HG := jhid9 (HG.out.trans (Gw.of hb1)); replace HX := jhid9 (HX.out.step (Gw.of hb1)); clear hb1; replace m0 := HX.out.cell 0 _ rfl; replace m1 := HX.out.cell 1 _ rfl; replace m2 := HX.out.cell 2 _ rfl; replace m3 := HX.out.cell 3 _ rfl; replace m4 := HX.out.cell 4 _ rfl; replace s3 := (HSg.out _ (HSw.out.later HL.out.below)))
        | (go_at_call 26; refine (tsign10 _ _).mono ?_; rintro e w1 ⟨rfl, hb1⟩; replace HL := jhid9 (HL.out.later hb1); replace HG := jhid9 (HG.out.trans (Gw.of hb1)); replace HX := jhid9 (HX.out.step (Gw.of hb1)); clear hb1; replace m0 := HX.out.cell 0 _ rfl; replace m1 := HX.out.cell 1 _ rfl; replace m2 := HX.out.cell 2 _ rfl; replace m3 := HX.out.cell 3 _ rfl; replace m4 := HX.out.cell 4 _ rfl; replace s3 := (HSg.out _ (HSw.out.later HL.out.below)))
        | (go_at_call 21; clear M0; refine (tput w0 _ bc _ (tkW sg) _ rfl HL (by (repeat rw [List.length_append]) <;> (try simp only [List.length_cons]) <;> (try simp only [List.length_nil]) <;> (have hr1 := HRm.le; obtain ⟨_, hr3⟩ := HRR; obtain ⟨_, hr2⟩ := HLn; omega))).mono ?_; rintro e w1 ⟨rfl, hl1, hg1⟩; replace HL := jhid9 hl1; replace HG := jhid9 (HG.out.trans hg1); replace HX := jhid9 (HX.out.step hg1); clear hl1 hg1; replace m0 := HX.out.cell 0 _ rfl; replace m1 := HX.out.cell 1 _ rfl; replace m2 := HX.out.cell 2 _ rfl; replace m3 := HX.out.cell 3 _ rfl; replace m4 := HX.out.cell 4 _ rfl; replace s3 := (HSg.out _ (HSw.out.later HL.out.below)))
        | (go_at_call 21; clear M1; refine (tput w0 _ bc _ (tkS ⟨#[91]⟩) _ rfl HL (by (repeat rw [List.length_append]) <;> (try simp only [List.length_cons]) <;> (try simp only [List.length_nil]) <;> (have hr1 := HRm.le; obtain ⟨_, hr3⟩ := HRR; obtain ⟨_, hr2⟩ := HLn; omega))).mono ?_; rintro e w1 ⟨rfl, hl1, hg1⟩; replace HL := jhid9 hl1; replace HG := jhid9 (HG.out.trans hg1); replace HX := jhid9 (HX.out.step hg1); clear hl1 hg1; replace m0 := HX.out.cell 0 _ rfl; replace m1 := HX.out.cell 1 _ rfl; replace m2 := HX.out.cell 2 _ rfl; replace m3 := HX.out.cell 3 _ rfl; replace m4 := HX.out.cell 4 _ rfl; replace s3 := (HSg.out _ (HSw.out.later HL.out.below)))
        | (go_at_call 47; refine (HCr.out _ _ HL.out ⟨(), by (repeat rw [List.length_append]) <;> (try simp only [List.length_cons]) <;> (try simp only [List.length_nil]) <;> (have hr1 := HRm.le; obtain ⟨_, hr3⟩ := HRR; obtain ⟨_, hr2⟩ := HLn; omega)⟩).mono ?_; rintro e w1 ⟨rfl, hl1, hg1⟩; replace HL := jhid9 hl1; replace HG := jhid9 (HG.out.trans hg1); replace HX := jhid9 (HX.out.step hg1); clear hl1 hg1; replace m0 := HX.out.cell 0 _ rfl; replace m1 := HX.out.cell 1 _ rfl; replace m2 := HX.out.cell 2 _ rfl; replace m3 := HX.out.cell 3 _ rfl; replace m4 := HX.out.cell 4 _ rfl; replace s3 := (HSg.out _ (HSw.out.later HL.out.below)))
        | (go_at_call 21; clear M2; refine (tput w0 _ bc _ (tkS ⟨#[93]⟩) _ rfl HL (by (repeat rw [List.length_append]) <;> (try simp only [List.length_cons]) <;> (try simp only [List.length_nil]) <;> (have hr1 := HRm.le; obtain ⟨_, hr3⟩ := HRR; obtain ⟨_, hr2⟩ := HLn; omega))).mono ?_; rintro e w1 ⟨rfl, hl1, hg1⟩; replace HL := jhid9 hl1; replace HG := jhid9 (HG.out.trans hg1); replace HX := jhid9 (HX.out.step hg1); clear hl1 hg1; replace m0 := HX.out.cell 0 _ rfl; replace m1 := HX.out.cell 1 _ rfl; replace m2 := HX.out.cell 2 _ rfl; replace m3 := HX.out.cell 3 _ rfl; replace m4 := HX.out.cell 4 _ rfl; replace s3 := (HSg.out _ (HSw.out.later HL.out.below))))
      go_end0
      refine ⟨rfl, ?_, HG.out⟩
      have h9 := HL.out
      simpa using h9
    · have HEq : Hid ((if k = 1 then [tkN nm] else if k = 8 then tkW ⟨(wdb k).toArray⟩ :: tkS ⟨#[91]⟩ :: (XM ++ [tkS ⟨#[93]⟩]) else tkW ⟨(wdb k).toArray⟩ :: tkS ⟨#[40]⟩ :: (XA1 ++ (XP ++ [tkS ⟨#[41]⟩]))) = tkW sg :: tkS ⟨#[40]⟩ :: (XA1 ++ (XP ++ [tkS ⟨#[41]⟩]))) := by show _ = _; rw [if_neg h1, if_neg hk8, Hsg.out]
      show Calls _ _ _ _ fun e w' => _ ∧ Lp w0 w' bc (L ++ (if k = 1 then [tkN nm] else if k = 8 then tkW ⟨(wdb k).toArray⟩ :: tkS ⟨#[91]⟩ :: (XM ++ [tkS ⟨#[93]⟩]) else tkW ⟨(wdb k).toArray⟩ :: tkS ⟨#[40]⟩ :: (XA1 ++ (XP ++ [tkS ⟨#[41]⟩])))) ∧ _
      rw [HEq.out]
      have q8 : ((k : Int) == 8) = false := by simp; omega
      clear HEq h1 h2 h8 hk8 Hsg
      have M0 : True := trivial
      have M1 : True := trivial
      have M2 : True := trivial
      go_enter Tryd.func28, Tryd.ntmps28
      go_wp2_with (first
        | (go_at_call 24; refine (tword10 _ _).mono ?_; rintro e w1 ⟨rfl, hb1⟩; replace HL := jhid9 (HL.out.later hb1); replace HG := jhid9 (HG.out.trans (Gw.of hb1)); replace HX := jhid9 (HX.out.step (Gw.of hb1)); clear hb1; replace m0 := HX.out.cell 0 _ rfl; replace m1 := HX.out.cell 1 _ rfl; replace m2 := HX.out.cell 2 _ rfl; replace m3 := HX.out.cell 3 _ rfl; replace m4 := HX.out.cell 4 _ rfl; replace s3 := (HSg.out _ (HSw.out.later HL.out.below)))
        | (go_at_call 26; refine (tsign10 _ _).mono ?_; rintro e w1 ⟨rfl, hb1⟩; replace HL := jhid9 (HL.out.later hb1); replace HG := jhid9 (HG.out.trans (Gw.of hb1)); replace HX := jhid9 (HX.out.step (Gw.of hb1)); clear hb1; replace m0 := HX.out.cell 0 _ rfl; replace m1 := HX.out.cell 1 _ rfl; replace m2 := HX.out.cell 2 _ rfl; replace m3 := HX.out.cell 3 _ rfl; replace m4 := HX.out.cell 4 _ rfl; replace s3 := (HSg.out _ (HSw.out.later HL.out.below)))
        | (go_at_call 21; clear M0; refine (tput w0 _ bc _ (tkW sg) _ rfl HL (by (repeat rw [List.length_append]) <;> (try simp only [List.length_cons]) <;> (try simp only [List.length_nil]) <;> (have hr1 := HRm.le; obtain ⟨_, hr3⟩ := HRR; obtain ⟨_, hr2⟩ := HLn; omega))).mono ?_; rintro e w1 ⟨rfl, hl1, hg1⟩; replace HL := jhid9 hl1; replace HG := jhid9 (HG.out.trans hg1); replace HX := jhid9 (HX.out.step hg1); clear hl1 hg1; replace m0 := HX.out.cell 0 _ rfl; replace m1 := HX.out.cell 1 _ rfl; replace m2 := HX.out.cell 2 _ rfl; replace m3 := HX.out.cell 3 _ rfl; replace m4 := HX.out.cell 4 _ rfl; replace s3 := (HSg.out _ (HSw.out.later HL.out.below)))
        | (go_at_call 21; clear M1; refine (tput w0 _ bc _ (tkS ⟨#[40]⟩) _ rfl HL (by (repeat rw [List.length_append]) <;> (try simp only [List.length_cons]) <;> (try simp only [List.length_nil]) <;> (have hr1 := HRm.le; obtain ⟨_, hr3⟩ := HRR; obtain ⟨_, hr2⟩ := HLn; omega))).mono ?_; rintro e w1 ⟨rfl, hl1, hg1⟩; replace HL := jhid9 hl1; replace HG := jhid9 (HG.out.trans hg1); replace HX := jhid9 (HX.out.step hg1); clear hl1 hg1; replace m0 := HX.out.cell 0 _ rfl; replace m1 := HX.out.cell 1 _ rfl; replace m2 := HX.out.cell 2 _ rfl; replace m3 := HX.out.cell 3 _ rfl; replace m4 := HX.out.cell 4 _ rfl; replace s3 := (HSg.out _ (HSw.out.later HL.out.below)))
        | (go_at_call 48; refine (HCa.out _ _ HL.out ⟨(), by (repeat rw [List.length_append]) <;> (try simp only [List.length_cons]) <;> (try simp only [List.length_nil]) <;> (have hr1 := HRm.le; obtain ⟨_, hr3⟩ := HRR; obtain ⟨_, hr2⟩ := HLn; omega)⟩).mono ?_; rintro e w1 ⟨rfl, hl1, hg1⟩; replace HL := jhid9 hl1; replace HG := jhid9 (HG.out.trans hg1); replace HX := jhid9 (HX.out.step hg1); clear hl1 hg1; replace m0 := HX.out.cell 0 _ rfl; replace m1 := HX.out.cell 1 _ rfl; replace m2 := HX.out.cell 2 _ rfl; replace m3 := HX.out.cell 3 _ rfl; replace m4 := HX.out.cell 4 _ rfl; replace s3 := (HSg.out _ (HSw.out.later HL.out.below)))
        | (go_at_call 49; refine (HCp.out _ _ HL.out ⟨(), by (repeat rw [List.length_append]) <;> (try simp only [List.length_cons]) <;> (try simp only [List.length_nil]) <;> (have hr1 := HRm.le; obtain ⟨_, hr3⟩ := HRR; obtain ⟨_, hr2⟩ := HLn; omega)⟩).mono ?_; rintro e w1 ⟨rfl, hl1, hg1⟩; replace HL := jhid9 hl1; replace HG := jhid9 (HG.out.trans hg1); replace HX := jhid9 (HX.out.step hg1); clear hl1 hg1; replace m0 := HX.out.cell 0 _ rfl; replace m1 := HX.out.cell 1 _ rfl; replace m2 := HX.out.cell 2 _ rfl; replace m3 := HX.out.cell 3 _ rfl; replace m4 := HX.out.cell 4 _ rfl; replace s3 := (HSg.out _ (HSw.out.later HL.out.below)))
        | (go_at_call 21; clear M2; refine (tput w0 _ bc _ (tkS ⟨#[41]⟩) _ rfl HL (by (repeat rw [List.length_append]) <;> (try simp only [List.length_cons]) <;> (try simp only [List.length_nil]) <;> (have hr1 := HRm.le; obtain ⟨_, hr3⟩ := HRR; obtain ⟨_, hr2⟩ := HLn; omega))).mono ?_; rintro e w1 ⟨rfl, hl1, hg1⟩; replace HL := jhid9 hl1; replace HG := jhid9 (HG.out.trans hg1); replace HX := jhid9 (HX.out.step hg1); clear hl1 hg1; replace m0 := HX.out.cell 0 _ rfl; replace m1 := HX.out.cell 1 _ rfl; replace m2 := HX.out.cell 2 _ rfl; replace m3 := HX.out.cell 3 _ rfl; replace m4 := HX.out.cell 4 _ rfl; replace s3 := (HSg.out _ (HSw.out.later HL.out.below))))
      go_end0
      refine ⟨rfl, ?_, HG.out⟩
      have h9 := HL.out
      simpa using h9
end Go.Proofs.YtdimkfcanegahabDoor
