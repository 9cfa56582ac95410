/-
  Stage 21: Trim, of the program: what it answers is the call's own (made by gen36f.py).
-/
import Derived.Test.YtkfnedpnkeacpaaQffsh00
import Derived.Test.YtkfnedpnkeacpaaQffsh27
set_option maxRecDepth 100000
set_option maxHeartbeats 16000000
namespace Go.Proofs.Ytkfnedpnkeacpaa
open Go.RowKit
/-- A flow of the call's own. -/
def OwF (w : World) (D : Nat) (x : Option Addr) (k d1 : Nat) (y : Option Addr) (n d2 : Nat) (z : Option Addr) (o d3 : Nat) : Prop :=
 (∃ xs, w.ownsRow D 3 1 (.slice x k d1) k xs) ∧ (∃ N : List (List Trm), N.length = n ∧ Nw w D (.slice y n d2) N) ∧ ∃ xs, w.ownsRow D 3 1 (.slice z o d3) o xs
/-- A trimmed flow of the call's own is answered. -/
def TmO (D : Nat) (F : Fl) (N : Nat) (w : World) (e : Ending) : Prop := ∃ (x : Option Addr) (p : Nat) (y : Option Addr) (q : Nat) (z : Option Addr) (s k : Nat) (g : Nat → Nat) (m : Nat → Bool), e = .returned (.tuple #[flv x k p y (nlm F m N).length q z F.no s, .int .i64 0]) ∧ FlR w x y z (trF F m N k g) ∧ En (fun x => m x = true) F.ni k g ∧ (∀ u, m u = true ↔ NeedP F u) ∧ OwF w D x k p y (nlm F m N).length q z F.no s
theorem qav {w : World} {B B' : Nat} {e : TypeId} {s n : Nat} {v : Value} {xs : List Value} (h : w.ownsRow B e s v n xs) (hB : B' ≤ B) : w.ownsRow B' e s v n xs := by
 refine ⟨h.1, ?_⟩
 rcases h.2 with h0 | ⟨g, cap, cur, e1, hb, r⟩
 ·exact .inl h0
 ·exact .inr ⟨g, cap, cur, e1, by omega, r⟩
theorem tr_own {w wr w9 : World} {V B g2 N : Nat} {F : Fl} {m : Nat → Bool} {a b c : Option Addr} {p q r : Nat} {x y z : Option Addr} {d1 d2 d3 n : Nat} {k : Nat} {g : Nat → Nat} (h : TrO w wr V B g2 N F m a b c p q r (.slice x k d1) (.slice y n d2) (.slice z F.no d3) k F.no g) (hg : wr.grownBy w9 (some (w.heap.size + 1))) : OwF w9 w.heap.size x k d1 y n d2 z F.no d3 := by
 have hV := h.hV
 have hB := h.hB
 refine ⟨⟨_, qav (World.ownsRow.kept h.inp hg (qab h.inp h.vr (by decide))) (by omega)⟩, ?_, ⟨_, qav (World.ownsRow.kept h.outs hg (qab h.outs h.vr (by decide))) (by omega)⟩⟩
 have hf := h.nodes.form
 obtain ⟨vs, k1, k2⟩ := h.nodes
 refine ⟨nlm F m N, ?_, vs, qav (World.ownsRow.kept k1 hg (qab k1 h.vr (by decide))) (by omega), fun i L hi => ?_⟩
 ·obtain ⟨_, _, e, _⟩ := hf
  cases e
  rfl
 ·obtain ⟨x, hx, ht⟩ := k2 i L hi
  exact ⟨x, hx, qav (ht.kept hg (qab ht h.vr (by decide))) (by omega)⟩
theorem qfn (w : World) (a b c : Option Addr) (p q r : Nat) (F : Fl) (h : FlR w a b c F) (hM : MayP F) (N : Nat) (hN : F.ni + F.nn = N) :
  Calls Try.prog 22 #[flv a F.ni p b F.nn q c F.no r] w fun e w' => TmO w.heap.size F N w' e ∧ Below w.heap.size w w' := by
 obtain ⟨s0, hs0, hy0, hy1, hy2⟩ := info_parts jsli
 obtain ⟨i0, hi0, hz0, hz1, hz2⟩ := info_parts ji64
 have HF := qa0 h
 have HM := qa0 hM
 have HNN := qa0 hN
 have hni6 := hM.inp.le
 have hn4 := hM.n4
 have hno := hM.o64
 have hN41 : N ≤ 4160 := by omega
 obtain ⟨wb, HW⟩ : ∃ wb, Hid ((w.alloc (.cells #[.slice a F.ni p, .slice b F.nn q, .slice c F.no r] 28)).alloc (.cells #[.slice none 0 0, .slice none 0 0, .slice none 0 0] 28) = wb) := ⟨_, rfl⟩
 have HB0 : Hid (Below w.heap.size w wb) := by rw [← HW.out]; exact jtwo (jlow _ _) (jlow _ _)
 have HVF : Hid (Vf wb w.heap.size 28 #[.slice a F.ni p, .slice b F.nn q, .slice c F.no r]) := by rw [← HW.out]; exact (Vf.new w _ _).later (jlow _ _)
 have HVR : Hid (Vf wb (w.heap.size + 1) 28 #[.slice none 0 0, .slice none 0 0, .slice none 0 0]) := by rw [← HW.out]; exact Vf.new1 _ _ _ _
 have HMay := qa0 (fun (w2 : World) (hb : Below w.heap.size w w2) => qam (qbd w2 a b c p q r F (h.later hb)) hM)
 have HNd := qa0 (fun (w2 : World) (hb : Below w.heap.size w w2) => qcx w2 a b c p q r F (h.later hb) hM N hN)
 have HTrm := qa0 (fun (v : Nat) (hv : v < N) (w2 : World) (hb : Below w.heap.size w w2) => qck w w2 a b c p q r F h hb v (by omega))
 obtain ⟨Q, HQ⟩ : ∃ Q : World → Ending → Prop, Hid ((fun w2 e => TmO w.heap.size F N w2 e) = Q) := ⟨_, rfl⟩
 have HQ2 : Hid (∀ (wr w9 : World) (V B g2 : Nat) (m : Nat → Bool) (x y z : Option Addr) (d1 d2 d3 n k : Nat) (g : Nat → Nat), TrO w wr V B g2 N F m a b c p q r (.slice x k d1) (.slice y n d2) (.slice z F.no d3) k F.no g → k ≤ 64 → wr.grownBy w9 (some (w.heap.size + 1)) → En (fun x => m x = true) F.ni k g → (∀ u, m u = true ↔ NeedP F u) → Q w9 (.returned (.tuple #[flv x k d1 y n d2 z F.no d3, .int .i64 0]))) := fun wr w9 V B g2 m x y z d1 d2 d3 n k g h1 h2 h3 h4 h5 => by
  rw [← HQ.out]
  have hw1 := tr_own h1 h3
  obtain ⟨rfl, h6⟩ := tr_flr h hM hN h1 h2 h3
  exact ⟨x, d1, y, d2, z, d3, k, g, m, rfl, h6, h4, h5, hw1⟩
 show Calls _ _ _ _ fun e w' => (fun w2 e => TmO w.heap.size F N w2 e) w' e ∧ _
 rw [HQ.out]
 have HInp := qa0 h.inp
 have HOL := qa0 h.outs
 have HInM := qa0 hM.inp
 have HOut := qa0 hM.outs
 obtain ⟨ni, HNi⟩ : ∃ x, Hid (F.ni = x) := ⟨_, rfl⟩
 obtain ⟨nn, HNn⟩ : ∃ x, Hid (F.nn = x) := ⟨_, rfl⟩
 obtain ⟨no, HNo⟩ : ∃ x, Hid (F.no = x) := ⟨_, rfl⟩
 have x0 := HVF.out.cell 0 (.slice a F.ni p) rfl
 have x1 := HVF.out.cell 1 (.slice b F.nn q) rfl
 have x2 := HVF.out.cell 2 (.slice c F.no r) rfl
 have HTI : Hid (∀ {wr : World} {V g1 g2 : Nat} {m : Nat → Bool} {vi vn : Value} {v k : Nat} {g : Nat → Nat}, TrI w wr V g1 g2 N F m a b c p q r vi vn v k g → Vf wr w.heap.size 28 #[.slice a ni p, .slice b nn q, .slice c no r]) := fun h => by rw [← HNi.out, ← HNn.out, ← HNo.out]; exact h.vf
 have HTO : Hid (∀ {wr : World} {V B g2 : Nat} {m : Nat → Bool} {vi vn vo : Value} {k o : Nat} {g : Nat → Nat}, TrO w wr V B g2 N F m a b c p q r vi vn vo k o g → Vf wr w.heap.size 28 #[.slice a ni p, .slice b nn q, .slice c no r]) := fun h => by rw [← HNi.out, ← HNn.out, ← HNo.out]; exact h.vf
 rw [HNi.out, HNn.out, HNo.out] at HMay HNd HTrm HW ⊢
 rw [HNi.out] at x0 HInp HInM hni6
 rw [HNn.out] at x1 hn4
 rw [HNo.out] at x2 HOL HOut hno
 clear h hM hN HQ
 go_enter Try.func22, Try.ntmps22
 go_wp2
 go_step3
 go_wp2_with (first
  | (go_at_call 34; rw [HW.out]; refine (HMay.out _ HB0.out).mono ?_; rintro e w1 ⟨rfl, hb1⟩; have HB1 := qa0 (jtwo HB0.out hb1); have HVF1 := qa0 (HVF.out.later hb1); have HVR1 := qa0 (HVR.out.later hb1); have y0 := keepc hb1 x0; have y1 := keepc hb1 x1; have y2 := keepc hb1 x2; clear hb1)
  | (go_at_call 42; refine (HNd.out _ HB1.out).mono ?_; rintro e w2 ⟨⟨g1, m, rfl, hg1, hga, hm⟩, hb2⟩; have HB2 := qa0 (jtwo HB1.out hb2); have HVF2 := qa0 (HVF1.out.later hb2); have HVR2 := qa0 (HVR1.out.later hb2); have HGa := qa0 hga; have HMn := qa0 hm; have hgl := hga.lt; clear hga hm hb2)
  | (go_at_call 43; refine (fnum_any _ g1 N m HGa.out hN41).mono ?_; rintro e w3 ⟨⟨g2, rfl, hg2, hgb⟩, hb3⟩; have HB3 := qa0 (jtwo HB2.out hb3); have HVF3 := qa0 (HVF2.out.later hb3); have HVR3 := qa0 (HVR2.out.later hb3); have HGa3 := qa0 (HGa.out.later hb3); have HGb := qa0 hgb; have hgl2 := hgb.lt; have hs3 := hb3.size; clear hgb hb3))
 go_step3
 obtain ⟨w4, HW4⟩ : ∃ w4, Hid (w3.alloc (.cells #[.slice none 0 0, .slice none 0 0, .slice none 0 0] 28) = w4) := ⟨_, rfl⟩
 obtain ⟨V, HVV⟩ : ∃ V, Hid (w3.heap.size = V) := ⟨_, rfl⟩
 have HI0 : Hid (TrI w w4 V g1 g2 N F m a b c p q r (.slice none 0 0) (.slice none 0 0) 0 0 (fun _ => 0)) := by
  have hl : Below w3.heap.size w3 w4 := by rw [← HW4.out]; exact jlow _ _
  have hv := HVR3.out.lt
  have hw := HVV.out
  exact ⟨HVF3.out.later hl, HVR3.out.later hl, by rw [← HW4.out, ← HVV.out]; exact Vf.new _ _ _, by omega, by omega, by omega, HGa3.out.later hl, HGb.out.later hl, Jo.nil _ _ _ _ _, by rw [Nat.zero_min]; exact En.nil _ _, Nw.nil _ _, jtwo HB3.out hl⟩
 rw [HW4.out, HVV.out]
 clear HW4 HVV HVF3 HVR3 HGa3 HGb HB3 HVF2 HVR2 HGa HB2 HVF1 HVR1 HB1 HVF HVR HB0 HW x0 x1 x2 y0 y1 y2
 go_wp2
 go_loopw [7, 8, 21] (fun _ _ vi9 wr => ∃ (v k : Nat) (g : Nat → Nat) (vi vn : Value), v ≤ N ∧ vi9 = .int .i64 (v : Int) ∧ TrI w wr V g1 g2 N F m a b c p q r vi vn v k g) (fun _ _ vi9 _ => N - (intOf vi9).toNat)
 case atStart => exact ⟨0, 0, _, _, _, by omega, rfl, HI0.out⟩
 case round =>
  clear HI0
  obtain ⟨v, k, g, vi, vn, hv, rfl, hI⟩ := hrel
  have HI := qa0 hI
  have x0 := (HTI.out hI).cell 0 (.slice a ni p) rfl
  have x1 := (HTI.out hI).cell 1 (.slice b nn q) rfl
  have x2 := (HTI.out hI).cell 2 (.slice c no r) rfl
  have hk6 := hI.en.le
  have hb := hI.below
  by_cases hlt : v < N
  ·have c0 := hI.mks.cell v hlt
   have p0 : (0 : Int) ≤ (v : Int) := by omega
   have p1 : (v : Int) < (N : Int) := by omega
   cases hmv : m v with
   | false =>
    rw [hmv] at c0
    have HSk := qa0 (HI.out.skip hmv)
    clear hI hb hmv
    go_wp2
    exact ⟨⟨v + 1, k, g, vi, vn, by omega, by go_num, HSk.out⟩, by simp [intOf]; omega⟩
   | true =>
    rw [hmv] at c0
    have HMv := qa0 hmv
    clear hmv
    have HId := qa0 (HI.out.later (qal wr))
    by_cases hvi : v < ni
    ·have g1' : (v : Int) < (ni : Int) := by omega
     obtain ⟨xa, oa, ea, hca⟩ := HInp.out v hvi
     have hin := HInM.out v hvi
     obtain ⟨xn, hxn⟩ := Int.eq_ofNat_of_zero_le hin.1
     have HXn : Hid ((F.inp v).toNat = xn) := by show _ = _; rw [hxn]; simp
     rw [hxn] at hca
     subst ea
     have HIn : Hid (∀ W, Below w.heap.size w W → W.cell? ⟨xa, oa + v, none⟩ = some (.int .i64 (xn : Int))) := fun W hW => by rw [hW.cell (p := ⟨xa, _, none⟩) (qa5 hca)]; exact hca
     have hcur := HIn.out wr hb
     have hml : k + 1 ≤ maxLen := by unfold maxLen; omega
     have HVF9 := qa0 (HTI.out HId.out)
     have HviN := qa0 (show v < F.ni by rw [HNi.out]; exact hvi)
     clear hI hb hca hxn hin
     go_wp2
     have HD : Hid ((fun w' => w'.cell? ⟨V, 0, none⟩ = some vi ∧ w'.frozen? ⟨V, 0, none⟩ = false ∧ w'.cell? ⟨w.heap.size, 0, none⟩ = some (.slice (some ⟨xa, oa, none⟩) ni p) ∧ w'.cell? ⟨xa, oa + v, none⟩ = some (.int .i64 (xn : Int))) wr.drew) := ⟨HId.out.vt.cell 0 vi rfl, HId.out.vt.free 0, (HTI.out HId.out).cell 0 (.slice (some ⟨xa, oa, none⟩) ni p) rfl, HIn.out _ HId.out.below⟩
     refine qa7 (k := 10) (n := 10) (fun w' => w'.cell? ⟨V, 0, none⟩ = some vi ∧ w'.frozen? ⟨V, 0, none⟩ = false ∧ w'.cell? ⟨w.heap.size, 0, none⟩ = some (.slice (some ⟨xa, oa, none⟩) ni p) ∧ w'.cell? ⟨xa, oa + v, none⟩ = some (.int .i64 (xn : Int))) (by kernel_rfl) (by kernel_rfl) (by decide) (by rfl) ?_
     refine wtkq 0 ?vt0_1 rfl (by kernel_rfl) (fun _ _ _ h => h) (by rfl) ?yt0_1 HD.out ?zt0_1
     case yt0_1 => (intro w hSw; (try dsimp only at hSw); go_simp; try with_reducible rfl)
     try simp only [mz1, mz3, Act.put, mz4, mz5, mz6]
     refine wtkq 1 ?vt1_2 rfl (by kernel_rfl) (fun _ _ _ h => h) (by rfl) ?yt1_2 HD.out ?zt1_2
     case yt1_2 => (intro w hSw; (try dsimp only at hSw); go_simp; try with_reducible rfl)
     try simp only [mz1, mz2, mz3, Act.put, mz4, mz5, mz6]
     refine wtkq 2 ?vt2_3 rfl (by kernel_rfl) (fun _ _ _ h => h) (by rfl) ?yt2_3 HD.out ?zt2_3
     case yt2_3 => (intro w hSw; (try dsimp only at hSw); go_simp; try with_reducible rfl)
     try simp only [mz1, mz2, mz3, Act.put, mz4, mz5, mz6]
     refine wtkq 3 ?vt3_4 rfl (by kernel_rfl) (fun _ _ _ h => h) (by rfl) ?yt3_4 HD.out ?zt3_4
     case yt3_4 => (intro w hSw; (try dsimp only at hSw); go_simp; try with_reducible rfl)
     try simp only [mz1, mz2, mz3, Act.put, mz4, mz5, mz6]
     refine wtkq 4 ?vt4_5 rfl (by kernel_rfl) (fun _ _ _ h => h) (by rfl) ?yt4_5 HD.out ?zt4_5
     case yt4_5 => (intro w hSw; (try dsimp only at hSw); go_simp; try with_reducible rfl)
     try simp only [mz1, mz2, mz3, Act.put, mz4, mz5, mz6]
     refine wtkq 5 ?vt5_6 rfl (by kernel_rfl) (fun _ _ _ h => h) (by rfl) ?yt5_6 HD.out ?zt5_6
     case yt5_6 => (intro w hSw; (try dsimp only at hSw); go_simp; try with_reducible rfl)
     try simp only [mz1, mz2, mz3, Act.put, mz4, mz5, mz6]
     refine wtkq 6 ?vt6_7 rfl (by kernel_rfl) (fun _ _ _ h => h) (by rfl) ?yt6_7 HD.out ?zt6_7
     case yt6_7 => (intro w hSw; (try dsimp only at hSw); go_simp; try with_reducible rfl)
     try simp only [mz1, mz2, mz3, Act.put, mz4, mz5, mz6]
     refine wpAnyH_ready (rs := [7]) (by kernel_rfl) (by simp) ?_
     refine AllReadyH.cons rfl (fun KK hKK => ?_) AllReadyH.nil
     go_simp
     refine hKK.out _ _ ⟨(HId.out.later (jlow wr.drew (.cells #[.int .i64 (xn : Int)] 3))).vt.cell 0 vi rfl, (HId.out.later (jlow wr.drew (.cells #[.int .i64 (xn : Int)] 3))).vt.free 0, (HTI.out (HId.out.later (jlow wr.drew (.cells #[.int .i64 (xn : Int)] 3)))).cell 0 (.slice (some ⟨xa, oa, none⟩) ni p) rfl, HIn.out _ (HId.out.later (jlow wr.drew (.cells #[.int .i64 (xn : Int)] 3))).below⟩ (fun _ => ?_)
     clear hKK KK
     try simp only [mz1, mz2, mz3, Act.put, mz4, mz5, mz6]
     refine wpAnyH_ready (rs := [8]) (by kernel_rfl) (by simp) ?_
     refine AllReadyH.cons rfl (fun KK hKK => ?_) AllReadyH.nil
     refine qah rfl _ _ 25 rfl (V + 1) 3 i0 (.int .i64 0) 1 8 Try.underlying25 hi0 hz0 hz1 hz2 rfl (by decide) vi k _ rfl (HId.out.later (jlow wr.drew (.cells #[.int .i64 (xn : Int)] 3))).inp ⟨wr.heap.size, 0, none⟩ 1 1 [.int .i64 (xn : Int)] rfl rfl (qb9 _ wr.drew _ _) (qba _ _) hml (by omega) (by have := HI.out.vt.lt; simp; omega) ?_
     intro v8 w8 hown8 hgrow8
     obtain ⟨q8, d8, rfl⟩ := qaf hown8
     have HO8 := qa0 hown8
     have HG8 := qa0 hgrow8
     have HVb : Hid (∀ b, b ≤ V → vi.ownBlock ≠ some b) := fun b hb => qaq HId.out.inp (by omega)
     have HF8 := qa0 ((HId.out.later (jlow wr.drew (.cells #[.int .i64 (xn : Int)] 3))).vt.kept hgrow8 (HVb.out V (Nat.le_refl _)))
     have HX8 := qa0 ((HTI.out (HId.out.later (jlow wr.drew (.cells #[.int .i64 (xn : Int)] 3)))).kept hgrow8 (HVb.out _ (by have := HId.out.hV; omega)))
     have HB8 := qa0 ((HId.out.later (jlow wr.drew (.cells #[.int .i64 (xn : Int)] 3))).below.grown hgrow8 (HId.out.later (jlow wr.drew (.cells #[.int .i64 (xn : Int)] 3))).below.size (fun g e => by { rcases Nat.lt_or_ge V g with h9 | h9; (have := HId.out.hV; omega); exact absurd e (HVb.out g h9) }))
     clear hown8 hgrow8
     refine hKK.out _ _ ⟨HF8.out.cell 0 vi rfl, HF8.out.free 0, HX8.out.cell 0 (.slice (some ⟨xa, oa, none⟩) ni p) rfl, HIn.out _ HB8.out⟩ (fun _ => ?_)
     clear hKK KK
     try simp only [mz1, mz2, mz3, Act.put, mz4, mz5, mz6]
     refine wtkq 9 ?vt9_8 rfl (by kernel_rfl) (fun _ _ _ h => h) (by rfl) ?yt9_8 ⟨HF8.out.cell 0 vi rfl, HF8.out.free 0, HX8.out.cell 0 (.slice (some ⟨xa, oa, none⟩) ni p) rfl, HIn.out _ HB8.out⟩ ?zt9_8
     case yt9_8 => (intro w hSw; (try dsimp only at hSw); go_simp; try with_reducible rfl)
     try simp only [mz1, mz2, mz3, Act.put, mz4, mz5, mz6]
     refine wpAnyH_done (by kernel_rfl) ?_ _
     have q1 := HF8.out.cell 0 vi rfl
     have q2 := HF8.out.free 0
     refine qa3 rfl (fun KK hKK => ?_)
     go_simp
     refine hKK.out _ _ ?_
     clear hKK KK
     try simp only [mz1, mz2, mz3, Act.put, mz4, mz5, mz6]
     have HI9 := qa0 (HId.out.put_i HviN.out HMv.out HXn.out HO8.out HG8.out)
     clear HO8 HG8 HVb HF8 HX8 HB8 q1 q2 HD HI HId
     go_wp2
     exact ⟨⟨v + 1, k + 1, _, _, vn, by omega, by go_num, HI9.out⟩, by simp [intOf]; omega⟩
    ·have g1' : ¬ (v : Int) < (ni : Int) := by omega
     have HTr := qa0 (HTrm.out v hlt)
     obtain ⟨tl, HTL⟩ : ∃ tl, Hid (tn F v = tl) := ⟨_, rfl⟩
     have HTv : Hid (∀ j, j < tl → F.of (v - F.ni) j = ((tv F v j : Nat) : Int) ∧ tv F v j < N) := fun j hj => by
      have := HM.out.term (v := v) (j := j) (by have := HNN.out; omega) (by rw [HTL.out]; exact hj)
      exact ⟨this.1, by omega⟩
     have htl : tl ≤ 4160 := tl_le HM.out HNN.out hlt HTL.out hN41
     have HviN := qa0 (show F.ni ≤ v by rw [HNi.out]; omega)
     clear hI hb
     go_wp2
     have HD : Hid ((fun w' => w'.cell? ⟨V, 1, none⟩ = some vn ∧ w'.frozen? ⟨V, 1, none⟩ = false ∧ w'.cell? ⟨w.heap.size, 0, none⟩ = some (.slice a ni p) ∧ w'.cell? ⟨w.heap.size, 1, none⟩ = some (.slice b nn q) ∧ w'.cell? ⟨w.heap.size, 2, none⟩ = some (.slice c no r)) wr.drew) := ⟨HId.out.vt.cell 1 vn rfl, HId.out.vt.free 1, (HTI.out HId.out).cell 0 (.slice a ni p) rfl, (HTI.out HId.out).cell 1 (.slice b nn q) rfl, (HTI.out HId.out).cell 2 (.slice c no r) rfl⟩
     refine qa7 (k := 10) (n := 10) (fun w' => w'.cell? ⟨V, 1, none⟩ = some vn ∧ w'.frozen? ⟨V, 1, none⟩ = false ∧ w'.cell? ⟨w.heap.size, 0, none⟩ = some (.slice a ni p) ∧ w'.cell? ⟨w.heap.size, 1, none⟩ = some (.slice b nn q) ∧ w'.cell? ⟨w.heap.size, 2, none⟩ = some (.slice c no r)) (by kernel_rfl) (by kernel_rfl) (by decide) (by rfl) ?_
     refine wtkq 0 ?vt0_9 rfl (by kernel_rfl) (fun _ _ _ h => h) (by rfl) ?yt0_9 HD.out ?zt0_9
     case yt0_9 => (intro w hSw; (try dsimp only at hSw); go_simp; try with_reducible rfl)
     try simp only [mz1, mz3, Act.put, mz4, mz5, mz6]
     refine wtkq 1 ?vt1_10 rfl (by kernel_rfl) (fun _ _ _ h => h) (by rfl) ?yt1_10 HD.out ?zt1_10
     case yt1_10 => (intro w hSw; (try dsimp only at hSw); go_simp; try with_reducible rfl)
     try simp only [mz1, mz2, mz3, Act.put, mz4, mz5, mz6]
     refine wtkq 2 ?vt2_11 rfl (by kernel_rfl) (fun _ _ _ h => h) (by rfl) ?yt2_11 HD.out ?zt2_11
     case yt2_11 => (intro w hSw; (try dsimp only at hSw); go_simp; try with_reducible rfl)
     try simp only [mz1, mz2, mz3, Act.put, mz4, mz5, mz6]
     refine wtkq 3 ?vt3_12 rfl (by kernel_rfl) (fun _ _ _ h => h) (by rfl) ?yt3_12 HD.out ?zt3_12
     case yt3_12 => (intro w hSw; (try dsimp only at hSw); go_simp; try with_reducible rfl)
     try simp only [mz1, mz2, mz3, Act.put, mz4, mz5, mz6]
     refine wtkq 5 ?vt5_13 rfl (by kernel_rfl) (fun _ _ _ h => h) (by rfl) ?yt5_13 HD.out ?zt5_13
     case yt5_13 => (intro w hSw; (try dsimp only at hSw); go_simp; try with_reducible rfl)
     try simp only [mz1, mz2, mz3, Act.put, mz4, mz5, mz6]
     refine wpAnyH_ready (rs := [4]) (by kernel_rfl) (by simp) ?_
     refine AllReadyH.cons rfl (fun KK hKK => ?_) AllReadyH.nil
     go_simp
     refine (HTr.out _ HId.out.below).mono ?_
     rintro e w5 ⟨⟨t5, d5, rfl, ht5, hn5⟩, hb5⟩
     rw [HTL.out] at ht5 hn5 ⊢
     have HT5 := qa0 ht5
     have HI5 := qa0 (HId.out.later hb5)
     clear ht5 hb5
     refine hKK.out _ _ ⟨HI5.out.vt.cell 1 vn rfl, HI5.out.vt.free 1, (HTI.out HI5.out).cell 0 (.slice a ni p) rfl, (HTI.out HI5.out).cell 1 (.slice b nn q) rfl, (HTI.out HI5.out).cell 2 (.slice c no r) rfl⟩ (fun _ => ?_)
     clear hKK KK
     try simp only [mz1, mz2, mz3, Act.put, mz4, mz5, mz6]
     refine wpAnyH_ready (rs := [6]) (by kernel_rfl) (by simp) ?_
     refine AllReadyH.cons rfl (fun KK hKK => ?_) AllReadyH.nil
     go_simp
     refine (fren_any w5 t5 tl d5 g2 N _ (fun j => tv F v j) _ (fun x => ct m x) (HT5.out.later HI5.out.below) HTv.out HI5.out.nb htl).mono ?_
     rintro e w6 ⟨⟨_, rfl, hu6⟩, hb6⟩
     obtain ⟨tu, du, rfl, -⟩ := hu6.form
     rw [show ((List.range tl).map fun j => (((ct m (tv F v j) : Nat) : Int), F.fc (v - F.ni) j)).length = tl by simp] at hu6 ⊢
     have HU6 := qa0 hu6
     have HI6 := qa0 (HI5.out.later hb6)
     have hs6 : w5.heap.size ≤ w6.heap.size := hb6.size
     clear hu6 hb6
     refine hKK.out _ _ ⟨HI6.out.vt.cell 1 vn rfl, HI6.out.vt.free 1, (HTI.out HI6.out).cell 0 (.slice a ni p) rfl, (HTI.out HI6.out).cell 1 (.slice b nn q) rfl, (HTI.out HI6.out).cell 2 (.slice c no r) rfl⟩ (fun _ => ?_)
     clear hKK KK
     try simp only [mz1, mz2, mz3, Act.put, mz4, mz5, mz6]
     refine wpAnyH_ready (rs := [7]) (by kernel_rfl) (by simp) ?_
     refine AllReadyH.cons rfl (fun KK hKK => ?_) AllReadyH.nil
     go_simp
     refine hKK.out _ _ ⟨(HI6.out.later (jlow w6 (.cells #[.slice tu tl du] 59))).vt.cell 1 vn rfl, (HI6.out.later (jlow w6 (.cells #[.slice tu tl du] 59))).vt.free 1, (HTI.out (HI6.out.later (jlow w6 (.cells #[.slice tu tl du] 59)))).cell 0 (.slice a ni p) rfl, (HTI.out (HI6.out.later (jlow w6 (.cells #[.slice tu tl du] 59)))).cell 1 (.slice b nn q) rfl, (HTI.out (HI6.out.later (jlow w6 (.cells #[.slice tu tl du] 59)))).cell 2 (.slice c no r) rfl⟩ (fun _ => ?_)
     clear hKK KK
     try simp only [mz1, mz2, mz3, Act.put, mz4, mz5, mz6]
     refine wpAnyH_ready (rs := [8]) (by kernel_rfl) (by simp) ?_
     refine AllReadyH.cons rfl (fun KK hKK => ?_) AllReadyH.nil
     obtain ⟨vs, HVS⟩ : ∃ vs, Hid (((w6.alloc (.cells #[.slice tu tl du] 59)).ownsRow (V + 1) 59 1 vn (nlm F m v).length vs)) := by { have h7 := (HI6.out.later (jlow w6 (.cells #[.slice tu tl du] 59))).nodes; obtain ⟨vs, q1, _⟩ := h7; exact ⟨vs, q1⟩ }
     obtain ⟨nl, HNL⟩ : ∃ nl, Hid ((nlm F m v).length = nl) := ⟨_, rfl⟩
     have hnl : nl ≤ 4160 := by { have := qfc F m v; have := HNL.out; omega }
     rw [HNL.out] at HVS
     refine qah rfl _ _ 26 rfl (V + 1) 59 s0 (.slice none 0 0) 1 24 Try.underlying26 hs0 hy0 hy1 hy2 rfl (by decide) vn nl vs rfl HVS.out ⟨w6.heap.size, 0, none⟩ 1 1 [.slice tu tl du] rfl rfl (qap _ _ _) (by intro x hx; rw [List.mem_singleton.1 hx]; rfl) (by unfold maxLen; omega) (by omega) (by have := HI6.out.vt.lt; simp; omega) ?_
     intro v8 w8 hown8 hgrow8
     obtain ⟨q8, d8, rfl⟩ := qaf hown8
     have HO8 := qa0 hown8
     have HG8 := qa0 hgrow8
     have HVb : Hid (∀ b, b ≤ V → vn.ownBlock ≠ some b) := fun b hb => qaq HVS.out (by omega)
     have HF8 := qa0 ((HI6.out.later (jlow w6 (.cells #[.slice tu tl du] 59))).vt.kept hgrow8 (HVb.out V (Nat.le_refl _)))
     have HX8 := qa0 ((HTI.out (HI6.out.later (jlow w6 (.cells #[.slice tu tl du] 59)))).kept hgrow8 (HVb.out _ (by have := HI6.out.hV; omega)))
     clear hown8 hgrow8
     refine hKK.out _ _ ⟨HF8.out.cell 1 vn rfl, HF8.out.free 1, HX8.out.cell 0 (.slice a ni p) rfl, HX8.out.cell 1 (.slice b nn q) rfl, HX8.out.cell 2 (.slice c no r) rfl⟩ (fun _ => ?_)
     clear hKK KK
     try simp only [mz1, mz2, mz3, Act.put, mz4, mz5, mz6]
     refine wtkq 9 ?vt9_14 rfl (by kernel_rfl) (fun _ _ _ h => h) (by rfl) ?yt9_14 ⟨HF8.out.cell 1 vn rfl, HF8.out.free 1, HX8.out.cell 0 (.slice a ni p) rfl, HX8.out.cell 1 (.slice b nn q) rfl, HX8.out.cell 2 (.slice c no r) rfl⟩ ?zt9_14
     case yt9_14 => (intro w hSw; (try dsimp only at hSw); go_simp; try with_reducible rfl)
     try simp only [mz1, mz2, mz3, Act.put, mz4, mz5, mz6]
     refine wpAnyH_done (by kernel_rfl) ?_ _
     have q1 := HF8.out.cell 1 vn rfl
     have q2 := HF8.out.free 1
     refine qa3 rfl (fun KK hKK => ?_)
     go_simp
     refine hKK.out _ _ ?_
     clear hKK KK
     try simp only [mz1, mz2, mz3, Act.put, mz4, mz5, mz6]
     have hV6 := HI6.out.vt.lt
     have HTw := qa0 ((HU6.out.mono (B' := V + 1) (by have := HI5.out.vt.lt; omega)).later (jlow w6 (.cells #[.slice tu tl du] 59)))
     have HI9 := qa0 (HI6.out.put_n (w8 := w8) HviN.out HMv.out (jlow w6 (.cells #[.slice tu tl du] 59)) (by unfold rnt; rw [HTL.out]) HTw.out (fun ws qq => by
      rw [HNL.out] at qq ⊢
      obtain rfl := qbr qq HVS.out
      exact ⟨HO8.out, HG8.out⟩))
     clear HO8 HG8 HVb HF8 HX8 q1 q2 HD HI HId HI5 HI6 HT5 HU6 HVS HTw HTr HTv
     go_wp2
     exact ⟨⟨v + 1, k, g, vi, _, by omega, by go_num, HI9.out⟩, by simp [intOf]; omega⟩
  ·obtain rfl : v = N := by omega
   have HEn := qa0 (show En (fun x => m x = true) F.ni k g by have := hI.en; rw [show min v F.ni = F.ni by have := HNN.out; omega] at this; exact this)
   have hk64 : k ≤ 64 := by have := HEn.out.le; rw [HNi.out] at this; omega
   have HO0 := qa0 hI.out
   obtain ⟨x, d1, rfl, -⟩ := hI.inp.form
   obtain ⟨y, d2, rfl, -⟩ := hI.nodes.form
   obtain ⟨n, HNL⟩ : ∃ n, Hid ((nlm F m v).length = n) := ⟨_, rfl⟩
   rw [HNL.out] at HO0
   clear hI hb HI
   obtain ⟨B3, HBB⟩ : ∃ B3, Hid (wr.heap.size = B3) := ⟨_, rfl⟩
   rw [HBB.out] at HO0
   go_wp2
   go_loopw [57] (fun vi9 w9 => ∃ (o : Nat) (vo : Value), o ≤ no ∧ vi9 = .int .i64 (o : Int) ∧ TrO w w9 V B3 g2 v F m a b c p q r (.slice x k d1) (.slice y n d2) vo k o g) (fun vi9 _ => no - (intOf vi9).toNat)
   case atStart => exact ⟨0, _, by omega, rfl, HO0.out⟩
   case round =>
    clear HO0 HBB x0 x1 x2
    obtain ⟨o, vo, ho, rfl, hI⟩ := hrel
    have HI := qa0 hI
    have x2 := (HTO.out hI).cell 2 (.slice c no r) rfl
    by_cases hlt2 : o < no
    ·obtain ⟨xc, oc, ec, hcc⟩ := (HOL.out.later hI.below) o hlt2
     have hoo := HOut.out o hlt2
     obtain ⟨y, hy⟩ := Int.eq_ofNat_of_zero_le hoo.1
     have HYo : Hid ((F.out o).toNat = y) := by show _ = _; rw [hy]; simp
     rw [hy] at hcc hoo
     have hy : y < v := by have := HNN.out; omega
     obtain ⟨z, HZ⟩ : ∃ z, Hid (ct m y = z) := ⟨_, rfl⟩
     subst ec
     have p0 : (0 : Int) ≤ (o : Int) := by omega
     have p1 : (o : Int) < (no : Int) := by omega
     have r0 : (0 : Int) ≤ (y : Int) := by omega
     have r1 : (y : Int) < (v : Int) := by omega
     have hml : o + 1 ≤ maxLen := by unfold maxLen; omega
     have HId := qa0 (hI.later (qal wr))
     clear hI hoo
     go_wp2
     have HD : Hid ((fun w' => w'.cell? ⟨V, 2, none⟩ = some vo ∧ w'.frozen? ⟨V, 2, none⟩ = false ∧ w'.cell? ⟨g2, y, none⟩ = some (.int .i64 (z : Int))) wr.drew) := ⟨HId.out.vt.cell 2 vo rfl, HId.out.vt.free 2, by { have h9 := HId.out.nb.cell y hy; rw [HZ.out] at h9; exact h9 }⟩
     refine qa7 (k := 9) (n := 9) (fun w' => w'.cell? ⟨V, 2, none⟩ = some vo ∧ w'.frozen? ⟨V, 2, none⟩ = false ∧ w'.cell? ⟨g2, y, none⟩ = some (.int .i64 (z : Int))) (by kernel_rfl) (by kernel_rfl) (by decide) (by rfl) ?_
     refine wtkq 0 ?vt0_15 rfl (by kernel_rfl) (fun _ _ _ h => h) (by rfl) ?yt0_15 HD.out ?zt0_15
     case yt0_15 => (intro w hSw; (try dsimp only at hSw); go_simp; try with_reducible rfl)
     try simp only [mz1, mz3, Act.put, mz4, mz5, mz6]
     refine wtkq 1 ?vt1_16 rfl (by kernel_rfl) (fun _ _ _ h => h) (by rfl) ?yt1_16 HD.out ?zt1_16
     case yt1_16 => (intro w hSw; (try dsimp only at hSw); go_simp; try with_reducible rfl)
     try simp only [mz1, mz2, mz3, Act.put, mz4, mz5, mz6]
     refine wtkq 2 ?vt2_17 rfl (by kernel_rfl) (fun _ _ _ h => h) (by rfl) ?yt2_17 HD.out ?zt2_17
     case yt2_17 => (intro w hSw; (try dsimp only at hSw); go_simp; try with_reducible rfl)
     try simp only [mz1, mz2, mz3, Act.put, mz4, mz5, mz6]
     refine wtkq 3 ?vt3_18 rfl (by kernel_rfl) (fun _ _ _ h => h) (by rfl) ?yt3_18 HD.out ?zt3_18
     case yt3_18 => (intro w hSw; (try dsimp only at hSw); go_simp; try with_reducible rfl)
     try simp only [mz1, mz2, mz3, Act.put, mz4, mz5, mz6]
     refine wtkq 4 ?vt4_19 rfl (by kernel_rfl) (fun _ _ _ h => h) (by rfl) ?yt4_19 HD.out ?zt4_19
     case yt4_19 => (intro w hSw; (try dsimp only at hSw); go_simp; try with_reducible rfl)
     try simp only [mz1, mz2, mz3, Act.put, mz4, mz5, mz6]
     refine wtkq 5 ?vt5_20 rfl (by kernel_rfl) (fun _ _ _ h => h) (by rfl) ?yt5_20 HD.out ?zt5_20
     case yt5_20 => (intro w hSw; (try dsimp only at hSw); go_simp; try with_reducible rfl)
     try simp only [mz1, mz2, mz3, Act.put, mz4, mz5, mz6]
     refine wpAnyH_ready (rs := [6]) (by kernel_rfl) (by simp) ?_
     refine AllReadyH.cons rfl (fun KK hKK => ?_) AllReadyH.nil
     go_simp
     refine hKK.out _ _ ⟨(HId.out.later (jlow wr.drew (.cells #[.int .i64 (z : Int)] 3))).vt.cell 2 vo rfl, (HId.out.later (jlow wr.drew (.cells #[.int .i64 (z : Int)] 3))).vt.free 2, by { have h9 := (HId.out.later (jlow wr.drew (.cells #[.int .i64 (z : Int)] 3))).nb.cell y hy; rw [HZ.out] at h9; exact h9 }⟩ (fun _ => ?_)
     clear hKK KK
     try simp only [mz1, mz2, mz3, Act.put, mz4, mz5, mz6]
     refine wpAnyH_ready (rs := [7]) (by kernel_rfl) (by simp) ?_
     refine AllReadyH.cons rfl (fun KK hKK => ?_) AllReadyH.nil
     refine qah rfl _ _ 25 rfl B3 3 i0 (.int .i64 0) 1 8 Try.underlying25 hi0 hz0 hz1 hz2 rfl (by decide) vo o _ rfl (HId.out.later (jlow wr.drew (.cells #[.int .i64 (z : Int)] 3))).outs ⟨wr.heap.size, 0, none⟩ 1 1 [.int .i64 (z : Int)] rfl rfl (qb9 _ wr.drew _ _) (qba _ _) hml (by omega) (HId.out.later (jlow wr.drew (.cells #[.int .i64 (z : Int)] 3))).hB2 ?_
     intro v8 w8 hown8 hgrow8
     obtain ⟨q8, d8, rfl⟩ := qaf hown8
     have HO8 := qa0 hown8
     have HG8 := qa0 hgrow8
     have HVb : Hid (∀ b, b < B3 → vo.ownBlock ≠ some b) := fun b hb => qaq HId.out.outs hb
     have HF8 := qa0 ((HId.out.later (jlow wr.drew (.cells #[.int .i64 (z : Int)] 3))).vt.kept hgrow8 (HVb.out V HId.out.hB))
     have HN8 := qa0 ((HId.out.later (jlow wr.drew (.cells #[.int .i64 (z : Int)] 3))).nb.kept hgrow8 (HVb.out g2 (by have := HId.out.h2; have := HId.out.hB; omega)))
     clear hown8 hgrow8
     refine hKK.out _ _ ⟨HF8.out.cell 2 vo rfl, HF8.out.free 2, by { have h9 := HN8.out.cell y hy; rw [HZ.out] at h9; exact h9 }⟩ (fun _ => ?_)
     clear hKK KK
     try simp only [mz1, mz2, mz3, Act.put, mz4, mz5, mz6]
     refine wtkq 8 ?vt8_21 rfl (by kernel_rfl) (fun _ _ _ h => h) (by rfl) ?yt8_21 ⟨HF8.out.cell 2 vo rfl, HF8.out.free 2, by { have h9 := HN8.out.cell y hy; rw [HZ.out] at h9; exact h9 }⟩ ?zt8_21
     case yt8_21 => (intro w hSw; (try dsimp only at hSw); go_simp; try with_reducible rfl)
     try simp only [mz1, mz2, mz3, Act.put, mz4, mz5, mz6]
     refine wpAnyH_done (by kernel_rfl) ?_ _
     have q1 := HF8.out.cell 2 vo rfl
     have q2 := HF8.out.free 2
     refine qa3 rfl (fun KK hKK => ?_)
     go_simp
     refine hKK.out _ _ ?_
     clear hKK KK
     try simp only [mz1, mz2, mz3, Act.put, mz4, mz5, mz6]
     have HI9 := qa0 (HId.out.put (by rw [HYo.out]; exact HZ.out) HO8.out HG8.out)
     clear HO8 HG8 HVb HF8 HN8 q1 q2 HD HI HId
     go_wp2
     exact ⟨⟨o + 1, _, by omega, by go_num, HI9.out⟩, by simp [intOf]; omega⟩
    ·obtain rfl : o = no := by omega
     obtain ⟨z, d3, rfl, -⟩ := hI.outs.form
     have y0 := hI.vt.cell 0 (.slice x k d1) rfl
     have y1 := hI.vt.cell 1 (.slice y n d2) rfl
     have y2 := hI.vt.cell 2 (.slice z o d3) rfl
     clear hI
     go_wp2_with (refine qae rfl 28 _ _ rfl (w.heap.size + 1) _ #[.slice x k d1, .slice y n d2, .slice z o d3] rfl rfl HI.out.vr sizeFl rfl (qan _ _ _ _ _ _ _ _ _) ?_; intro w9 HV9 HG9)
     have d0 := HV9.out.cell 0 (.slice x k d1) rfl
     have e1 := HV9.out.cell 1 (.slice y n d2) rfl
     have e2 := HV9.out.cell 2 (.slice z o d3) rfl
     try rw [Exit.noGoto_ret]
     refine bodyPost_ret (v := .tuple #[flv x k d1 y n d2 z o d3, .int .i64 0]) (by simp [results, Try.results22, go_sem, d0, e1, e2]) rfl ?_
     have hfin := HQ2.out wr w9 V B3 g2 m x y z d1 d2 d3 n k g (by rw [HNo.out]; exact HI.out) hk64 HG9.out HEn.out HMn.out
     rw [HNo.out] at hfin
     exact ⟨hfin, qaj HI.out.below HG9.out (by omega)⟩
end Go.Proofs.Ytkfnedpnkeacpaa
