/-
  Stage 21: Trim, of the reference (made by gen34h.py).
-/
import Derived.Test.YtkffkhlaljeimaaQttms00
import Derived.Test.YtkffkhlaljeimaaQttms44
set_option maxRecDepth 100000
set_option maxHeartbeats 16000000
namespace Go.Proofs.Ytkffkhlaljeimaa
open Go.RowKit
theorem ws_tri {w wr : World} {g1 g2 V N : Nat} {F : Fl} {a b c : Option Addr} {p q r : Nat} {m : Nat → Bool} (h : WS w wr g1 N F a b c p q r m) (hn : Ga wr g2 3 N (fun i => .int .i64 (ct m i : Nat))) (hV : V = wr.heap.size) :
  TrI w (wr.alloc (.cells #[.slice none 0 0, .slice none 0 0, .slice none 0 0] 25)) V g1 g2 N F m a b c p q r (.slice none 0 0) (.slice none 0 0) 0 0 (fun _ => 0) := by
 have hl := jlow wr (.cells #[.slice none 0 0, .slice none 0 0, .slice none 0 0] 25)
 have h1 := h.mks.lt
 have h2 := hn.lt
 have h3 := h.vr.lt
 subst hV
 exact ⟨h.vf.later hl, h.vr.later hl, Vf.new _ _ _, h3, h1, h2, h.mks.later hl, hn.later hl, Jo.nil _ _ _ _ _, by rw [Nat.zero_min]; exact En.nil _ _, Nw.nil _ _, jtwo h.below hl⟩
theorem hang_lt {F : Fl} (hM : MayP F) : ∀ k v u, v < F.ni + F.nn → hang F k v u → u < F.ni + F.nn := by
 intro k
 induction k with
 | zero => intro v u hv h; rw [← (show v = u from h)]; exact hv
 | succ k ih =>
  intro v u hv h
  obtain ⟨j, hj, hx⟩ := h
  exact ih _ _ (by have := (hM.term hv hj).2.1; omega) hx
theorem need_lt {F : Fl} (hM : MayP F) {u : Nat} (h : NeedP F u) : u < F.ni + F.nn := by
 obtain ⟨o, ho, k, hk⟩ := h
 have := hM.outs o ho
 exact hang_lt hM k _ _ (by omega) hk
theorem rtrim_ok (w : World) (a b c : Option Addr) (p q r : Nat) (F : Fl) (h : FlR w a b c F) (hM : MayP F) (N : Nat) (hN : F.ni + F.nn = N) :
  Calls Try.prog 25 #[flv a F.ni p b F.nn q c F.no r] w fun e w' => TmA F N w' e ∧ Below w.heap.size w w' := by
 obtain ⟨s0, hs0, hy0, hy1, hy2⟩ := info_parts jsli
 obtain ⟨i0, hi0, hz0, hz1, hz2⟩ := info_parts ji64
 obtain ⟨b0, hb0, hbz0, hbz1, hbz2⟩ := info_parts jboo
 obtain ⟨t0, ht0, htz0, htz1, htz2⟩ := info_parts jtrm
 have HF := qa0 h
 have HM := qa0 hM
 have HNN := qa0 hN
 have hni6 := hM.inp.le
 have hn4 := hM.n4
 have hno := hM.o64
 have hN41 : N ≤ 4160 := by omega
 have hml : N ≤ maxLen := by unfold maxLen; omega
 obtain ⟨wb, HW⟩ : ∃ wb, Hid ((w.alloc (.cells #[.slice a F.ni p, .slice b F.nn q, .slice c F.no r] 25)).alloc (.cells #[.slice none 0 0, .slice none 0 0, .slice none 0 0] 25) = wb) := ⟨_, rfl⟩
 have HB0 : Hid (Below w.heap.size w wb) := by rw [← HW.out]; exact jtwo (jlow _ _) (jlow _ _)
 have HVF : Hid (Vf wb w.heap.size 25 #[.slice a F.ni p, .slice b F.nn q, .slice c F.no r]) := by rw [← HW.out]; exact (Vf.new w _ _).later (jlow _ _)
 have HVR : Hid (Vf wb (w.heap.size + 1) 25 #[.slice none 0 0, .slice none 0 0, .slice none 0 0]) := by rw [← HW.out]; exact Vf.new1 _ _ _ _
 have HMay := qa0 (fun (w2 : World) (hb : Below w.heap.size w w2) => qa7 (qao w2 a b c p q r F (h.later hb)) hM)
 obtain ⟨Q, HQ⟩ : ∃ Q : World → Ending → Prop, Hid ((fun w2 e => TmA F N w2 e) = Q) := ⟨_, rfl⟩
 have HQ2 : Hid (∀ (wr w9 : World) (V B g2 : Nat) (m : Nat → Bool) (x y z : Option Addr) (d1 d2 d3 n k : Nat) (g : Nat → Nat), TrO w wr V B g2 N F m a b c p q r (.slice x k d1) (.slice y n d2) (.slice z F.no d3) k F.no g → k ≤ 64 → wr.grownBy w9 (some (w.heap.size + 1)) → En (fun x => m x = true) F.ni k g → (∀ u, m u = true ↔ NeedP F u) → Q w9 (.returned (.tuple #[flv x k d1 y n d2 z F.no d3, .int .i64 0]))) := fun wr w9 V B g2 m x y z d1 d2 d3 n k g h1 h2 h3 h4 h5 => by
  rw [← HQ.out]
  obtain ⟨rfl, h6⟩ := tr_flr h hM hN h1 h2 h3
  exact ⟨x, d1, y, d2, z, d3, k, g, m, rfl, h6, h4, h5⟩
 show Calls _ _ _ _ fun e w' => (fun w2 e => TmA F N w2 e) w' e ∧ _
 rw [HQ.out]
 have HInp := qa0 h.inp
 have HND := qa0 h.nodes
 have HOL := qa0 h.outs
 have HInM := qa0 hM.inp
 have HOut := qa0 hM.outs
 have hN2 : ((F.ni : Int) + (F.nn : Int)) = (N : Int) := by rw [← hN]; simp
 obtain ⟨ni, HNi⟩ : ∃ x, Hid (F.ni = x) := ⟨_, rfl⟩
 obtain ⟨nn, HNn⟩ : ∃ x, Hid (F.nn = x) := ⟨_, rfl⟩
 obtain ⟨no, HNo⟩ : ∃ x, Hid (F.no = x) := ⟨_, rfl⟩
 have x0 := HVF.out.cell 0 (.slice a F.ni p) rfl
 have x1 := HVF.out.cell 1 (.slice b F.nn q) rfl
 have x2 := HVF.out.cell 2 (.slice c F.no r) rfl
 have HWS : Hid (∀ {wr : World} {g1 : Nat} {m : Nat → Bool}, WS w wr g1 N F a b c p q r m → Vf wr w.heap.size 25 #[.slice a ni p, .slice b nn q, .slice c no r]) := fun h => by rw [← HNi.out, ← HNn.out, ← HNo.out]; exact h.vf
 have HTI : Hid (∀ {wr : World} {V g1 g2 : Nat} {m : Nat → Bool} {vi vn : Value} {v k : Nat} {g : Nat → Nat}, TrI w wr V g1 g2 N F m a b c p q r vi vn v k g → Vf wr w.heap.size 25 #[.slice a ni p, .slice b nn q, .slice c no r]) := fun h => by rw [← HNi.out, ← HNn.out, ← HNo.out]; exact h.vf
 have HTO : Hid (∀ {wr : World} {V B g2 : Nat} {m : Nat → Bool} {vi vn vo : Value} {k o : Nat} {g : Nat → Nat}, TrO w wr V B g2 N F m a b c p q r vi vn vo k o g → Vf wr w.heap.size 25 #[.slice a ni p, .slice b nn q, .slice c no r]) := fun h => by rw [← HNi.out, ← HNn.out, ← HNo.out]; exact h.vf
 rw [HNi.out, HNn.out, HNo.out] at HMay HW ⊢
 rw [HNi.out, HNn.out] at hN2
 rw [HNi.out] at x0 HInp HInM hni6
 rw [HNn.out] at x1 hn4 HND
 rw [HNo.out] at x2 HOL HOut hno
 have w1' : IntKind.i64.wrap ((ni : Int) + (nn : Int)) = (N : Int) := by rw [IntKind.wrap_i64]; omega
 have w2' : IntKind.i64.wrap ((nn : Int) - 1) = (nn : Int) - 1 := by rw [IntKind.wrap_i64]; omega
 clear h hM hN HQ
 go_enter Try.func25, Try.ntmps25
 go_wp2_with (first
  | (go_at_call 10; rw [HW.out]; refine (HMay.out _ HB0.out).mono ?_; rintro e w1 ⟨rfl, hb1⟩; have HB1 := qa0 (jtwo HB0.out hb1); have HVF1 := qa0 (HVF.out.later hb1); have HVR1 := qa0 (HVR.out.later hb1); have y0 := keepc hb1 x0; have y1 := keepc hb1 x1; have y2 := keepc hb1 x2; clear hb1)
  | (at_make; refine wpList_make_full _ rfl _ _ 81 rfl w1.heap.size 4 b0 (.bool false) 1 Try.underlying81 hb0 hbz0 hbz1 .i64 .i64 _ _ N rfl rfl rfl rfl (by rw [hbz2]; omega) hml (Nat.le_refl _) ?_; intro w2 hown hgrow; have HG2 : Hid (Ga w2 w1.heap.size 4 N (fun _ => .bool false)) := qau rfl hown; have hb2 : Below w1.heap.size w1 w2 := qaa.mp hgrow; have HB2 := qa0 (jtwo HB1.out hb2); have HVF2 := qa0 (HVF1.out.later hb2); have HVR2 := qa0 (HVR1.out.later hb2); have z2 := keepc hb2 y2; have z1 := keepc hb2 y1; have hg2 : w.heap.size + 1 < w1.heap.size := HVR1.out.lt; clear hown hgrow hb2))
 have HS0 : Hid (WS w w2 w1.heap.size N F a b c p q r (fun _ => false)) := ⟨HVF2.out, HVR2.out, HG2.out, hg2, HB2.out⟩
 obtain ⟨g1, HGe⟩ : ∃ g, Hid (w1.heap.size = g) := ⟨_, rfl⟩
 rw [HGe.out] at HS0 hg2 ⊢
 clear HG2 HB2 HVF2 HVR2 HB1 HVF1 HVR1 HGe HVF HVR HB0 HW x0 x1 x2 y0 y1 y2
 go_loopw [6] (fun vi wr => ∃ (o : Nat) (m : Nat → Bool), o ≤ no ∧ vi = .int .i64 (o : Int) ∧ WS w wr g1 N F a b c p q r m ∧ (∀ u, m u = true → NeedP F u) ∧ (∀ l, l < o → m (F.out l).toNat = true)) (fun vi _ => no - (intOf vi).toNat)
 case atStart => exact ⟨0, _, by omega, rfl, HS0.out, fun u hu => (by cases hu), fun l hl => by omega⟩
 case round =>
  clear HS0 z1 z2
  obtain ⟨o, m, ho, rfl, hS, hfr, hdn⟩ := hrel
  have HS := qa0 hS
  have HFr := qa0 hfr
  have HDn := qa0 hdn
  have x0 := (HWS.out hS).cell 0 (.slice a ni p) rfl
  have x1 := (HWS.out hS).cell 1 (.slice b nn q) rfl
  have x2 := (HWS.out hS).cell 2 (.slice c no r) rfl
  clear hfr hdn
  by_cases hlt : o < no
  ·obtain ⟨xc, oc, ec, hcc⟩ := (HOL.out.later hS.below) o hlt
   have hoo := HOut.out o hlt
   obtain ⟨y, hy⟩ := Int.eq_ofNat_of_zero_le hoo.1
   have HYo : Hid ((F.out o).toNat = y) := by show _ = _; rw [hy]; simp
   rw [hy] at hcc hoo
   have hyN : y < N := by have := HNN.out; omega
   subst ec
   have p0 : (0 : Int) ≤ (o : Int) := by omega
   have p1 : (o : Int) < (no : Int) := by omega
   have r0 : (0 : Int) ≤ (y : Int) := by omega
   have r1 : (y : Int) < (N : Int) := by omega
   have c0 := hS.mks.cell y hyN
   have f0 := hS.mks.free y
   have HS2 := qa0 (hS.put y)
   have HFr2 : Hid (∀ u, (if u = y then true else m u) = true → NeedP F u) := fun u hu => by
    by_cases e : u = y
    ·exact ⟨o, by rw [HNo.out]; exact hlt, 0, by show _ = _; rw [HYo.out, e]⟩
    ·rw [if_neg e] at hu; exact HFr.out u hu
   have HDn2 : Hid (∀ l, l < o + 1 → (if (F.out l).toNat = y then true else m (F.out l).toNat) = true) := fun l hl => by
    by_cases e : l = o
    ·rw [if_pos (by rw [e]; exact HYo.out)]
    ·split
     ·rfl
     ·exact HDn.out l (by omega)
   clear hS hoo hy
   go_wp2
   exact ⟨⟨o + 1, _, by omega, by go_num, HS2.out, HFr2.out, HDn2.out⟩, by simp [intOf]; omega⟩
  ·obtain rfl : o = no := by omega
   have HW0 : Hid (WI F nn m) := ⟨fun u hu hm => fun j hj => by
    exfalso
    have h1 := HF.out
    have : tn F u = F.nt (u - F.ni) := if_neg (by omega)
    obtain ⟨oo, hoo, kk, hk⟩ := HFr.out u hm
    have := need_lt HM.out (HFr.out u hm)
    rw [HNi.out] at hu
    rw [HNi.out, HNn.out] at this
    omega, HFr.out, fun l hl => HDn.out l (by rw [← HNo.out]; exact hl)⟩
   clear hS
   go_wp2
   go_loopw [7] (fun vi wr => ∃ (i : Nat) (z : Int) (m : Nat → Bool), i ≤ nn ∧ vi = .int .i64 z ∧ z = (i : Int) - 1 ∧ WS w wr g1 N F a b c p q r m ∧ WI F i m) (fun vi _ => (intOf vi + 1).toNat)
   case atStart => exact ⟨nn, _, m, Nat.le_refl _, rfl, rfl, HS.out, HW0.out⟩
   case round =>
    clear HS HW0 x0 x1 x2 HFr HDn
    obtain ⟨i, z, m, hi, rfl, hz, hS, hW⟩ := hrel
    have HS := qa0 hS
    have HWi := qa0 hW
    have x0 := (HWS.out hS).cell 0 (.slice a ni p) rfl
    have x1 := (HWS.out hS).cell 1 (.slice b nn q) rfl
    have x2 := (HWS.out hS).cell 2 (.slice c o r) rfl
    clear hW
    by_cases hi0 : i = 0
    ·subst hi0
     obtain rfl : z = -1 := by omega
     have HMn := qa0 HWi.out.fin
     clear hS HWi hz hi
     obtain ⟨g2, HGe2⟩ : ∃ g2, Hid (wr.heap.size = g2) := ⟨_, rfl⟩
     have hg12 : g1 < g2 := by rw [← HGe2.out]; exact HS.out.mks.lt
     go_wp2_with (at_make; refine wpList_make_full _ rfl _ _ 22 rfl wr.heap.size 3 i0 (.int .i64 0) 1 Try.underlying22 hi0 hz0 hz1 .i64 .i64 _ _ N rfl rfl rfl rfl (by rw [hz2]; omega) hml (Nat.le_refl _) ?_; intro w6 hown hgrow; have HG6 : Hid (Ga w6 wr.heap.size 3 N (fun _ => .int .i64 0)) := qau rfl hown; have HS6 := qa0 (HS.out.later (qaa.mp hgrow)); clear hown hgrow)
     rw [HGe2.out] at HG6 ⊢
     clear HS x0 x1 x2 HGe2
     go_loopw [10, 11] (fun vn vi w7 => ∃ j : Nat, j ≤ N ∧ vi = .int .i64 (j : Int) ∧ vn = .int .i64 (ct m j : Nat) ∧ Ga w7 g2 3 N (fun i => .int .i64 (if i < j then (ct m i : Nat) else 0)) ∧ WS w w7 g1 N F a b c p q r m) (fun _ vi _ => N - (intOf vi).toNat)
     case atStart => exact ⟨0, by omega, rfl, rfl, HG6.out.congr (fun i _ => by simp), HS6.out⟩
     case round =>
      clear HG6 HS6
      obtain ⟨j, hj, rfl, rfl, hg, hS⟩ := hrel
      have HG := qa0 hg
      have HS := qa0 hS
      have hcl := ct_le m j
      obtain ⟨n, HNc⟩ : ∃ n, Hid (ct m j = n) := ⟨_, rfl⟩
      rw [HNc.out] at hcl ⊢
      by_cases hlt : j < N
      ·have c1 := hg.cell j hlt
       have f1 := hg.free j
       rw [if_neg (by omega)] at c1
       have q0 : (0 : Int) ≤ (j : Int) := by omega
       have q1 : (j : Int) < (N : Int) := by omega
       have gs := qa1 wr g2 j (.int .i64 (n : Int))
       have HS2 := qa0 (hS.beside gs hg12)
       have HG2 : Hid (Ga (wr.setCell ⟨g2, j, none⟩ (.int .i64 (n : Int))) g2 3 N (fun i => .int .i64 (if i < j + 1 then (ct m i : Nat) else 0))) := (hg.set j _).congr (fun i _ => by
        by_cases e : i = j
        ·rw [if_pos e, if_pos (by omega), e, HNc.out]
        ·rw [if_neg e]
         by_cases e2 : i < j
         ·rw [if_pos e2, if_pos (by omega)]
         ·rw [if_neg e2, if_neg (by omega)])
       have c0 := HS2.out.mks.cell j hlt
       clear hg hS gs
       cases hmj : m j with
       | true =>
        rw [hmj] at c0
        have HC : Hid (ct m (j + 1) = n + 1) := by show ct m j + (if m j = true then 1 else 0) = _; rw [HNc.out, hmj, if_pos rfl]
        have w5' : IntKind.i64.wrap ((n : Int) + 1) = (n : Int) + 1 := by rw [IntKind.wrap_i64]; omega
        clear hmj
        go_wp2
        exact ⟨⟨j + 1, by omega, by go_num, by rw [HC.out]; simp, HG2.out, HS2.out⟩, by simp [intOf]; omega⟩
       | false =>
        rw [hmj] at c0
        have HC : Hid (ct m (j + 1) = n) := by show ct m j + (if m j = true then 1 else 0) = _; rw [HNc.out, hmj]; rfl
        clear hmj
        go_wp2
        exact ⟨⟨j + 1, by omega, by go_num, by rw [HC.out], HG2.out, HS2.out⟩, by simp [intOf]; omega⟩
      ·obtain rfl : j = N := by omega
       obtain ⟨V, HVV⟩ : ∃ V, Hid (wr.heap.size = V) := ⟨_, rfl⟩
       have HI0 := qa0 (ws_tri (V := V) HS.out (HG.out.congr (fun i hi => by rw [if_pos hi])) HVV.out.symm)
       clear hg hS
       go_wp2
       rw [HVV.out]
       clear HVV HS HG
       go_loopw [13] (fun vi9 wr => ∃ (v k : Nat) (g : Nat → Nat) (vi : Value), v ≤ ni ∧ vi9 = .int .i64 (v : Int) ∧ TrI w wr V g1 g2 j F m a b c p q r vi (.slice none 0 0) v k g) (fun vi9 _ => ni - (intOf vi9).toNat)
       case atStart => exact ⟨0, 0, _, _, by omega, rfl, HI0.out⟩
       case round =>
        clear HI0
        obtain ⟨v, k, g, vi, hv, rfl, hI⟩ := hrel
        have HI := qa0 hI
        have x0 := (HTI.out hI).cell 0 (.slice a ni p) rfl
        have x1 := (HTI.out hI).cell 1 (.slice b nn q) rfl
        have x2 := (HTI.out hI).cell 2 (.slice c o r) rfl
        have hk6 := hI.en.le
        have hb := hI.below
        by_cases hlt : v < ni
        ·have hvj : v < j := by have := HNN.out; rw [HNi.out] at this; omega
         have c0 := hI.mks.cell v hvj
         have p0 : (0 : Int) ≤ (v : Int) := by omega
         have p1 : (v : Int) < (ni : Int) := by omega
         have p2 : (v : Int) < (j : Int) := by omega
         cases hmv : m v with
         | false =>
          rw [hmv] at c0
          have HSk := qa0 (HI.out.skip hmv)
          clear hI hb hmv
          go_wp2
          exact ⟨⟨v + 1, k, g, vi, by omega, by go_num, HSk.out⟩, by simp [intOf]; omega⟩
         | true =>
          rw [hmv] at c0
          have HMv := qa0 hmv
          clear hmv
          have HId := qa0 (HI.out.later (qac wr))
          obtain ⟨xa, oa, ea, hca⟩ := HInp.out v hlt
          have hin := HInM.out v hlt
          obtain ⟨xn, hxn⟩ := Int.eq_ofNat_of_zero_le hin.1
          have HXn : Hid ((F.inp v).toNat = xn) := by show _ = _; rw [hxn]; simp
          rw [hxn] at hca
          subst ea
          have HIn : Hid (∀ W, Below w.heap.size w W → W.cell? ⟨xa, oa + v, none⟩ = some (.int .i64 (xn : Int))) := fun W hW => by rw [hW.cell (p := ⟨xa, _, none⟩) (qa3 hca)]; exact hca
          have hcur := HIn.out wr hb
          have hml : k + 1 ≤ maxLen := by unfold maxLen; omega
          have HviN := qa0 (show v < F.ni by rw [HNi.out]; exact hlt)
          clear hI hb hca hxn hin
          go_wp2
          have HD : Hid ((fun w' => w'.cell? ⟨V, 0, none⟩ = some vi ∧ w'.frozen? ⟨V, 0, none⟩ = false ∧ w'.cell? ⟨w.heap.size, 0, none⟩ = some (.slice (some ⟨xa, oa, none⟩) ni p) ∧ w'.cell? ⟨xa, oa + v, none⟩ = some (.int .i64 (xn : Int))) wr.drew) := ⟨HId.out.vt.cell 0 vi rfl, HId.out.vt.free 0, (HTI.out HId.out).cell 0 (.slice (some ⟨xa, oa, none⟩) ni p) rfl, HIn.out _ HId.out.below⟩
          refine qa2 (k := 10) (n := 10) (fun w' => w'.cell? ⟨V, 0, none⟩ = some vi ∧ w'.frozen? ⟨V, 0, none⟩ = false ∧ w'.cell? ⟨w.heap.size, 0, none⟩ = some (.slice (some ⟨xa, oa, none⟩) ni p) ∧ w'.cell? ⟨xa, oa + v, none⟩ = some (.int .i64 (xn : Int))) (by kernel_rfl) (by kernel_rfl) (by decide) (by rfl) ?_
          refine wtkq 0 ?vt0_1 rfl (by kernel_rfl) (fun _ _ _ h => h) (by rfl) ?yt0_1 HD.out ?zt0_1
          case yt0_1 => (intro w hSw; (try dsimp only at hSw); go_simp; try with_reducible rfl)
          try simp only [mz1, mz3, Act.put, mz4, mz5, mz6]
          refine wtkq 1 ?vt1_2 rfl (by kernel_rfl) (fun _ _ _ h => h) (by rfl) ?yt1_2 HD.out ?zt1_2
          case yt1_2 => (intro w hSw; (try dsimp only at hSw); go_simp; try with_reducible rfl)
          try simp only [mz1, mz2, mz3, Act.put, mz4, mz5, mz6]
          refine wtkq 2 ?vt2_3 rfl (by kernel_rfl) (fun _ _ _ h => h) (by rfl) ?yt2_3 HD.out ?zt2_3
          case yt2_3 => (intro w hSw; (try dsimp only at hSw); go_simp; try with_reducible rfl)
          try simp only [mz1, mz2, mz3, Act.put, mz4, mz5, mz6]
          refine wtkq 3 ?vt3_4 rfl (by kernel_rfl) (fun _ _ _ h => h) (by rfl) ?yt3_4 HD.out ?zt3_4
          case yt3_4 => (intro w hSw; (try dsimp only at hSw); go_simp; try with_reducible rfl)
          try simp only [mz1, mz2, mz3, Act.put, mz4, mz5, mz6]
          refine wtkq 4 ?vt4_5 rfl (by kernel_rfl) (fun _ _ _ h => h) (by rfl) ?yt4_5 HD.out ?zt4_5
          case yt4_5 => (intro w hSw; (try dsimp only at hSw); go_simp; try with_reducible rfl)
          try simp only [mz1, mz2, mz3, Act.put, mz4, mz5, mz6]
          refine wtkq 5 ?vt5_6 rfl (by kernel_rfl) (fun _ _ _ h => h) (by rfl) ?yt5_6 HD.out ?zt5_6
          case yt5_6 => (intro w hSw; (try dsimp only at hSw); go_simp; try with_reducible rfl)
          try simp only [mz1, mz2, mz3, Act.put, mz4, mz5, mz6]
          refine wtkq 6 ?vt6_7 rfl (by kernel_rfl) (fun _ _ _ h => h) (by rfl) ?yt6_7 HD.out ?zt6_7
          case yt6_7 => (intro w hSw; (try dsimp only at hSw); go_simp; try with_reducible rfl)
          try simp only [mz1, mz2, mz3, Act.put, mz4, mz5, mz6]
          refine wpAnyH_ready (rs := [7]) (by kernel_rfl) (by simp) ?_
          refine AllReadyH.cons rfl (fun KK hKK => ?_) AllReadyH.nil
          go_simp
          refine hKK.out _ _ ⟨(HId.out.later (jlow wr.drew (.cells #[.int .i64 (xn : Int)] 3))).vt.cell 0 vi rfl, (HId.out.later (jlow wr.drew (.cells #[.int .i64 (xn : Int)] 3))).vt.free 0, (HTI.out (HId.out.later (jlow wr.drew (.cells #[.int .i64 (xn : Int)] 3)))).cell 0 (.slice (some ⟨xa, oa, none⟩) ni p) rfl, HIn.out _ (HId.out.later (jlow wr.drew (.cells #[.int .i64 (xn : Int)] 3))).below⟩ (fun _ => ?_)
          clear hKK KK
          try simp only [mz1, mz2, mz3, Act.put, mz4, mz5, mz6]
          refine wpAnyH_ready (rs := [8]) (by kernel_rfl) (by simp) ?_
          refine AllReadyH.cons rfl (fun KK hKK => ?_) AllReadyH.nil
          refine qa4 rfl _ _ 22 rfl (V + 1) 3 i0 (.int .i64 0) 1 8 Try.underlying22 hi0 hz0 hz1 hz2 rfl (by decide) vi k _ rfl (HId.out.later (jlow wr.drew (.cells #[.int .i64 (xn : Int)] 3))).inp ⟨wr.heap.size, 0, none⟩ 1 1 [.int .i64 (xn : Int)] rfl rfl (qal _ wr.drew _ _) (qam _ _) hml (by omega) (by have := HI.out.vt.lt; simp; omega) ?_
          intro v8 w8 hown8 hgrow8
          obtain ⟨q8, d8, rfl⟩ := qad hown8
          have HO8 := qa0 hown8
          have HG8 := qa0 hgrow8
          have HVb : Hid (∀ b, b ≤ V → vi.ownBlock ≠ some b) := fun b hb => qa8 HId.out.inp (by omega)
          have HF8 := qa0 ((HId.out.later (jlow wr.drew (.cells #[.int .i64 (xn : Int)] 3))).vt.kept hgrow8 (HVb.out V (Nat.le_refl _)))
          have HX8 := qa0 ((HTI.out (HId.out.later (jlow wr.drew (.cells #[.int .i64 (xn : Int)] 3)))).kept hgrow8 (HVb.out _ (by have := HId.out.hV; omega)))
          have HB8 := qa0 ((HId.out.later (jlow wr.drew (.cells #[.int .i64 (xn : Int)] 3))).below.grown hgrow8 (HId.out.later (jlow wr.drew (.cells #[.int .i64 (xn : Int)] 3))).below.size (fun g e => by { rcases Nat.lt_or_ge V g with h9 | h9; (have := HId.out.hV; omega); exact absurd e (HVb.out g h9) }))
          clear hown8 hgrow8
          refine hKK.out _ _ ⟨HF8.out.cell 0 vi rfl, HF8.out.free 0, HX8.out.cell 0 (.slice (some ⟨xa, oa, none⟩) ni p) rfl, HIn.out _ HB8.out⟩ (fun _ => ?_)
          clear hKK KK
          try simp only [mz1, mz2, mz3, Act.put, mz4, mz5, mz6]
          refine wtkq 9 ?vt9_8 rfl (by kernel_rfl) (fun _ _ _ h => h) (by rfl) ?yt9_8 ⟨HF8.out.cell 0 vi rfl, HF8.out.free 0, HX8.out.cell 0 (.slice (some ⟨xa, oa, none⟩) ni p) rfl, HIn.out _ HB8.out⟩ ?zt9_8
          case yt9_8 => (intro w hSw; (try dsimp only at hSw); go_simp; try with_reducible rfl)
          try simp only [mz1, mz2, mz3, Act.put, mz4, mz5, mz6]
          refine wpAnyH_done (by kernel_rfl) ?_ _
          have q1 := HF8.out.cell 0 vi rfl
          have q2 := HF8.out.free 0
          refine qab rfl (fun KK hKK => ?_)
          go_simp
          refine hKK.out _ _ ?_
          clear hKK KK
          try simp only [mz1, mz2, mz3, Act.put, mz4, mz5, mz6]
          have HI9 := qa0 (HId.out.put_i HviN.out HMv.out HXn.out HO8.out HG8.out)
          clear HO8 HG8 HVb HF8 HX8 HB8 q1 q2 HD HI HId
          go_wp2
          exact ⟨⟨v + 1, k + 1, _, _, by omega, by go_num, HI9.out⟩, by simp [intOf]; omega⟩
        ·obtain rfl : v = ni := by omega
         clear hI hb
         go_wp2
         go_loopw [14, 15] (fun vi9 _ wr => ∃ (i : Nat) (vn : Value), i ≤ nn ∧ vi9 = .int .i64 (i : Int) ∧ TrI w wr V g1 g2 j F m a b c p q r vi vn (v + i) k g) (fun vi9 _ _ => nn - (intOf vi9).toNat)
         case atStart => exact ⟨0, _, by omega, rfl, HI.out⟩
         case round =>
          clear HI x0 x1 x2
          obtain ⟨i, vn, hi, rfl, hI⟩ := hrel
          have HI := qa0 hI
          have x1 := (HTI.out hI).cell 1 (.slice b nn q) rfl
          have x2 := (HTI.out hI).cell 2 (.slice c o r) rfl
          have hb := hI.below
          by_cases hlt : i < nn
          ·obtain ⟨vv, HVv⟩ : ∃ vv, Hid (v + i = vv) := ⟨_, rfl⟩
           have hvj : vv < j := by have := HVv.out; have := HNN.out; rw [HNi.out, HNn.out] at *; omega
           have c0 := hI.mks.cell vv hvj
           have p0 : (0 : Int) ≤ (i : Int) := by omega
           have p1 : (i : Int) < (nn : Int) := by omega
           have p2 : (0 : Int) ≤ (vv : Int) := by omega
           have p3 : (vv : Int) < (j : Int) := by omega
           have w6' : IntKind.i64.wrap ((v : Int) + (i : Int)) = (vv : Int) := by have := HVv.out; rw [IntKind.wrap_i64]; omega
           cases hmv : m vv with
           | false =>
            rw [hmv] at c0
            have HSk := qa0 (HI.out.skip (by rw [HVv.out]; exact hmv))
            clear hI hb hmv
            go_wp2
            exact ⟨⟨i + 1, vn, by omega, by go_num, HSk.out⟩, by simp [intOf]; omega⟩
           | true =>
            rw [hmv] at c0
            have HMv := qa0 hmv
            clear hmv
            obtain ⟨hnt, xb, ob, t, td, eb, hc, htm⟩ := HND.out i hlt
            subst eb
            obtain ⟨tl, HTL⟩ : ∃ tl, Hid (F.nt i = tl) := ⟨_, rfl⟩
            have hvi : vv - F.ni = i := by have h1 := HVv.out; have := HNi.out; omega
            have HTN : Hid (tn F vv = tl) := by
             have h1 := HVv.out
             have h2 : ¬ vv < F.ni := by have := HNi.out; omega
             show (if vv < F.ni then 0 else F.nt (vv - F.ni)) = _
             rw [if_neg h2, hvi, HTL.out]
            rw [HTL.out] at hc htm hnt
            have HT := qa0 htm
            have HCl := qa0 hc
            have htl : tl ≤ 4160 := tl_le HM.out HNN.out hvj HTN.out hN41
            obtain ⟨B5, HBB⟩ : ∃ B5, Hid (wr.heap.size = B5) := ⟨_, rfl⟩
            have HTw0 : Hid (Tw wr B5 (.slice none 0 0) []) := Tw.nil _ _
            have HBr : Hid (Below wr.heap.size wr wr) := Below.refl _ _
            have HCz : Hid (∀ W, Below wr.heap.size wr W → W.cell? ⟨xb, ob + i, none⟩ = some (.slice t tl td) ∧ Tml W t tl (F.of i) (F.fc i)) := fun W hW => ⟨keepc (jtwo HI.out.below hW) HCl.out, HT.out.later (jtwo HI.out.below hW)⟩
            obtain ⟨W5, HW5⟩ : ∃ W5, W5 = wr := ⟨_, rfl⟩
            subst HW5
            clear hI hb hc htm
            go_wp2
            go_loopw [15, 16] (fun v15 vl w9 => ∃ (l : Nat) (L : List Trm), l ≤ tl ∧ vl = .int .i64 (l : Int) ∧ Hid (((List.range l).map fun x => (((ct m (tv F vv x) : Nat) : Int), F.fc i x)) = L) ∧ Tw w9 B5 v15 L ∧ Below W5.heap.size W5 w9) (fun _ vl _ => tl - (intOf vl).toNat)
            case atStart => exact ⟨0, [], by omega, rfl, rfl, HTw0.out, HBr.out⟩
            case round =>
             clear HTw0 HBr x1 x2 c0
             obtain ⟨l, L, hl, rfl, HL, hw, hb9⟩ := hrel
             obtain ⟨xs, ds, rfl, -⟩ := hw.form
             have hLl : L.length = l := by rw [← HL.out]; simp
             have HTw := qa0 hw
             have HB9 := qa0 hb9
             have hI9 := HI.out.later hb9
             have x1 := (HTI.out hI9).cell 1 (.slice (some ⟨xb, ob, none⟩) nn q) rfl
             obtain ⟨y1, ht9⟩ := HCz.out _ hb9
             clear hw
             by_cases hlt2 : l < tl
             ·obtain ⟨_, xt, ot, es, t0', t1'⟩ := ht9 l hlt2
              have ht := HM.out.term (v := vv) (j := l) (by have := HNN.out; omega) (by rw [HTN.out]; exact hlt2)
              rw [hvi] at ht
              obtain ⟨y, HY⟩ : ∃ y, Hid (tv F vv l = y) := ⟨_, rfl⟩
              rw [HY.out] at ht
              obtain ⟨u, HU⟩ : ∃ u, Hid (F.fc i l = u) := ⟨_, rfl⟩
              obtain ⟨z, HZ⟩ : ∃ z, Hid (ct m y = z) := ⟨_, rfl⟩
              rw [ht.1] at t0'
              rw [HU.out] at t1'
              have hyj : y < j := by omega
              subst es
              have HSW : Hid (∀ W, Below W5.heap.size W5 W → W.cell? ⟨g2, y, none⟩ = some (.int .i64 (z : Int)) ∧ W.cell? ⟨w.heap.size, 1, none⟩ = some (.slice (some ⟨xb, ob, none⟩) nn q) ∧ W.cell? ⟨xb, ob + i, none⟩ = some (.slice (some ⟨xt, ot, none⟩) tl td) ∧ W.cell? ⟨xt, ot + l * 2, none⟩ = some (.int .i64 (y : Int)) ∧ W.cell? ⟨xt, ot + l * 2 + 1, none⟩ = some (.int .u8 (u : Int))) := fun W hW => by
               obtain ⟨k0, k1⟩ := HCz.out W hW
               obtain ⟨_, b', o', e', k2, k3⟩ := k1 l hlt2
               cases e'
               rw [ht.1] at k2
               rw [HU.out] at k3
               have k4 := (HI.out.later hW).nb.cell y hyj
               rw [HZ.out] at k4
               exact ⟨k4, (HTI.out (HI.out.later hW)).cell 1 (.slice (some ⟨xb, ob, none⟩) nn q) rfl, k0, k2, k3⟩
              have HL2 : Hid (((List.range (l + 1)).map fun x => (((ct m (tv F vv x) : Nat) : Int), F.fc i x)) = L ++ [((z : Int), u)]) := by
               show _ = _
               rw [List.range_succ, List.map_append, HL.out, List.map_cons, List.map_nil, HY.out, HZ.out, HU.out]
              have r0 : (0 : Int) ≤ (l : Int) := by omega
              have r1 : (l : Int) < (tl : Int) := by omega
              have r2 : (0 : Int) ≤ (y : Int) := by omega
              have r3 : (y : Int) < (j : Int) := by omega
              have hml2 : L.length + 1 ≤ maxLen := by unfold maxLen; omega
              have hL4 : L.length ≤ 4160 := by omega
              clear hI9 hb9 ht9 ht hLl
              go_wp2
              have hbd := HB9.out.drew
              have HD : Hid ((fun w' => w'.cell? ⟨g2, y, none⟩ = some (.int .i64 (z : Int)) ∧ w'.cell? ⟨w.heap.size, 1, none⟩ = some (.slice (some ⟨xb, ob, none⟩) nn q) ∧ w'.cell? ⟨xb, ob + i, none⟩ = some (.slice (some ⟨xt, ot, none⟩) tl td) ∧ w'.cell? ⟨xt, ot + l * 2, none⟩ = some (.int .i64 (y : Int)) ∧ w'.cell? ⟨xt, ot + l * 2 + 1, none⟩ = some (.int .u8 (u : Int))) wr.drew) := HSW.out _ hbd
              refine wp_region_held (S := (fun w' => w'.cell? ⟨g2, y, none⟩ = some (.int .i64 (z : Int)) ∧ w'.cell? ⟨w.heap.size, 1, none⟩ = some (.slice (some ⟨xb, ob, none⟩) nn q) ∧ w'.cell? ⟨xb, ob + i, none⟩ = some (.slice (some ⟨xt, ot, none⟩) tl td) ∧ w'.cell? ⟨xt, ot + l * 2, none⟩ = some (.int .i64 (y : Int)) ∧ w'.cell? ⟨xt, ot + l * 2 + 1, none⟩ = some (.int .u8 (u : Int)))) (by kernel_rfl) ?_
              change wpAnyH _ _ _ _ _ _ _ _ (World.drew _)
              refine wtkq 0 ?vt0_22 rfl (by kernel_rfl) (fun _ _ _ h => h) (by rfl) ?yt0_22 HD.out ?zt0_22
              case yt0_22 => (intro w hSw; (try dsimp only at hSw); go_simp; try with_reducible rfl)
              try simp only [mz1, mz3, Act.put, mz4, mz5, mz6]
              refine wtkq 1 ?vt1_23 rfl (by kernel_rfl) (fun _ _ _ h => h) (by rfl) ?yt1_23 HD.out ?zt1_23
              case yt1_23 => (intro w hSw; (try dsimp only at hSw); go_simp; try with_reducible rfl)
              try simp only [mz1, mz2, mz3, Act.put, mz4, mz5, mz6]
              refine wtkq 2 ?vt2_24 rfl (by kernel_rfl) (fun _ _ _ h => h) (by rfl) ?yt2_24 HD.out ?zt2_24
              case yt2_24 => (intro w hSw; (try dsimp only at hSw); go_simp; try with_reducible rfl)
              try simp only [mz1, mz2, mz3, Act.put, mz4, mz5, mz6]
              refine wtkq 3 ?vt3_25 rfl (by kernel_rfl) (fun _ _ _ h => h) (by rfl) ?yt3_25 HD.out ?zt3_25
              case yt3_25 => (intro w hSw; (try dsimp only at hSw); go_simp; try with_reducible rfl)
              try simp only [mz1, mz2, mz3, Act.put, mz4, mz5, mz6]
              refine wtkq 4 ?vt4_26 rfl (by kernel_rfl) (fun _ _ _ h => h) (by rfl) ?yt4_26 HD.out ?zt4_26
              case yt4_26 => (intro w hSw; (try dsimp only at hSw); go_simp; try with_reducible rfl)
              try simp only [mz1, mz2, mz3, Act.put, mz4, mz5, mz6]
              refine wtkq 5 ?vt5_27 rfl (by kernel_rfl) (fun _ _ _ h => h) (by rfl) ?yt5_27 HD.out ?zt5_27
              case yt5_27 => (intro w hSw; (try dsimp only at hSw); go_simp; try with_reducible rfl)
              try simp only [mz1, mz2, mz3, Act.put, mz4, mz5, mz6]
              refine wtkq 6 ?vt6_28 rfl (by kernel_rfl) (fun _ _ _ h => h) (by rfl) ?yt6_28 HD.out ?zt6_28
              case yt6_28 => (intro w hSw; (try dsimp only at hSw); go_simp; try with_reducible rfl)
              try simp only [mz1, mz2, mz3, Act.put, mz4, mz5, mz6]
              refine wtkq 7 ?vt7_29 rfl (by kernel_rfl) (fun _ _ _ h => h) (by rfl) ?yt7_29 HD.out ?zt7_29
              case yt7_29 => (intro w hSw; (try dsimp only at hSw); go_simp; try with_reducible rfl)
              try simp only [mz1, mz2, mz3, Act.put, mz4, mz5, mz6]
              refine wtkq 8 ?vt8_30 rfl (by kernel_rfl) (fun _ _ _ h => h) (by rfl) ?yt8_30 HD.out ?zt8_30
              case yt8_30 => (intro w hSw; (try dsimp only at hSw); go_simp; try with_reducible rfl)
              try simp only [mz1, mz2, mz3, Act.put, mz4, mz5, mz6]
              refine wtkq 9 ?vt9_31 rfl (by kernel_rfl) (fun _ _ _ h => h) (by rfl) ?yt9_31 HD.out ?zt9_31
              case yt9_31 => (intro w hSw; (try dsimp only at hSw); go_simp; try with_reducible rfl)
              try simp only [mz1, mz2, mz3, Act.put, mz4, mz5, mz6]
              refine wtkq 10 ?vt10_32 rfl (by kernel_rfl) (fun _ _ _ h => h) (by rfl) ?yt10_32 HD.out ?zt10_32
              case yt10_32 => (intro w hSw; (try dsimp only at hSw); go_simp; try with_reducible rfl)
              try simp only [mz1, mz2, mz3, Act.put, mz4, mz5, mz6]
              refine wtkq 11 ?vt11_33 rfl (by kernel_rfl) (fun _ _ _ h => h) (by rfl) ?yt11_33 HD.out ?zt11_33
              case yt11_33 => (intro w hSw; (try dsimp only at hSw); go_simp; try with_reducible rfl)
              try simp only [mz1, mz2, mz3, Act.put, mz4, mz5, mz6]
              refine wtkq 12 ?vt12_34 rfl (by kernel_rfl) (fun _ _ _ h => h) (by rfl) ?yt12_34 HD.out ?zt12_34
              case yt12_34 => (intro w hSw; (try dsimp only at hSw); go_simp; try with_reducible rfl)
              try simp only [mz1, mz2, mz3, Act.put, mz4, mz5, mz6]
              refine wtkq 13 ?vt13_35 rfl (by kernel_rfl) (fun _ _ _ h => h) (by rfl) ?yt13_35 HD.out ?zt13_35
              case yt13_35 => (intro w hSw; (try dsimp only at hSw); go_simp; try with_reducible rfl)
              try simp only [mz1, mz2, mz3, Act.put, mz4, mz5, mz6]
              refine wtkq 14 ?vt14_36 rfl (by kernel_rfl) (fun _ _ _ h => h) (by rfl) ?yt14_36 HD.out ?zt14_36
              case yt14_36 => (intro w hSw; (try dsimp only at hSw); go_simp; try with_reducible rfl)
              try simp only [mz1, mz2, mz3, Act.put, mz4, mz5, mz6]
              refine wtkq 15 ?vt15_37 rfl (by kernel_rfl) (fun _ _ _ h => h) (by rfl) ?yt15_37 HD.out ?zt15_37
              case yt15_37 => (intro w hSw; (try dsimp only at hSw); go_simp; try with_reducible rfl)
              try simp only [mz1, mz2, mz3, Act.put, mz4, mz5, mz6]
              refine wtkq 16 ?vt16_38 rfl (by kernel_rfl) (fun _ _ _ h => h) (by rfl) ?yt16_38 HD.out ?zt16_38
              case yt16_38 => (intro w hSw; (try dsimp only at hSw); go_simp; try with_reducible rfl)
              try simp only [mz1, mz2, mz3, Act.put, mz4, mz5, mz6]
              refine wtkq 17 ?vt17_39 rfl (by kernel_rfl) (fun _ _ _ h => h) (by rfl) ?yt17_39 HD.out ?zt17_39
              case yt17_39 => (intro w hSw; (try dsimp only at hSw); go_simp; try with_reducible rfl)
              try simp only [mz1, mz2, mz3, Act.put, mz4, mz5, mz6]
              refine wtkq 18 ?vt18_40 rfl (by kernel_rfl) (fun _ _ _ h => h) (by rfl) ?yt18_40 HD.out ?zt18_40
              case yt18_40 => (intro w hSw; (try dsimp only at hSw); go_simp; try with_reducible rfl)
              try simp only [mz1, mz2, mz3, Act.put, mz4, mz5, mz6]
              refine wtkq 19 ?vt19_41 rfl (by kernel_rfl) (fun _ _ _ h => h) (by rfl) ?yt19_41 HD.out ?zt19_41
              case yt19_41 => (intro w hSw; (try dsimp only at hSw); go_simp; try with_reducible rfl)
              try simp only [mz1, mz2, mz3, Act.put, mz4, mz5, mz6]
              refine wtkq 20 ?vt20_42 rfl (by kernel_rfl) (fun _ _ _ h => h) (by rfl) ?yt20_42 HD.out ?zt20_42
              case yt20_42 => (intro w hSw; (try dsimp only at hSw); go_simp; try with_reducible rfl)
              try simp only [mz1, mz2, mz3, Act.put, mz4, mz5, mz6]
              refine wtkq 21 ?vt21_43 rfl (by kernel_rfl) (fun _ _ _ h => h) (by rfl) ?yt21_43 HD.out ?zt21_43
              case yt21_43 => (intro w hSw; (try dsimp only at hSw); go_simp; try with_reducible rfl)
              try simp only [mz1, mz2, mz3, Act.put, mz4, mz5, mz6]
              refine wtkq 22 ?vt22_44 rfl (by kernel_rfl) (fun _ _ _ h => h) (by rfl) ?yt22_44 HD.out ?zt22_44
              case yt22_44 => (intro w hSw; (try dsimp only at hSw); go_simp; try with_reducible rfl)
              try simp only [mz1, mz2, mz3, Act.put, mz4, mz5, mz6]
              refine wpAnyH_ready (rs := [23]) (by kernel_rfl) (by simp) ?_
              refine AllReadyH.cons rfl (fun KK hKK => ?_) AllReadyH.nil
              go_simp
              refine hKK.out _ _ (HSW.out _ (jtwo hbd (jlow wr.drew (.cells #[.int .i64 (z : Int), .int .u8 (u : Int)] 64)))) (fun _ => ?_)
              clear hKK KK
              try simp only [mz1, mz2, mz3, Act.put, mz4, mz5, mz6]
              refine wpAnyH_ready (rs := [24]) (by kernel_rfl) (by simp) ?_
              refine AllReadyH.cons rfl (fun KK hKK => ?_) AllReadyH.nil
              refine qa4 rfl _ _ 60 rfl B5 64 t0 (.agg #[.int .i64 0, .int .u8 0]) 2 16 Try.underlying60 ht0 htz0 htz1 htz2 rfl (by decide) (.slice xs L.length ds) L.length _ rfl ((HTw.out.later (qac wr)).later (jlow wr.drew (.cells #[.int .i64 (z : Int), .int .u8 (u : Int)] 64))) ⟨wr.heap.size, 0, none⟩ 1 1 [.int .i64 (z : Int), .int .u8 (u : Int)] rfl rfl (two_new wr.drew _ _ _) (by intro u hu; simp at hu; rcases hu with rfl | rfl <;> rfl) hml2 (by omega) (by have := HB9.out.size; have := HBB.out; simp; omega) ?_
              intro v8 w8 hown8 hgrow8
              have HT8 : Hid (Tw w8 B5 v8 (L ++ [((z : Int), u)])) := Tw.push hown8
              have hb8 := ((jtwo hbd (jlow wr.drew (.cells #[.int .i64 (z : Int), .int .u8 (u : Int)] 64))).trans (jbelow hgrow8 (jtwo hbd (jlow wr.drew (.cells #[.int .i64 (z : Int), .int .u8 (u : Int)] 64))).size (fun g hg => by { have := (HTw.out.base hg).1; have := HBB.out; omega })))
              have HB8 := qa0 hb8
              clear hown8 hgrow8 hb8
              refine hKK.out _ _ (HSW.out _ HB8.out) (fun _ => ?_)
              clear hKK KK
              try simp only [mz1, mz2, mz3, Act.put, mz4, mz5, mz6]
              refine wtkq 25 ?vt25_45 rfl (by kernel_rfl) (fun _ _ _ h => h) (by rfl) ?yt25_45 (HSW.out _ HB8.out) ?zt25_45
              case yt25_45 => (intro w hSw; (try dsimp only at hSw); go_simp; try with_reducible rfl)
              try simp only [mz1, mz2, mz3, Act.put, mz4, mz5, mz6]
              refine wpAnyH_done (by kernel_rfl) ?_ _
              try simp only [mz1, mz2, mz3, Act.put, mz4, mz5, mz6]
              clear HTw HB9 HD hbd HSW
              go_wp2
              exact ⟨⟨l + 1, _, by omega, by go_num, HL2, HT8, HB8.out⟩, by simp [intOf]; omega⟩
             ·obtain rfl : l = tl := by omega
              obtain ⟨nl, HNL⟩ : ∃ nl, Hid ((nlm F m (v + i)).length = nl) := ⟨_, rfl⟩
              have hnl : nl ≤ 4160 + 4160 := by have := qb3 F m (v + i); have := HNL.out; omega
              have HI9 := qa0 hI9
              obtain ⟨vs, HVS⟩ : ∃ vs, Hid (wr.ownsRow (V + 1) 60 1 vn nl vs) := by
               obtain ⟨vs, k1, _⟩ := hI9.nodes
               rw [HNL.out] at k1
               exact ⟨vs, k1⟩
              have q3 := hI9.vt.cell 1 vn rfl
              have q4 := hI9.vt.free 1
              have hml3 : nl + 1 ≤ maxLen := by unfold maxLen; omega
              have hV9 := hI9.vt.lt
              have HTl := qa0 (HTw.out.mono (B' := V + 1) (by have := HI.out.vt.lt; have := HBB.out; omega))
              have r1 : ¬ (l : Int) < (l : Int) := by omega
              clear hI9 hb9 ht9 hLl
              go_wp2_with (at_builtin; refine wpList_append_own _ rfl _ _ 23 rfl (V + 1) 60 s0 (.slice none 0 0) 1 24 Try.underlying23 hs0 hy0 hy1 hy2 rfl (by decide) _ nl vs rfl (World.ownsRow.alloc HVS.out _) ⟨wr.heap.size, 0, none⟩ 1 1 [.slice xs L.length ds] rfl rfl (qaz _ _ _) (by intro x hx; rw [List.mem_singleton.1 hx]; rfl) hml3 (by omega) (by simp; omega) ?_; intro v10 w10 hown10 hgrow10 _; obtain ⟨q8, d8, rfl⟩ := qad hown10; have HO8 := qa0 hown10; have HG8 := qa0 hgrow10; have f10 := (HI9.out.later (jlow wr (.cells #[.slice xs L.length ds] 60))).vt.kept hgrow10 (qa8 HVS.out (by omega)); have u3 := f10.cell 1 vn rfl; have u4 := f10.free 1; clear f10 hown10 hgrow10)
              have HI10 := HI9.out.put_n (w8 := w10) (by have := HNi.out; omega) (by rw [HVv.out]; exact HMv.out) (jlow wr (.cells #[.slice xs L.length ds] 60)) (T := L) (by unfold rnt; rw [HVv.out, HTN.out, hvi, HL.out]) (HTl.out.later (jlow _ _)) (fun ws qq => by
               rw [HNL.out] at qq ⊢
               obtain rfl := qbb qq (World.ownsRow.alloc HVS.out _)
               exact ⟨HO8.out, HG8.out⟩)
              exact ⟨⟨i + 1, _, by omega, by go_num, HI10⟩, by simp [intOf]; omega⟩
          ·obtain rfl : i = nn := by omega
           have hj9 : v + i = j := by have := HNN.out; rw [HNi.out, HNn.out] at this; exact this
           rw [hj9] at HI hI
           have HEn := qa0 (show En (fun x => m x = true) F.ni k g by have := hI.en; rw [show min j F.ni = F.ni by have := HNN.out; omega] at this; exact this)
           have hk64 : k ≤ 64 := by have := HEn.out.le; rw [HNi.out] at this; omega
           have HO0 := qa0 hI.out
           obtain ⟨x, d1, rfl, -⟩ := hI.inp.form
           obtain ⟨y9, d2, rfl, -⟩ := hI.nodes.form
           obtain ⟨n, HNL⟩ : ∃ n, Hid ((nlm F m j).length = n) := ⟨_, rfl⟩
           rw [HNL.out] at HO0
           obtain ⟨B3, HBB⟩ : ∃ B3, Hid (wr.heap.size = B3) := ⟨_, rfl⟩
           rw [HBB.out] at HO0
           obtain ⟨no9, HN9⟩ : ∃ no9, no9 = o := ⟨_, rfl⟩
           subst HN9
           clear hI hb HI hj9
           go_wp2
           go_loopw [17] (fun vi9 w9 => ∃ (o : Nat) (vo : Value), o ≤ no9 ∧ vi9 = .int .i64 (o : Int) ∧ TrO w w9 V B3 g2 j F m a b c p q r (.slice x k d1) (.slice y9 n d2) vo k o g) (fun vi9 _ => no9 - (intOf vi9).toNat)
           case atStart => exact ⟨0, _, by omega, rfl, HO0.out⟩
           case round =>
            clear HO0 HBB x1 x2
            obtain ⟨o, vo, ho, rfl, hI⟩ := hrel
            have HI := qa0 hI
            have x2 := (HTO.out hI).cell 2 (.slice c no9 r) rfl
            by_cases hlt2 : o < no9
            ·obtain ⟨xc, oc, ec, hcc⟩ := HOL.out o hlt2
             have hoo := HOut.out o hlt2
             obtain ⟨y, hy⟩ := Int.eq_ofNat_of_zero_le hoo.1
             have HYo : Hid ((F.out o).toNat = y) := by show _ = _; rw [hy]; simp
             rw [hy] at hcc hoo
             have hy : y < j := by have := HNN.out; omega
             obtain ⟨z, HZ⟩ : ∃ z, Hid (ct m y = z) := ⟨_, rfl⟩
             subst ec
             have HCo : Hid (∀ W, Below w.heap.size w W → W.cell? ⟨xc, oc + o, none⟩ = some (.int .i64 (y : Int))) := fun W hW => keepc hW hcc
             have hcur := HCo.out wr hI.below
             have p0 : (0 : Int) ≤ (o : Int) := by omega
             have p1 : (o : Int) < (no9 : Int) := by omega
             have r0 : (0 : Int) ≤ (y : Int) := by omega
             have r1 : (y : Int) < (j : Int) := by omega
             have hml9 : o + 1 ≤ maxLen := by unfold maxLen; omega
             have HId := qa0 (hI.later (qac wr))
             clear hI hoo hcc
             go_wp2
             have HD : Hid ((fun w' => w'.cell? ⟨V, 2, none⟩ = some vo ∧ w'.frozen? ⟨V, 2, none⟩ = false ∧ w'.cell? ⟨g2, y, none⟩ = some (.int .i64 (z : Int)) ∧ w'.cell? ⟨w.heap.size, 2, none⟩ = some (.slice (some ⟨xc, oc, none⟩) no9 r) ∧ w'.cell? ⟨xc, oc + o, none⟩ = some (.int .i64 (y : Int))) wr.drew) := ⟨HId.out.vt.cell 2 vo rfl, HId.out.vt.free 2, by { have h9 := HId.out.nb.cell y hy; rw [HZ.out] at h9; exact h9 }, (HTO.out HId.out).cell 2 (.slice (some ⟨xc, oc, none⟩) no9 r) rfl, HCo.out _ HId.out.below⟩
             refine qa2 (k := 13) (n := 13) (fun w' => w'.cell? ⟨V, 2, none⟩ = some vo ∧ w'.frozen? ⟨V, 2, none⟩ = false ∧ w'.cell? ⟨g2, y, none⟩ = some (.int .i64 (z : Int)) ∧ w'.cell? ⟨w.heap.size, 2, none⟩ = some (.slice (some ⟨xc, oc, none⟩) no9 r) ∧ w'.cell? ⟨xc, oc + o, none⟩ = some (.int .i64 (y : Int))) (by kernel_rfl) (by kernel_rfl) (by decide) (by rfl) ?_
             refine wtkq 0 ?vt0_46 rfl (by kernel_rfl) (fun _ _ _ h => h) (by rfl) ?yt0_46 HD.out ?zt0_46
             case yt0_46 => (intro w hSw; (try dsimp only at hSw); go_simp; try with_reducible rfl)
             try simp only [mz1, mz3, Act.put, mz4, mz5, mz6]
             refine wtkq 1 ?vt1_47 rfl (by kernel_rfl) (fun _ _ _ h => h) (by rfl) ?yt1_47 HD.out ?zt1_47
             case yt1_47 => (intro w hSw; (try dsimp only at hSw); go_simp; try with_reducible rfl)
             try simp only [mz1, mz2, mz3, Act.put, mz4, mz5, mz6]
             refine wtkq 2 ?vt2_48 rfl (by kernel_rfl) (fun _ _ _ h => h) (by rfl) ?yt2_48 HD.out ?zt2_48
             case yt2_48 => (intro w hSw; (try dsimp only at hSw); go_simp; try with_reducible rfl)
             try simp only [mz1, mz2, mz3, Act.put, mz4, mz5, mz6]
             refine wtkq 3 ?vt3_49 rfl (by kernel_rfl) (fun _ _ _ h => h) (by rfl) ?yt3_49 HD.out ?zt3_49
             case yt3_49 => (intro w hSw; (try dsimp only at hSw); go_simp; try with_reducible rfl)
             try simp only [mz1, mz2, mz3, Act.put, mz4, mz5, mz6]
             refine wtkq 4 ?vt4_50 rfl (by kernel_rfl) (fun _ _ _ h => h) (by rfl) ?yt4_50 HD.out ?zt4_50
             case yt4_50 => (intro w hSw; (try dsimp only at hSw); go_simp; try with_reducible rfl)
             try simp only [mz1, mz2, mz3, Act.put, mz4, mz5, mz6]
             refine wtkq 5 ?vt5_51 rfl (by kernel_rfl) (fun _ _ _ h => h) (by rfl) ?yt5_51 HD.out ?zt5_51
             case yt5_51 => (intro w hSw; (try dsimp only at hSw); go_simp; try with_reducible rfl)
             try simp only [mz1, mz2, mz3, Act.put, mz4, mz5, mz6]
             refine wtkq 6 ?vt6_52 rfl (by kernel_rfl) (fun _ _ _ h => h) (by rfl) ?yt6_52 HD.out ?zt6_52
             case yt6_52 => (intro w hSw; (try dsimp only at hSw); go_simp; try with_reducible rfl)
             try simp only [mz1, mz2, mz3, Act.put, mz4, mz5, mz6]
             refine wtkq 7 ?vt7_53 rfl (by kernel_rfl) (fun _ _ _ h => h) (by rfl) ?yt7_53 HD.out ?zt7_53
             case yt7_53 => (intro w hSw; (try dsimp only at hSw); go_simp; try with_reducible rfl)
             try simp only [mz1, mz2, mz3, Act.put, mz4, mz5, mz6]
             refine wtkq 8 ?vt8_54 rfl (by kernel_rfl) (fun _ _ _ h => h) (by rfl) ?yt8_54 HD.out ?zt8_54
             case yt8_54 => (intro w hSw; (try dsimp only at hSw); go_simp; try with_reducible rfl)
             try simp only [mz1, mz2, mz3, Act.put, mz4, mz5, mz6]
             refine wtkq 9 ?vt9_55 rfl (by kernel_rfl) (fun _ _ _ h => h) (by rfl) ?yt9_55 HD.out ?zt9_55
             case yt9_55 => (intro w hSw; (try dsimp only at hSw); go_simp; try with_reducible rfl)
             try simp only [mz1, mz2, mz3, Act.put, mz4, mz5, mz6]
             refine wpAnyH_ready (rs := [10]) (by kernel_rfl) (by simp) ?_
             refine AllReadyH.cons rfl (fun KK hKK => ?_) AllReadyH.nil
             go_simp
             refine hKK.out _ _ ⟨(HId.out.later (jlow wr.drew (.cells #[.int .i64 (z : Int)] 3))).vt.cell 2 vo rfl, (HId.out.later (jlow wr.drew (.cells #[.int .i64 (z : Int)] 3))).vt.free 2, by { have h9 := (HId.out.later (jlow wr.drew (.cells #[.int .i64 (z : Int)] 3))).nb.cell y hy; rw [HZ.out] at h9; exact h9 }, (HTO.out (HId.out.later (jlow wr.drew (.cells #[.int .i64 (z : Int)] 3)))).cell 2 (.slice (some ⟨xc, oc, none⟩) no9 r) rfl, HCo.out _ (HId.out.later (jlow wr.drew (.cells #[.int .i64 (z : Int)] 3))).below⟩ (fun _ => ?_)
             clear hKK KK
             try simp only [mz1, mz2, mz3, Act.put, mz4, mz5, mz6]
             refine wpAnyH_ready (rs := [11]) (by kernel_rfl) (by simp) ?_
             refine AllReadyH.cons rfl (fun KK hKK => ?_) AllReadyH.nil
             refine qa4 rfl _ _ 22 rfl B3 3 i0 (.int .i64 0) 1 8 Try.underlying22 hi0 hz0 hz1 hz2 rfl (by decide) vo o _ rfl (HId.out.later (jlow wr.drew (.cells #[.int .i64 (z : Int)] 3))).outs ⟨wr.heap.size, 0, none⟩ 1 1 [.int .i64 (z : Int)] rfl rfl (qal _ wr.drew _ _) (qam _ _) hml9 (by omega) (HId.out.later (jlow wr.drew (.cells #[.int .i64 (z : Int)] 3))).hB2 ?_
             intro v8 w8 hown8 hgrow8
             obtain ⟨q8, d8, rfl⟩ := qad hown8
             have HO8 := qa0 hown8
             have HG8 := qa0 hgrow8
             have HVb : Hid (∀ b, b < B3 → vo.ownBlock ≠ some b) := fun b hb => qa8 HId.out.outs hb
             have HF8 := qa0 ((HId.out.later (jlow wr.drew (.cells #[.int .i64 (z : Int)] 3))).vt.kept hgrow8 (HVb.out V HId.out.hB))
             have HN8 := qa0 ((HId.out.later (jlow wr.drew (.cells #[.int .i64 (z : Int)] 3))).nb.kept hgrow8 (HVb.out g2 (by have := HId.out.h2; have := HId.out.hB; omega)))
             have HX8 := qa0 ((HTO.out (HId.out.later (jlow wr.drew (.cells #[.int .i64 (z : Int)] 3)))).kept hgrow8 (HVb.out _ (by have := HId.out.hV; have := HId.out.hB; omega)))
             have HB8 := qa0 ((HId.out.later (jlow wr.drew (.cells #[.int .i64 (z : Int)] 3))).below.grown hgrow8 (HId.out.later (jlow wr.drew (.cells #[.int .i64 (z : Int)] 3))).below.size (fun g e => by { have h8 := (HId.out.outs.base e).1; have := HId.out.hB; have := HId.out.hV; omega }))
             clear hown8 hgrow8
             refine hKK.out _ _ ⟨HF8.out.cell 2 vo rfl, HF8.out.free 2, by { have h9 := HN8.out.cell y hy; rw [HZ.out] at h9; exact h9 }, HX8.out.cell 2 (.slice (some ⟨xc, oc, none⟩) no9 r) rfl, HCo.out _ HB8.out⟩ (fun _ => ?_)
             clear hKK KK
             try simp only [mz1, mz2, mz3, Act.put, mz4, mz5, mz6]
             refine wtkq 12 ?vt12_56 rfl (by kernel_rfl) (fun _ _ _ h => h) (by rfl) ?yt12_56 ⟨HF8.out.cell 2 vo rfl, HF8.out.free 2, by { have h9 := HN8.out.cell y hy; rw [HZ.out] at h9; exact h9 }, HX8.out.cell 2 (.slice (some ⟨xc, oc, none⟩) no9 r) rfl, HCo.out _ HB8.out⟩ ?zt12_56
             case yt12_56 => (intro w hSw; (try dsimp only at hSw); go_simp; try with_reducible rfl)
             try simp only [mz1, mz2, mz3, Act.put, mz4, mz5, mz6]
             refine wpAnyH_done (by kernel_rfl) ?_ _
             have q1 := HF8.out.cell 2 vo rfl
             have q2 := HF8.out.free 2
             refine qab rfl (fun KK hKK => ?_)
             go_simp
             refine hKK.out _ _ ?_
             clear hKK KK
             try simp only [mz1, mz2, mz3, Act.put, mz4, mz5, mz6]
             have HI9 := qa0 (HId.out.put (by rw [HYo.out]; exact HZ.out) HO8.out HG8.out)
             clear HO8 HG8 HVb HF8 HN8 HX8 HB8 q1 q2 HD HI HId
             go_wp2
             exact ⟨⟨o + 1, _, by omega, by go_num, HI9.out⟩, by simp [intOf]; omega⟩
            ·obtain rfl : o = no9 := by omega
             obtain ⟨z, d3, rfl, -⟩ := hI.outs.form
             have y0 := hI.vt.cell 0 (.slice x k d1) rfl
             have y1 := hI.vt.cell 1 (.slice y9 n d2) rfl
             have y2 := hI.vt.cell 2 (.slice z o d3) rfl
             clear hI
             go_wp2_with (refine qa5 rfl 25 _ _ rfl (w.heap.size + 1) _ #[.slice x k d1, .slice y9 n d2, .slice z o d3] rfl rfl HI.out.vr sizeFl rfl (all3s _ _ _ _ _ _ _ _ _) ?_; intro w9 HV9 HG9)
             have d0 := HV9.out.cell 0 (.slice x k d1) rfl
             have e1 := HV9.out.cell 1 (.slice y9 n d2) rfl
             have e2 := HV9.out.cell 2 (.slice z o d3) rfl
             refine bodyPost_ret (v := .tuple #[flv x k d1 y9 n d2 z o d3, .int .i64 0]) (by simp [results, Try.results25, go_sem, d0, e1, e2]) rfl ?_
             have hfin := HQ2.out wr w9 V B3 g2 m x y9 z d1 d2 d3 n k g (by rw [HNo.out]; exact HI.out) hk64 HG9.out HEn.out HMn.out
             rw [HNo.out] at hfin
             exact ⟨hfin, qai HI.out.below HG9.out (by omega)⟩
    ·obtain ⟨i1, HI1⟩ : ∃ i1, Hid (i - 1 = i1) := ⟨_, rfl⟩
     have hi1 : i1 + 1 = i := by have := HI1.out; omega
     obtain rfl : z = (i1 : Int) := by omega
     subst hi1
     obtain ⟨v, HVv⟩ : ∃ v, Hid (F.ni + i1 = v) := ⟨_, rfl⟩
     have hvN : v < N := by have := HVv.out; have := HNN.out; rw [HNi.out] at *; omega
     obtain ⟨hnt, xb, ob, t, d, eb, hc, htm⟩ := HND.out i1 (by omega)
     subst eb
     have htn : tn F v = F.nt i1 := by
      have h1 := HVv.out
      have h2 : ¬ v < F.ni := by omega
      show (if v < F.ni then 0 else F.nt (v - F.ni)) = _
      rw [if_neg h2, show v - F.ni = i1 by omega]
     have hvi : v - F.ni = i1 := by have h1 := HVv.out; omega
     obtain ⟨tl, HTL⟩ : ∃ tl, Hid (F.nt i1 = tl) := ⟨_, rfl⟩
     rw [HTL.out] at hc htm htn hnt
     have HTN := qa0 htn
     have HT := qa0 htm
     have HCl := qa0 hc
     have p0 : (0 : Int) ≤ (i1 : Int) := by omega
     have p1 : (i1 : Int) < (nn : Int) := by omega
     have v0 : (0 : Int) ≤ (v : Int) := by omega
     have v1 : (v : Int) < (N : Int) := by omega
     have w3' : IntKind.i64.wrap ((ni : Int) + (i1 : Int)) = (v : Int) := by have := HVv.out; rw [HNi.out] at this; rw [IntKind.wrap_i64]; omega
     have w4' : IntKind.i64.wrap ((i1 : Int) - 1) = (i1 : Int) - 1 := by rw [IntKind.wrap_i64]; omega
     have HJ0 : Hid (WJ F v m 0 m) := ⟨fun _ h => h, fun _ _ => rfl, HWi.out.from', fun l hl => by omega⟩
     clear hS hc htm hz htn
     go_wp2
     go_loopw [8] (fun vj wr => ∃ (l : Nat) (mj : Nat → Bool), l ≤ tl ∧ vj = .int .i64 (l : Int) ∧ WS w wr g1 N F a (some ⟨xb, ob, none⟩) c p q r mj ∧ WJ F v m l mj) (fun vj _ => tl - (intOf vj).toNat)
     case atStart => exact ⟨0, m, by omega, rfl, HS.out, HJ0.out⟩
     case round =>
      clear HS HJ0 x0 x1 x2
      obtain ⟨l, mj, hl, rfl, hS, hJ⟩ := hrel
      have HS := qa0 hS
      have HJ := qa0 hJ
      have x1 := (HWS.out hS).cell 1 (.slice (some ⟨xb, ob, none⟩) nn q) rfl
      have y1 : wr.cell? ⟨xb, ob + i1, none⟩ = some (.slice t tl d) := by rw [hS.below.cell (p := ⟨xb, _, none⟩) (qa3 HCl.out)]; exact HCl.out
      have c0 := hS.mks.cell v hvN
      rw [hJ.same v (Nat.le_refl _)] at c0
      clear hJ
      cases hmv : m v with
      | false =>
       rw [hmv] at c0
       have HNx := qa0 (HWi.out.skip2 (by rw [HVv.out]; exact HJ.out) (by rw [HVv.out]; exact hmv))
       clear hS hmv
       by_cases hlt2 : l < tl
       ·have r1 : (l : Int) < (tl : Int) := by omega
        go_wp2
        exact ⟨⟨i1, _, mj, by omega, rfl, rfl, HS.out, HNx.out⟩, by simp [intOf]⟩
       ·have r1 : ¬ (l : Int) < (tl : Int) := by omega
        go_wp2
        exact ⟨⟨i1, _, mj, by omega, rfl, rfl, HS.out, HNx.out⟩, by simp [intOf]⟩
      | true =>
       rw [hmv] at c0
       by_cases hlt2 : l < tl
       ·obtain ⟨_, xx, oo, es, t0, t1⟩ := (HT.out.later hS.below) l hlt2
        have ht := HM.out.term (v := v) (j := l) (by have := HNN.out; omega) (by rw [HTN.out]; exact hlt2)
        rw [hvi] at ht
        obtain ⟨y, HY⟩ : ∃ y, Hid (tv F v l = y) := ⟨_, rfl⟩
        rw [HY.out] at ht
        rw [ht.1] at t0
        have hyv := ht.2.1
        subst es
        have f1 := hS.mks.cell y (by omega)
        have f0 := hS.mks.free y
        have HS2 := qa0 (hS.put y)
        have HJ2 := qa0 (HJ.out.step hmv (by rw [HTN.out]; exact hlt2) (by rw [HY.out]; exact hyv))
        rw [HY.out] at HJ2
        have r0 : (0 : Int) ≤ (l : Int) := by omega
        have r1 : (l : Int) < (tl : Int) := by omega
        have r2 : (0 : Int) ≤ (y : Int) := by omega
        have r3 : (y : Int) < (N : Int) := by omega
        clear hS hmv ht
        go_wp2
        exact ⟨⟨l + 1, _, by omega, by go_num, HS2.out, HJ2.out⟩, by simp [intOf]; omega⟩
       ·obtain rfl : l = tl := by omega
        have HNx := qa0 (HWi.out.next (mj := mj) (by rw [HVv.out, HTN.out]; exact HJ.out))
        have r1 : ¬ (l : Int) < (l : Int) := by omega
        clear hS hmv
        go_wp2
        exact ⟨⟨i1, _, mj, by omega, rfl, rfl, HS.out, HNx.out⟩, by simp [intOf]⟩
end Go.Proofs.Ytkffkhlaljeimaa
