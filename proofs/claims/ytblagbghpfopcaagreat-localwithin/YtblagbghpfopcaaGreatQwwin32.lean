/-
  Rows swept upwards; rows swept downwards.
-/
import Derived.Test.YtblagbghpfopcaaGreatQwwin00
import Derived.Test.YtblagbghpfopcaaGreatQwwin31
import Derived.Test.YtblagbghpfopcaaGreatQwwin15
import Derived.Deep.Cut
set_option maxRecDepth 100000
set_option maxHeartbeats 16000000
namespace Go.Proofs.YtblagbghpfopcaaGreat
open Go.RowKit
/-- The reduction's state: the whole is J. -/
structure Rst (w : World) (C : Cfg) (ps : Option Addr) (pd top : Nat) (p : Nat → Nat) (J : Nat → Nat → Nat) : Prop where
 fix : Fix w C (.slice ps top pd) top p
 gs : Gs w C (C.H J)
 el : El2 J
theorem Rst.later {w w' : World} {C : Cfg} {ps : Option Addr} {pd top : Nat} {p : Nat → Nat} {J : Nat → Nat → Nat} (h : Rst w C ps pd top p J) (hb : Below w.heap.size w w') : Rst w' C ps pd top p J := ⟨h.fix.later hb, h.gs.later hb, h.el⟩
theorem Cfg.low {C : Cfg} {w : World} {H : Nat → Nat → Nat → Nat} (G : Gs w C H) (hp : ∀ t, t ≤ C.m → 0 < C.kk t) (hn : 0 < C.n) : ∀ k, C.S k → C.B ≤ k := by
 rintro k ⟨t, ht, e⟩
 rcases e with e | e
 ·rw [e]; exact (G t ht).base
 ·rw [e]; exact ((G t ht).dat (hp t ht) hn).1
theorem Gs.bsz {w : World} {C : Cfg} {H : Nat → Nat → Nat → Nat} (G : Gs w C H) : C.B ≤ w.heap.size := by
 have h1 := (G 0 (by omega)).base
 have h2 := (G 0 (by omega)).lt
 omega
theorem qch {w w' : World} {C : Cfg} {H : Nat → Nat → Nat → Nat} (hc : Chg w w' C.S) (G : Gs w C H) (hp : ∀ t, t ≤ C.m → 0 < C.kk t) (hn : 0 < C.n) : Below C.B w w' := hc.low G.bsz (Cfg.low G hp hn)
theorem qdk (w : World) (C : Cfg) (ps : Option Addr) (pd top : Nat) (p : Nat → Nat) (J : Nat → Nat → Nat) (K : C.Ok) (X : Rst w C ps pd top p J) (E : Ech J C.n top C.c p) :
  Calls Tryz.prog 87 #[.pointer (some ⟨C.g, 0, none⟩)] w fun e w' => e = .returned (.tuple #[]) ∧ ∃ J', Rst w' C ps pd top p J' ∧ Asc J' C.n top C.c p 0 ∧ SpEq J' C.n J C.n ∧ Below C.B w w' ∧ ∀ i l, top ≤ i → J' i l = J i l := by
 have HK : Hid C.Ok := K
 have HX : Hid (Rst w C ps pd top p J) := X
 have HE : Hid (Ech J C.n top C.c p) := E
 have hn64 := K.n64
 have htn := E.tr
 have c2 := X.fix.c2
 clear K X E
 go_enter Tryz.func87, Tryz.ntmps87
 go_wp2
 go_loopw [2] (fun si wr => ∃ (q : Nat) (z : Int), si = .int .i64 z ∧ z = (q : Int) - 1 ∧ q ≤ top ∧ ∃ J', Hid (Rst wr C ps pd top p J') ∧ Hid (Asc J' C.n top C.c p q) ∧ Hid (SpEq J' C.n J C.n) ∧ Hid (Below C.B w wr) ∧ Hid (∀ i l, top ≤ i → J' i l = J i l)) (fun si _ => (intOf si).toNat)
 case atStart => exact ⟨top, _, rfl, by go_num, Nat.le_refl _, J, HX.out, HE.out.asc (Nat.le_refl _), SpEq.refl HX.out.el _, Below.refl _ _, fun _ _ _ => rfl⟩
 case round =>
  clear HX c2
  obtain ⟨q, z, rfl, hz, hqt, J', HX, HA, HS, HB, HT⟩ := hrel
  by_cases hq : 1 < q
  ·obtain ⟨u, rfl⟩ : ∃ u, q = u + 2 := ⟨q - 2, by omega⟩
   obtain rfl : z = ((u + 1 : Nat) : Int) := by omega
   clear hz
   have hpc := HA.out.ech.lt (u + 1) (by omega)
   have hn : 0 < C.n := by omega
   have HP : Hid (∀ t, t ≤ C.m → 0 < C.kk t) := HK.out.pos (by omega) hn
   have hg0 : decide ((0 : Int) < ((u + 1 : Nat) : Int)) = true := by simp
   go_wp2_with (go_at_call 111; refine (qcg _ C ps pd top (u + 1) 0 (u + 1) p J' HK.out HP.out hn HX.out.fix HX.out.gs (by omega) htn (by omega) (by omega) (by omega) hpc).mono ?_; rintro e w2 ⟨rfl, hx2, hg2, hc2⟩; have HX2 : Hid (Rst w2 C ps pd top p (clu J' (u + 1) (p (u + 1)) 0 (u + 1))) := ⟨hx2, hg2, qep HX.out.el _ _ _ _⟩; have HB2 : Hid (Below C.B w w2) := HB.out.trans (qch hc2 HX.out.gs HP.out hn); clear hx2 hg2 hc2)
   exact ⟨⟨u + 1, _, rfl, by go_num, by omega, _, HX2.out, HA.out.step HX.out.el (by omega), (qg7 HX.out.el (by omega) (by omega) _).trans HS.out, HB2.out, fun i l hi => by rw [qb5 J' l (by omega)]; exact HT.out i l hi⟩, by simp [intOf]⟩
  ·have hg0 : decide ((0 : Int) < z) = false := by simp; omega
   have HQ : Hid (q ≤ 1) := by show q ≤ 1; omega
   clear hz hq
   go_wp2
   go_end0
   refine ⟨rfl, J', HX.out, ⟨HA.out.ech, fun s t h1 h2 h3 => HA.out.off s t ?_ h2 h3⟩, HS.out, HB.out, HT.out⟩
   have := HQ.out
   omega
/-- A pivot more is noted. -/
theorem fix_app {w w3 : World} {C : Cfg} {ps pt : Option Addr} {pd pe top j : Nat} {p p1 : Nat → Nat} {H : Nat → Nat → Nat → Nat} (o : Obj) (X : Fix w C (.slice ps top pd) top p) (G : Gs w C H) (e1 : (fun t => if t = top then j else p t) = p1) (hown : w3.ownsRow C.B 3 1 (.slice pt (top + 1) pe) (top + 1) ((irow top p).toList ++ [.int .i64 (j : Int)])) (hg : (w.alloc o).grownBy w3 (Value.slice ps top pd).ownBlock) :
  w3.cell? ⟨C.g, 2, none⟩ = some (.slice ps top pd) ∧ w3.frozen? ⟨C.g, 2, none⟩ = false ∧ Fix (w3.setCell ⟨C.g, 2, none⟩ (.slice pt (top + 1) pe)) C (.slice pt (top + 1) pe) (top + 1) p1 ∧ Gs (w3.setCell ⟨C.g, 2, none⟩ (.slice pt (top + 1) pe)) C H ∧ Below C.B w (w3.setCell ⟨C.g, 2, none⟩ (.slice pt (top + 1) pe)) := by
 have X1 := X.later (qa1 w o)
 have G1 := G.later (qa1 w o)
 have hc : Chg (w.alloc o) w3 (fun b => (Value.slice ps top pd).ownBlock = some b) := ⟨hg.os, hg.tape, hg.output, hg.size, fun k hk hne => hg.block k hk (fun e => hne e.symm)⟩
 have off : ∀ {b : Nat} {cs : Array Value} {t : TypeId}, (w.alloc o).heap[b]? = some (.cells cs t (0, 0)) → t ≠ 3 → ¬ ((Value.slice ps top pd).ownBlock = some b) := fun h ht e => by
  obtain ⟨cs, hcs⟩ := ownb X1.piv e
  exact qdj h hcs ht rfl
 have r3 := hc.at X1.red (off X1.red (by decide))
 obtain ⟨cs, l1, l2⟩ := X1.ls
 have lv3 : V1 w3 C.gv _ _ := hc.at X1.lv (off X1.lv (by decide))
 have l3 := hc.at l1 (off l1 (by decide))
 have G3 : Gs w3 C H := fun t ht => by
  obtain ⟨c1, b1⟩ := (G1 t ht).blk
  refine (G1 t ht).chg hc (off b1 (by decide)) (fun h1 h2 => ?_)
  obtain ⟨_, _, c2, b2⟩ := (G1 t ht).dat h1 h2
  exact off b2 (by decide)
 have hs := qa3 w3 C.g 2 (.slice pt (top + 1) pe)
 have hcs : Chg w3 (w3.setCell ⟨C.g, 2, none⟩ (.slice pt (top + 1) pe)) (fun b => b = C.g) := Chg.of_grown hs rfl
 have offg : ∀ {b : Nat} {cs : Array Value} {t : TypeId}, w3.heap[b]? = some (.cells cs t (0, 0)) → t ≠ 123 → b ≠ C.g := fun h ht => qdj h r3 ht
 refine ⟨by rw [cell_of_row w3 C.g 2 _ _ _ r3]; rfl, by simp [World.frozen?, r3], ⟨?_, ?_, ⟨cs, hcs.at l3 (offg l3 (by decide)), l2⟩, ?_, X.base⟩, fun t ht => ?_, ?_⟩
 ·rw [setCell_eq_setRow w3 C.g 2 _ _ (0, 0) _ r3, setRow_heap w3 C.g _ _ _ (0, 0) r3]; rfl
 ·exact hcs.at lv3 (offg lv3 (by decide))
 ·rw [qd6, e1] at hown
  exact qhf (w' := w3.setCell ⟨C.g, 2, none⟩ (.slice pt (top + 1) pe)) hown hcs (fun b hb => by
   obtain ⟨cs, h3⟩ := ownb hown hb
   exact offg h3 (by decide))
 ·obtain ⟨c1, b1⟩ := (G3 t ht).blk
  refine (G3 t ht).chg hcs (offg b1 (by decide)) (fun h1 h2 => ?_)
  obtain ⟨_, _, c2, b2⟩ := (G3 t ht).dat h1 h2
  exact offg b2 (by decide)
 ·have hB := G.bsz
  refine ⟨hg.os, hg.tape, hg.output, ?_, fun k hk => ?_⟩
  ·have h1 := hg.size
   have h2 := hs.size
   have h3 := (qa1 w o).size
   omega
  ·have hk1 : k < w.heap.size := by omega
   rw [hs.block k (by have h1 := hg.size; have h3 := (qa1 w o).size; omega) (fun e => by cases e; have := X.base; omega)]
   rw [hg.block k (by have h3 := (qa1 w o).size; omega) (fun e => by have := qag X.piv k e.symm; omega)]
   exact (qa1 w o).block k hk1
theorem nxt_J {C : Cfg} {J : Nat → Nat → Nat} {top j0 i j : Nat} (K : C.Ok) (h : Nxt (C.H J C.m) C.n C.c top j0 i j) : Nxt J C.n C.c top j0 i j := by
 have e : C.H J C.m = J := by
  funext i l
  show J i (C.o C.m + l) = _
  rw [K.lo, Nat.zero_add]
 rwa [e] at h
/-- What descend's loop keeps. -/
structure DsI (w wr : World) (C : Cfg) (ps : Option Addr) (pd top i j : Nat) (p : Nat → Nat) (J0 J : Nat → Nat → Nat) : Prop where
 rs : Rst wr C ps pd top p J
 ech : Ech J C.n top j p
 jc : j ≤ C.c
 piv : j < C.c → top ≤ i ∧ i < C.n ∧ J i j ≠ 0
 sp : SpEq J C.n J0 C.n
 low : Below C.B w wr
theorem DsI.next {w wr : World} {C : Cfg} {ps : Option Addr} {pd top j i2 j2 : Nat} {p p1 : Nat → Nat} {J0 J3 : Nat → Nat → Nat} (K : C.Ok) (e1 : (fun t => if t = top then j else p t) = p1) (X : Rst wr C ps pd (top + 1) p1 (clu J3 top j (top + 1) C.n)) (hJ : El2 J3) (E : Ech J3 C.n top j p) (h1 : J3 top j = 1) (ht : top < C.n) (hS : SpEq J3 C.n J0 C.n) (hN : Nxt (C.H (clu J3 top j (top + 1) C.n) C.m) C.n C.c (top + 1) (j + 1) i2 j2) (hb : Below C.B w wr) : DsI w wr C ps pd (top + 1) i2 j2 p1 J0 (clu J3 top j (top + 1) C.n) := by
 have hN := nxt_J K hN
 have E2 := E.step hJ ht h1
 rw [e1] at E2
 exact ⟨X, E2.skips hN.jl (fun t l h1 h2 h3 h4 => hN.zero t l h1 h2 h3 h4), hN.jc, hN.piv, (qg7 hJ ht (by omega) _).trans hS, hb⟩
theorem qcu (w : World) (C : Cfg) (J0 : Nat → Nat → Nat) (K : C.Ok) (X : Rst w C none 0 0 (fun _ => 0) J0) :
  Calls Tryz.prog 86 #[.pointer (some ⟨C.g, 0, none⟩)] w fun e w' => e = .returned (.tuple #[]) ∧ ∃ ps pd top p J', Rst w' C ps pd top p J' ∧ Ech J' C.n top C.c p ∧ SpEq J' C.n J0 C.n ∧ Below C.B w w' := by
 have HK : Hid C.Ok := K
 have HX : Hid (Rst w C none 0 0 (fun _ => 0) J0) := X
 have hn64 := K.n64
 have hc64 := K.c64
 have hB := X.gs.bsz
 clear K X
 go_enter Tryz.func86, Tryz.ntmps86
 go_wp2_with (go_at_call 107; refine (qda _ C none 0 0 0 _ _ HK.out HX.out.fix HX.out.gs (by omega) (by omega)).mono ?_; rintro e w1 ⟨i1, j1, rfl, hx1, hb1⟩; have HN1 : Hid (Nxt (C.H J0 C.m) C.n C.c 0 0 i1 j1) := hx1; have HB1 : Hid (Below w.heap.size w w1) := hb1; clear hx1 hb1)
 go_loopw [2, 3] (fun si sj wr => ∃ (i j top pd : Nat) (ps : Option Addr) (p : Nat → Nat) (J : Nat → Nat → Nat), si = .int .i64 (i : Int) ∧ sj = .int .i64 (j : Int) ∧ Hid (DsI w wr C ps pd top i j p J0 J)) (fun _ sj _ => C.c - (intOf sj).toNat)
 case atStart =>
  have hN := nxt_J HK.out HN1.out
  exact ⟨i1, j1, 0, 0, none, fun _ => 0, J0, rfl, rfl, HX.out.later HB1.out, (ech_zero J0 C.n _).skips (by omega) (fun t l h1 h2 h3 h4 => hN.zero t l h1 h2 h3 h4), hN.jc, hN.piv, SpEq.refl HX.out.el _, HB1.out.mono hB⟩
 case round =>
  clear HX HN1 HB1
  obtain ⟨i, j, top, pd, ps, p, J, rfl, rfl, HI⟩ := hrel
  have c1 := HI.out.rs.fix.c1
  by_cases hjc : j < C.c
  ·obtain ⟨hti, hin, hne⟩ := HI.out.piv hjc
   have hjd : decide (j < C.c) = true := by simpa using hjc
   have htn : top < C.n := by omega
   have hn : 0 < C.n := by omega
   have HP : Hid (∀ t, t ≤ C.m → 0 < C.kk t) := HK.out.pos (by omega) hn
   have c2 := HI.out.rs.fix.c2
   have HNE : Hid (J i j ≠ 0) := hne
   obtain ⟨p1, HP1⟩ : ∃ p1, Hid ((fun t => if t = top then j else p t) = p1) := ⟨_, rfl⟩
   have HPT : Hid (p1 top = j) := by rw [← HP1.out]; exact if_pos rfl
   obtain ⟨i0, hi0, hz0, hz1, hz2⟩ := info_parts infoI
   have hml2 : top + 1 ≤ maxLen := by unfold maxLen; omega
   have hsz : C.B ≤ wr.heap.size := HI.out.rs.gs.bsz
   clear hne
   go_upto_region 4 with (at_builtin; refine wpList_append_own _ rfl _ _ 34 rfl C.B 3 i0 (.int .i64 0) 1 8 Tryz.underlying34 hi0 hz0 hz1 hz2 rfl (by decide) _ top _ rfl (World.ownsRow.alloc HI.out.rs.fix.piv _) ⟨wr.heap.size, 0, none⟩ 1 1 [.int .i64 (j : Int)] rfl rfl (qfy _ _ _) (qfz _) hml2 (by omega) (by simp; omega) ?_; intro v3 w3 hown3 hgrow3 _; obtain ⟨pt, pe, e3, _⟩ := Oi.form (f := p1) (by rw [qd6, HP1.out] at hown3; exact hown3); subst e3; obtain ⟨g2, f2, hxa, hga, hba⟩ := fix_app _ HI.out.rs.fix HI.out.rs.gs HP1.out hown3 hgrow3; have HF : Hid (Fix (w3.setCell ⟨C.g, 2, none⟩ (.slice pt (top + 1) pe)) C (.slice pt (top + 1) pe) (top + 1) p1 ∧ Gs (w3.setCell ⟨C.g, 2, none⟩ (.slice pt (top + 1) pe)) C (C.H J) ∧ Below C.B wr (w3.setCell ⟨C.g, 2, none⟩ (.slice pt (top + 1) pe))) := ⟨hxa, hga, hba⟩; clear hown3 hgrow3 hxa hga hba)
   obtain ⟨wa, HWA⟩ : ∃ wa, Hid (wa = w3.setCell ⟨C.g, 2, none⟩ (.slice pt (top + 1) pe)) := ⟨_, rfl⟩
   have HXa : Hid (Fix wa C (.slice pt (top + 1) pe) (top + 1) p1) := by rw [HWA.out]; exact HF.out.1
   have HGa : Hid (Gs wa C (C.H J)) := by rw [HWA.out]; exact HF.out.2.1
   have HLa : Hid (Below C.B w wa) := by rw [HWA.out]; exact HI.out.low.trans HF.out.2.2
   rw [← HWA.out]
   clear HF HWA g2 f2 c1 c2
   by_cases hit : i = top
   ·have hib : ((i : Int) != (top : Int)) = false := by simp; omega
    have HIT : Hid (i = top) := hit
    clear hit
    go_upto_region 6 with fail
    have HE2 : Hid (El2 J) := HI.out.rs.el
    have HC2 : Hid (Ech J C.n top j p) := HI.out.ech
    have HS2 : Hid (SpEq J C.n J0 C.n) := HI.out.sp
    have HN2 : Hid (J top j ≠ 0) := by rw [← HIT.out]; exact HNE.out
    have d0 := HXa.out.c0
    obtain ⟨x8, ca, hs, _⟩ := (HGa.out C.m (Nat.le_refl _)).row htn
    rw [HK.out.lk] at hs ca
    obtain ⟨b8, o8, rfl, cb⟩ := hs.2 j hjc
    obtain ⟨y, HY⟩ : ∃ y, Hid (J top j = y) := ⟨_, rfl⟩
    have ey : C.H (J) C.m top j = y := by
     show (J) top (C.o C.m + j) = y
     rw [HK.out.lo, Nat.zero_add]; exact HY.out
    have hy := hs.1 j hjc
    rw [ey] at cb hy
    have hy0 : Hid (y ≠ 0) := by rw [← HY.out]; exact HN2.out
    have hjs : (j : Int) < (C.c : Int) := by omega
    clear hs ey
    by_cases hy1 : y = 1
    ·subst hy1
     have HEL : Hid (El2 (J)) := HE2.out
     have HEC : Hid (Ech (J) C.n top j p) := HC2.out
     have HSP : Hid (SpEq (J) C.n J0 C.n) := HS2.out
     clear d0
     have d0 := HXa.out.c0
     skip
     go_wp2_with (first | (go_at_call 111; refine (qcg _ C pt pe (top + 1) top (top + 1) C.n p1 J HK.out HP.out hn HXa.out HGa.out (by omega) (by omega) (by omega) (Nat.le_refl _) (by omega) (by rw [HPT.out]; exact hjc)).mono ?_; rintro e w5 ⟨rfl, hx5, hg5, hc5⟩; rw [HPT.out] at hg5; have HX5 : Hid (Rst w5 C pt pe (top + 1) p1 (clu J top j (top + 1) C.n)) := ⟨hx5, hg5, qep HEL.out _ _ _ _⟩; have HL5 : Hid (Below C.B w w5) := HLa.out.trans (qch hc5 HGa.out HP.out hn); clear hx5 hg5 hc5) | (go_at_call 107; refine (qda _ C pt pe (top + 1) (j + 1) p1 _ HK.out HX5.out.fix HX5.out.gs (by omega) (by omega)).mono ?_; rintro e w6 ⟨i6, j6, rfl, hx6, hb6⟩; have HN6 : Hid (Nxt (C.H (clu J top j (top + 1) C.n) C.m) C.n C.c (top + 1) (j + 1) i6 j6) := hx6; have HB6 : Hid (Below w5.heap.size w5 w6) := hb6; clear hx6 hb6))
     have hj6 := HN6.out.jl
     exact ⟨⟨i6, j6, top + 1, pe, pt, p1, _, rfl, rfl, DsI.next HK.out HP1.out (HX5.out.later HB6.out) HEL.out HEC.out HY.out htn HSP.out HN6.out (HL5.out.trans (HB6.out.mono HX5.out.gs.bsz))⟩, by simp [intOf]; omega⟩
    ·have hyb : ((y : Int) == 1) = false := by simp; omega
     obtain ⟨v, HV8⟩ : ∃ v, Hid (finv y = v) := ⟨_, rfl⟩
     have hv : v < 256 := by rw [← HV8.out]; exact qae _
     have HInv : Hid (∀ w, Calls Tryz.prog 109 #[.int .u8 (y : Int)] w fun e w' => e = .returned (.tuple #[.int .u8 (v : Int), .int .i64 0]) ∧ Below w.heap.size w w') := by
      intro w
      have := qku y w hy
      rw [HV8.out, show ive y = 0 from if_neg hy0.out] at this
      exact this
     go_wp2_with (go_at_call 109; refine (HInv.out _).mono ?_; rintro e wm ⟨rfl, hbm⟩; have HBM : Hid (Below wa.heap.size wa wm) := hbm; clear hbm)
     have HXm : Hid (Fix wm C (.slice pt (top + 1) pe) (top + 1) p1) := HXa.out.later HBM.out
     obtain ⟨J2, HJ2⟩ : ∃ J2, Hid ((J) = J2) := ⟨_, rfl⟩
     have HGm : Hid (Gs wm C (C.H J2)) := by rw [← HJ2.out]; exact HGa.out.later HBM.out
     have HLm : Hid (Below C.B w wm) := HLa.out.trans (HBM.out.mono HGa.out.bsz)
     have c3 := HXm.out.c3
     refine wp_region_held (S := fun w' => w'.cell? ⟨C.g, 3, none⟩ = some (.func (.func 124) #[] #[.pointer (some ⟨C.gv, 0, none⟩)])) (by kernel_rfl) ?_
     refine wtkq 0 ?vyc0 rfl (by kernel_rfl) (fun _ _ _ h => h) (by rfl) ?yyc0 c3 ?zyc0
     case yyc0 => (intro w hSw; (try dsimp only at hSw); go_simp; try with_reducible rfl)
     try simp only [mz1, mz3, Act.put, mz4, mz5, mz6]
     refine wtkq 1 ?vyc1 rfl (by kernel_rfl) (fun _ _ _ h => h) (by rfl) ?yyc1 c3 ?zyc1
     case yyc1 => (intro w hSw; (try dsimp only at hSw); go_simp; try with_reducible rfl)
     try simp only [mz1, mz2, mz3, Act.put, mz4, mz5, mz6]
     refine wtkq 2 ?vyc2 rfl (by kernel_rfl) (fun _ _ _ h => h) (by rfl) ?yyc2 c3 ?zyc2
     case yyc2 => (intro w hSw; (try dsimp only at hSw); go_simp; try with_reducible rfl)
     try simp only [mz1, mz2, mz3, Act.put, mz4, mz5, mz6]
     refine wtkq 3 ?vyc3 rfl (by kernel_rfl) (fun _ _ _ h => h) (by rfl) ?yyc3 c3 ?zyc3
     case yyc3 => (intro w hSw; (try dsimp only at hSw); go_simp; try with_reducible rfl)
     try simp only [mz1, mz2, mz3, Act.put, mz4, mz5, mz6]
     refine wtkq 4 ?vyc4 rfl (by kernel_rfl) (fun _ _ _ h => h) (by rfl) ?yyc4 c3 ?zyc4
     case yyc4 => (intro w hSw; (try dsimp only at hSw); go_simp; try with_reducible rfl)
     try simp only [mz1, mz2, mz3, Act.put, mz4, mz5, mz6]
     refine wtkq 5 ?vyc5 rfl (by kernel_rfl) (fun _ _ _ h => h) (by rfl) ?yyc5 c3 ?zyc5
     case yyc5 => (intro w hSw; (try dsimp only at hSw); go_simp; try with_reducible rfl)
     try simp only [mz1, mz2, mz3, Act.put, mz4, mz5, mz6]
     refine wpAnyH_ready (rs := [6]) (by kernel_rfl) (by simp) ?_
     refine AllReadyH.cons rfl (fun K hK => ?_) AllReadyH.nil
     go_simp
     refine (qlx _ top v).mono ?_
     rintro e w1 ⟨gi, gc, rfl, v1, v2, l1, l2, hb0⟩
     have hb1 := undrew hb0
     have HB1 : Hid (Below wm.heap.size wm w1) := hb1
     have HXb : Hid (Fix w1 C (.slice pt (top + 1) pe) (top + 1) p1) := HXm.out.later hb1
     have HV : Hid (V1 w1 gi (.int .i64 (top : Int)) 3 ∧ V1 w1 gc (.int .u8 (v : Int)) 5) := ⟨v1, v2⟩
     clear v1 v2 hb0 hb1
     have HD1 : Hid (w1.cell? ⟨C.g, 3, none⟩ = some (.func (.func 124) #[] #[.pointer (some ⟨C.gv, 0, none⟩)])) := (HXb.out).c3
     refine hK.out _ _ HD1.out (fun _ => ?_)
     clear hK K
     try simp only [mz1, mz2, mz3, Act.put, mz4, mz5, mz6]
     refine wpAnyH_ready (rs := [7]) (by kernel_rfl) (by simp) ?_
     refine AllReadyH.cons rfl (fun K hK => ?_) AllReadyH.nil
     go_simp
     refine (qik _ C _ (top + 1) p1 _ HK.out HP.out hn HXb.out (HGm.out.later HB1.out) top v gi gc htn hv (qg8 HGm.out HP.out hn l1) (qg8 HGm.out HP.out hn l2) HV.out.1 HV.out.2).mono ?_
     rintro e w2 ⟨rfl, hx2, hg2, hc2⟩
     have HX2 : Hid (Fix w2 C (.slice pt (top + 1) pe) (top + 1) p1) := hx2
     have HG2 : Hid (Gs w2 C (C.H (mu1 J2 top v))) := hg2
     have HL2 : Hid (Chg wm w2 C.S) := (Chg.of_below HB1.out).trans hc2
     clear hx2 hg2 hc2
     have HD2 : Hid (w2.cell? ⟨C.g, 3, none⟩ = some (.func (.func 124) #[] #[.pointer (some ⟨C.gv, 0, none⟩)])) := HX2.out.c3
     refine hK.out _ _ HD2.out (fun _ => ?_)
     clear hK K
     try simp only [mz1, mz2, mz3, Act.put, mz4, mz5, mz6]
     refine wpAnyH_done (by kernel_rfl) ?_ _
     have HEL : Hid (El2 (mu1 J2 top v)) := by rw [← HJ2.out]; exact mu1_el HE2.out hv
     have HEC : Hid (Ech (mu1 J2 top v) C.n top j p) := by rw [← HJ2.out]; exact HC2.out.scale (Nat.le_refl _)
     have HSP : Hid (SpEq (mu1 J2 top v) C.n J0 C.n) := by
      rw [← HJ2.out]
      exact (qdf HE2.out htn hv (by rw [← HV8.out]; intro h0; have := qau y hy hy0.out; rw [h0, qa7] at this; exact absurd this (by decide))).trans HS2.out
     have HONE : Hid (mu1 J2 top v top j = 1) := by
      show mu1 J2 top v top j = 1
      unfold mu1
      rw [qgl, ← HJ2.out, HY.out, ← HV8.out, qac _ _ (qae _) hy, qau y hy hy0.out]
     have HL9 : Hid (Below C.B w w2) := HLm.out.trans (qch HL2.out HGm.out HP.out hn)
     have e0 := HX2.out.c0
     go_wp2_with (first | (go_at_call 111; refine (qcg _ C pt pe (top + 1) top (top + 1) C.n p1 (mu1 J2 top v) HK.out HP.out hn HX2.out HG2.out (by omega) (by omega) (by omega) (Nat.le_refl _) (by omega) (by rw [HPT.out]; exact hjc)).mono ?_; rintro e w5 ⟨rfl, hx5, hg5, hc5⟩; rw [HPT.out] at hg5; have HX5 : Hid (Rst w5 C pt pe (top + 1) p1 (clu (mu1 J2 top v) top j (top + 1) C.n)) := ⟨hx5, hg5, qep HEL.out _ _ _ _⟩; have HL5 : Hid (Below C.B w w5) := HL9.out.trans (qch hc5 HG2.out HP.out hn); clear hx5 hg5 hc5) | (go_at_call 107; refine (qda _ C pt pe (top + 1) (j + 1) p1 _ HK.out HX5.out.fix HX5.out.gs (by omega) (by omega)).mono ?_; rintro e w6 ⟨i6, j6, rfl, hx6, hb6⟩; have HN6 : Hid (Nxt (C.H (clu (mu1 J2 top v) top j (top + 1) C.n) C.m) C.n C.c (top + 1) (j + 1) i6 j6) := hx6; have HB6 : Hid (Below w5.heap.size w5 w6) := hb6; clear hx6 hb6))
     have hj6 := HN6.out.jl
     exact ⟨⟨i6, j6, top + 1, pe, pt, p1, _, rfl, rfl, DsI.next HK.out HP1.out (HX5.out.later HB6.out) HEL.out HEC.out HONE.out htn HSP.out HN6.out (HL5.out.trans (HB6.out.mono HX5.out.gs.bsz))⟩, by simp [intOf]; omega⟩
   ·have hib : ((i : Int) != (top : Int)) = true := by simp; omega
    go_wp2_with fail
    have c3 := HXa.out.c3
    refine wp_region_held (S := fun w' => w'.cell? ⟨C.g, 3, none⟩ = some (.func (.func 124) #[] #[.pointer (some ⟨C.gv, 0, none⟩)])) (by kernel_rfl) ?_
    refine wtkq 0 ?vxb0 rfl (by kernel_rfl) (fun _ _ _ h => h) (by rfl) ?yxb0 c3 ?zxb0
    case yxb0 => (intro w hSw; (try dsimp only at hSw); go_simp; try with_reducible rfl)
    try simp only [mz1, mz3, Act.put, mz4, mz5, mz6]
    refine wtkq 1 ?vxb1 rfl (by kernel_rfl) (fun _ _ _ h => h) (by rfl) ?yxb1 c3 ?zxb1
    case yxb1 => (intro w hSw; (try dsimp only at hSw); go_simp; try with_reducible rfl)
    try simp only [mz1, mz2, mz3, Act.put, mz4, mz5, mz6]
    refine wtkq 2 ?vxb2 rfl (by kernel_rfl) (fun _ _ _ h => h) (by rfl) ?yxb2 c3 ?zxb2
    case yxb2 => (intro w hSw; (try dsimp only at hSw); go_simp; try with_reducible rfl)
    try simp only [mz1, mz2, mz3, Act.put, mz4, mz5, mz6]
    refine wtkq 3 ?vxb3 rfl (by kernel_rfl) (fun _ _ _ h => h) (by rfl) ?yxb3 c3 ?zxb3
    case yxb3 => (intro w hSw; (try dsimp only at hSw); go_simp; try with_reducible rfl)
    try simp only [mz1, mz2, mz3, Act.put, mz4, mz5, mz6]
    refine wtkq 4 ?vxb4 rfl (by kernel_rfl) (fun _ _ _ h => h) (by rfl) ?yxb4 c3 ?zxb4
    case yxb4 => (intro w hSw; (try dsimp only at hSw); go_simp; try with_reducible rfl)
    try simp only [mz1, mz2, mz3, Act.put, mz4, mz5, mz6]
    refine wtkq 5 ?vxb5 rfl (by kernel_rfl) (fun _ _ _ h => h) (by rfl) ?yxb5 c3 ?zxb5
    case yxb5 => (intro w hSw; (try dsimp only at hSw); go_simp; try with_reducible rfl)
    try simp only [mz1, mz2, mz3, Act.put, mz4, mz5, mz6]
    refine wpAnyH_ready (rs := [6]) (by kernel_rfl) (by simp) ?_
    refine AllReadyH.cons rfl (fun K hK => ?_) AllReadyH.nil
    go_simp
    refine (exch_mk _ top i).mono ?_
    rintro e w1 ⟨gi, gj, rfl, v1, v2, l1, l2, hb0⟩
    have hb1 := undrew hb0
    have HB1 : Hid (Below wa.heap.size wa w1) := hb1
    have HXb : Hid (Fix w1 C (.slice pt (top + 1) pe) (top + 1) p1) := HXa.out.later hb1
    have HV : Hid (V1 w1 gi (.int .i64 (top : Int)) 3 ∧ V1 w1 gj (.int .i64 (i : Int)) 3) := ⟨v1, v2⟩
    clear v1 v2 hb0 hb1
    have HD1 : Hid (w1.cell? ⟨C.g, 3, none⟩ = some (.func (.func 124) #[] #[.pointer (some ⟨C.gv, 0, none⟩)])) := (HXb.out).c3
    refine hK.out _ _ HD1.out (fun _ => ?_)
    clear hK K
    try simp only [mz1, mz2, mz3, Act.put, mz4, mz5, mz6]
    refine wpAnyH_ready (rs := [7]) (by kernel_rfl) (by simp) ?_
    refine AllReadyH.cons rfl (fun K hK => ?_) AllReadyH.nil
    go_simp
    refine (onto_swp _ C _ (top + 1) p1 _ HK.out HP.out hn HXb.out (HGa.out.later HB1.out) top i gi gj htn hin (qg8 HGa.out HP.out hn l1) (qg8 HGa.out HP.out hn l2) HV.out.1 HV.out.2).mono ?_
    rintro e w2 ⟨rfl, hx2, hg2, hc2⟩
    have HX2 : Hid (Fix w2 C (.slice pt (top + 1) pe) (top + 1) p1) := hx2
    have HG2 : Hid (Gs w2 C (C.H (swp J top i))) := hg2
    have HC2 : Hid (Below C.B w2 w2) := Below.refl _ _
    have HL2 : Hid (Chg wa w2 C.S) := (Chg.of_below HB1.out).trans hc2
    clear hx2 hg2 hc2
    have HD2 : Hid (w2.cell? ⟨C.g, 3, none⟩ = some (.func (.func 124) #[] #[.pointer (some ⟨C.gv, 0, none⟩)])) := HX2.out.c3
    refine hK.out _ _ HD2.out (fun _ => ?_)
    clear hK K
    try simp only [mz1, mz2, mz3, Act.put, mz4, mz5, mz6]
    refine wpAnyH_done (by kernel_rfl) ?_ _
    go_upto_region 6 with fail
    obtain ⟨wx, HWX⟩ : ∃ wx, Hid (wx = w2) := ⟨_, rfl⟩
    rw [← HWX.out]
    have HXx : Hid (Fix wx C (.slice pt (top + 1) pe) (top + 1) p1) := by rw [HWX.out]; exact HX2.out
    have HGx : Hid (Gs wx C (C.H (swp J top i))) := by rw [HWX.out]; exact HG2.out
    have HLx : Hid (Below C.B w wx) := by rw [HWX.out]; exact HLa.out.trans (qch HL2.out HGa.out HP.out hn)
    clear HX2 HG2 HL2 HWX HC2 c3 HD1 HD2 HXb HV HB1 HXa HGa HLa
    have HE2 : Hid (El2 (swp J top i)) := qko HI.out.rs.el _ _
    have HC2 : Hid (Ech (swp J top i) C.n top j p) := HI.out.ech.swp (Nat.le_refl _) hti htn hin
    have HS2 : Hid (SpEq (swp J top i) C.n J0 C.n) := (qhz HI.out.rs.el htn hin).trans HI.out.sp
    have HN2 : Hid (swp J top i top j ≠ 0) := by show swp J top i top j ≠ 0; unfold swp; rw [if_pos rfl]; exact HNE.out
    have d0 := HXx.out.c0
    obtain ⟨x8, ca, hs, _⟩ := (HGx.out C.m (Nat.le_refl _)).row htn
    rw [HK.out.lk] at hs ca
    obtain ⟨b8, o8, rfl, cb⟩ := hs.2 j hjc
    obtain ⟨y, HY⟩ : ∃ y, Hid (swp J top i top j = y) := ⟨_, rfl⟩
    have ey : C.H (swp J top i) C.m top j = y := by
     show (swp J top i) top (C.o C.m + j) = y
     rw [HK.out.lo, Nat.zero_add]; exact HY.out
    have hy := hs.1 j hjc
    rw [ey] at cb hy
    have hy0 : Hid (y ≠ 0) := by rw [← HY.out]; exact HN2.out
    have hjs : (j : Int) < (C.c : Int) := by omega
    clear hs ey
    by_cases hy1 : y = 1
    ·subst hy1
     have HEL : Hid (El2 (swp J top i)) := HE2.out
     have HEC : Hid (Ech (swp J top i) C.n top j p) := HC2.out
     have HSP : Hid (SpEq (swp J top i) C.n J0 C.n) := HS2.out
     clear d0
     have d0 := HXx.out.c0
     skip
     go_wp2_with (first | (go_at_call 111; refine (qcg _ C pt pe (top + 1) top (top + 1) C.n p1 (swp J top i) HK.out HP.out hn HXx.out HGx.out (by omega) (by omega) (by omega) (Nat.le_refl _) (by omega) (by rw [HPT.out]; exact hjc)).mono ?_; rintro e w5 ⟨rfl, hx5, hg5, hc5⟩; rw [HPT.out] at hg5; have HX5 : Hid (Rst w5 C pt pe (top + 1) p1 (clu (swp J top i) top j (top + 1) C.n)) := ⟨hx5, hg5, qep HEL.out _ _ _ _⟩; have HL5 : Hid (Below C.B w w5) := HLx.out.trans (qch hc5 HGx.out HP.out hn); clear hx5 hg5 hc5) | (go_at_call 107; refine (qda _ C pt pe (top + 1) (j + 1) p1 _ HK.out HX5.out.fix HX5.out.gs (by omega) (by omega)).mono ?_; rintro e w6 ⟨i6, j6, rfl, hx6, hb6⟩; have HN6 : Hid (Nxt (C.H (clu (swp J top i) top j (top + 1) C.n) C.m) C.n C.c (top + 1) (j + 1) i6 j6) := hx6; have HB6 : Hid (Below w5.heap.size w5 w6) := hb6; clear hx6 hb6))
     have hj6 := HN6.out.jl
     exact ⟨⟨i6, j6, top + 1, pe, pt, p1, _, rfl, rfl, DsI.next HK.out HP1.out (HX5.out.later HB6.out) HEL.out HEC.out HY.out htn HSP.out HN6.out (HL5.out.trans (HB6.out.mono HX5.out.gs.bsz))⟩, by simp [intOf]; omega⟩
    ·have hyb : ((y : Int) == 1) = false := by simp; omega
     obtain ⟨v, HV8⟩ : ∃ v, Hid (finv y = v) := ⟨_, rfl⟩
     have hv : v < 256 := by rw [← HV8.out]; exact qae _
     have HInv : Hid (∀ w, Calls Tryz.prog 109 #[.int .u8 (y : Int)] w fun e w' => e = .returned (.tuple #[.int .u8 (v : Int), .int .i64 0]) ∧ Below w.heap.size w w') := by
      intro w
      have := qku y w hy
      rw [HV8.out, show ive y = 0 from if_neg hy0.out] at this
      exact this
     go_wp2_with (go_at_call 109; refine (HInv.out _).mono ?_; rintro e wm ⟨rfl, hbm⟩; have HBM : Hid (Below wx.heap.size wx wm) := hbm; clear hbm)
     have HXm : Hid (Fix wm C (.slice pt (top + 1) pe) (top + 1) p1) := HXx.out.later HBM.out
     obtain ⟨J2, HJ2⟩ : ∃ J2, Hid ((swp J top i) = J2) := ⟨_, rfl⟩
     have HGm : Hid (Gs wm C (C.H J2)) := by rw [← HJ2.out]; exact HGx.out.later HBM.out
     have HLm : Hid (Below C.B w wm) := HLx.out.trans (HBM.out.mono HGx.out.bsz)
     have c3 := HXm.out.c3
     refine wp_region_held (S := fun w' => w'.cell? ⟨C.g, 3, none⟩ = some (.func (.func 124) #[] #[.pointer (some ⟨C.gv, 0, none⟩)])) (by kernel_rfl) ?_
     refine wtkq 0 ?vyd0 rfl (by kernel_rfl) (fun _ _ _ h => h) (by rfl) ?yyd0 c3 ?zyd0
     case yyd0 => (intro w hSw; (try dsimp only at hSw); go_simp; try with_reducible rfl)
     try simp only [mz1, mz3, Act.put, mz4, mz5, mz6]
     refine wtkq 1 ?vyd1 rfl (by kernel_rfl) (fun _ _ _ h => h) (by rfl) ?yyd1 c3 ?zyd1
     case yyd1 => (intro w hSw; (try dsimp only at hSw); go_simp; try with_reducible rfl)
     try simp only [mz1, mz2, mz3, Act.put, mz4, mz5, mz6]
     refine wtkq 2 ?vyd2 rfl (by kernel_rfl) (fun _ _ _ h => h) (by rfl) ?yyd2 c3 ?zyd2
     case yyd2 => (intro w hSw; (try dsimp only at hSw); go_simp; try with_reducible rfl)
     try simp only [mz1, mz2, mz3, Act.put, mz4, mz5, mz6]
     refine wtkq 3 ?vyd3 rfl (by kernel_rfl) (fun _ _ _ h => h) (by rfl) ?yyd3 c3 ?zyd3
     case yyd3 => (intro w hSw; (try dsimp only at hSw); go_simp; try with_reducible rfl)
     try simp only [mz1, mz2, mz3, Act.put, mz4, mz5, mz6]
     refine wtkq 4 ?vyd4 rfl (by kernel_rfl) (fun _ _ _ h => h) (by rfl) ?yyd4 c3 ?zyd4
     case yyd4 => (intro w hSw; (try dsimp only at hSw); go_simp; try with_reducible rfl)
     try simp only [mz1, mz2, mz3, Act.put, mz4, mz5, mz6]
     refine wtkq 5 ?vyd5 rfl (by kernel_rfl) (fun _ _ _ h => h) (by rfl) ?yyd5 c3 ?zyd5
     case yyd5 => (intro w hSw; (try dsimp only at hSw); go_simp; try with_reducible rfl)
     try simp only [mz1, mz2, mz3, Act.put, mz4, mz5, mz6]
     refine wpAnyH_ready (rs := [6]) (by kernel_rfl) (by simp) ?_
     refine AllReadyH.cons rfl (fun K hK => ?_) AllReadyH.nil
     go_simp
     refine (qlx _ top v).mono ?_
     rintro e w1 ⟨gi, gc, rfl, v1, v2, l1, l2, hb0⟩
     have hb1 := undrew hb0
     have HB1 : Hid (Below wm.heap.size wm w1) := hb1
     have HXb : Hid (Fix w1 C (.slice pt (top + 1) pe) (top + 1) p1) := HXm.out.later hb1
     have HV : Hid (V1 w1 gi (.int .i64 (top : Int)) 3 ∧ V1 w1 gc (.int .u8 (v : Int)) 5) := ⟨v1, v2⟩
     clear v1 v2 hb0 hb1
     have HD1 : Hid (w1.cell? ⟨C.g, 3, none⟩ = some (.func (.func 124) #[] #[.pointer (some ⟨C.gv, 0, none⟩)])) := (HXb.out).c3
     refine hK.out _ _ HD1.out (fun _ => ?_)
     clear hK K
     try simp only [mz1, mz2, mz3, Act.put, mz4, mz5, mz6]
     refine wpAnyH_ready (rs := [7]) (by kernel_rfl) (by simp) ?_
     refine AllReadyH.cons rfl (fun K hK => ?_) AllReadyH.nil
     go_simp
     refine (qik _ C _ (top + 1) p1 _ HK.out HP.out hn HXb.out (HGm.out.later HB1.out) top v gi gc htn hv (qg8 HGm.out HP.out hn l1) (qg8 HGm.out HP.out hn l2) HV.out.1 HV.out.2).mono ?_
     rintro e w2 ⟨rfl, hx2, hg2, hc2⟩
     have HX2 : Hid (Fix w2 C (.slice pt (top + 1) pe) (top + 1) p1) := hx2
     have HG2 : Hid (Gs w2 C (C.H (mu1 J2 top v))) := hg2
     have HL2 : Hid (Chg wm w2 C.S) := (Chg.of_below HB1.out).trans hc2
     clear hx2 hg2 hc2
     have HD2 : Hid (w2.cell? ⟨C.g, 3, none⟩ = some (.func (.func 124) #[] #[.pointer (some ⟨C.gv, 0, none⟩)])) := HX2.out.c3
     refine hK.out _ _ HD2.out (fun _ => ?_)
     clear hK K
     try simp only [mz1, mz2, mz3, Act.put, mz4, mz5, mz6]
     refine wpAnyH_done (by kernel_rfl) ?_ _
     have HEL : Hid (El2 (mu1 J2 top v)) := by rw [← HJ2.out]; exact mu1_el HE2.out hv
     have HEC : Hid (Ech (mu1 J2 top v) C.n top j p) := by rw [← HJ2.out]; exact HC2.out.scale (Nat.le_refl _)
     have HSP : Hid (SpEq (mu1 J2 top v) C.n J0 C.n) := by
      rw [← HJ2.out]
      exact (qdf HE2.out htn hv (by rw [← HV8.out]; intro h0; have := qau y hy hy0.out; rw [h0, qa7] at this; exact absurd this (by decide))).trans HS2.out
     have HONE : Hid (mu1 J2 top v top j = 1) := by
      show mu1 J2 top v top j = 1
      unfold mu1
      rw [qgl, ← HJ2.out, HY.out, ← HV8.out, qac _ _ (qae _) hy, qau y hy hy0.out]
     have HL9 : Hid (Below C.B w w2) := HLm.out.trans (qch HL2.out HGm.out HP.out hn)
     have e0 := HX2.out.c0
     go_wp2_with (first | (go_at_call 111; refine (qcg _ C pt pe (top + 1) top (top + 1) C.n p1 (mu1 J2 top v) HK.out HP.out hn HX2.out HG2.out (by omega) (by omega) (by omega) (Nat.le_refl _) (by omega) (by rw [HPT.out]; exact hjc)).mono ?_; rintro e w5 ⟨rfl, hx5, hg5, hc5⟩; rw [HPT.out] at hg5; have HX5 : Hid (Rst w5 C pt pe (top + 1) p1 (clu (mu1 J2 top v) top j (top + 1) C.n)) := ⟨hx5, hg5, qep HEL.out _ _ _ _⟩; have HL5 : Hid (Below C.B w w5) := HL9.out.trans (qch hc5 HG2.out HP.out hn); clear hx5 hg5 hc5) | (go_at_call 107; refine (qda _ C pt pe (top + 1) (j + 1) p1 _ HK.out HX5.out.fix HX5.out.gs (by omega) (by omega)).mono ?_; rintro e w6 ⟨i6, j6, rfl, hx6, hb6⟩; have HN6 : Hid (Nxt (C.H (clu (mu1 J2 top v) top j (top + 1) C.n) C.m) C.n C.c (top + 1) (j + 1) i6 j6) := hx6; have HB6 : Hid (Below w5.heap.size w5 w6) := hb6; clear hx6 hb6))
     have hj6 := HN6.out.jl
     exact ⟨⟨i6, j6, top + 1, pe, pt, p1, _, rfl, rfl, DsI.next HK.out HP1.out (HX5.out.later HB6.out) HEL.out HEC.out HONE.out htn HSP.out HN6.out (HL5.out.trans (HB6.out.mono HX5.out.gs.bsz))⟩, by simp [intOf]; omega⟩
  ·have hjd : decide (j < C.c) = false := by simpa using hjc
   have HJC : Hid (j = C.c) := by have := HI.out.jc; show j = C.c; omega
   go_wp2
   go_end0
   refine ⟨rfl, ps, pd, top, p, J, HI.out.rs, ?_, HI.out.sp, HI.out.low⟩
   have := HI.out.ech
   rwa [HJC.out] at this
end Go.Proofs.YtblagbghpfopcaaGreat
