/-
  The reduction's state; a change is done to each of its lists.
-/
import Derived.Test.YtokdejhbjoglcaaQffal00
import Derived.Test.YtokdejhbjoglcaaQffal32
set_option maxRecDepth 100000
set_option maxHeartbeats 16000000
namespace Go.Proofs.Ytokdejhbjoglcaa
open Go.RowKit
/-- Where a reduction lies: it, its lists' variable, its lists (m + 1, the last its own rows), their rows and elements, their widths and where they stand in the whole. -/
structure Cfg where
 B : Nat
 g : Nat
 gv : Nat
 gL : Nat
 cL : Nat
 m : Nat
 n : Nat
 c : Nat
 gr : Nat → Nat
 gd : Nat → Nat
 kk : Nat → Nat
 o : Nat → Nat
structure Cfg.Ok (C : Cfg) : Prop where
 ne : ∀ s t, s ≤ C.m → t ≤ C.m → s ≠ t → C.gr s ≠ C.gr t ∧ C.gd s ≠ C.gd t
 k6 : ∀ t, t ≤ C.m → C.kk t ≤ 64
 lo : C.o C.m = 0
 lk : C.kk C.m = C.c
 n64 : C.n ≤ 64
 c64 : C.c ≤ 64
 m1 : C.m ≤ 1
 pos : 0 < C.c → 0 < C.n → ∀ t, t ≤ C.m → 0 < C.kk t
/-- The blocks that changes may change. -/
def Cfg.S (C : Cfg) (b : Nat) : Prop := ∃ t, t ≤ C.m ∧ (b = C.gr t ∨ b = C.gd t)
/-- Its lists' state: list t's numbers are H t's. -/
def Gs (w : World) (C : Cfg) (H : Nat → Nat → Nat → Nat) : Prop := ∀ t, t ≤ C.m → Grid w C.B (C.gr t) (C.gd t) C.n (C.kk t) (H t)
/-- What changes leave. -/
structure Fix (w : World) (C : Cfg) (pv : Value) (top : Nat) (p : Nat → Nat) : Prop where
 red : w.heap[C.g]? = some (.cells #[.slice (some ⟨C.gr C.m, 0, none⟩) C.n C.n, .int .i64 (C.c : Int), pv, .func (.func 94) #[] #[.pointer (some ⟨C.gv, 0, none⟩)]] 104 (0, 0))
 lv : V1 w C.gv (.slice (some ⟨C.gL, 0, none⟩) (C.m + 1) C.cL) 114
 ls : ∃ cs : Array Value, w.heap[C.gL]? = some (.cells cs 98 (0, 0)) ∧ ∀ t, t ≤ C.m → cs[t]? = some (.slice (some ⟨C.gr t, 0, none⟩) C.n C.n)
 piv : Oi w C.B pv top p
 base : C.B ≤ C.g
theorem Gs.off {w : World} {C : Cfg} {b : Nat} {cs : Array Value} {t : TypeId} (h : w.heap[b]? = some (.cells cs t (0, 0))) {H : Nat → Nat → Nat → Nat} (G : Gs w C H) (hp : ∀ t, t ≤ C.m → 0 < C.kk t) (hn : 0 < C.n) (h1 : t ≠ 22) (h2 : t ≠ 5) : ¬ C.S b := by
 rintro ⟨s, hs, e⟩
 rcases e with e | e
 ·obtain ⟨c2, hc2⟩ := (G s hs).blk
  exact qcy h hc2 h1 e
 ·obtain ⟨_, _, c2, hc2⟩ := (G s hs).dat (hp s hs) hn
  exact qcy h hc2 h2 e
theorem Fix.chg {w w' : World} {C : Cfg} {pv : Value} {top : Nat} {p : Nat → Nat} (F : Fix w C pv top p) {H : Nat → Nat → Nat → Nat} (G : Gs w C H) (hp : ∀ t, t ≤ C.m → 0 < C.kk t) (hn : 0 < C.n) (hc : Chg w w' C.S) : Fix w' C pv top p := by
 obtain ⟨cs, h1, h2⟩ := F.ls
 refine ⟨hc.at F.red (Gs.off F.red G hp hn (by decide) (by decide)), F.lv.chg hc (Gs.off F.lv G hp hn (by decide) (by decide)), ⟨cs, hc.at h1 (Gs.off h1 G hp hn (by decide) (by decide)), h2⟩, qfn F.piv hc (fun b hb => ?_), F.base⟩
 obtain ⟨cs2, h3⟩ := ownb F.piv hb
 exact Gs.off h3 G hp hn (by decide) (by decide)
theorem Fix.later {w w' : World} {C : Cfg} {pv : Value} {top : Nat} {p : Nat → Nat} (F : Fix w C pv top p) (hb : Below w.heap.size w w') : Fix w' C pv top p := by
 obtain ⟨cs, h1, h2⟩ := F.ls
 refine ⟨?_, F.lv.later hb, ⟨cs, ?_, h2⟩, F.piv.later hb, F.base⟩
 ·rw [hb.block _ (lt_of_block F.red)]; exact F.red
 ·rw [hb.block _ (lt_of_block h1)]; exact h1
theorem Gs.later {w w' : World} {C : Cfg} {H : Nat → Nat → Nat → Nat} (G : Gs w C H) (hb : Below w.heap.size w w') : Gs w' C H := fun t ht => (G t ht).later hb
theorem Fix.c0 {w : World} {C : Cfg} {pv : Value} {top : Nat} {p : Nat → Nat} (F : Fix w C pv top p) : w.cell? ⟨C.g, 0, none⟩ = some (.slice (some ⟨C.gr C.m, 0, none⟩) C.n C.n) := by rw [cell_of_row w C.g 0 _ _ _ F.red]; rfl
theorem Fix.c1 {w : World} {C : Cfg} {pv : Value} {top : Nat} {p : Nat → Nat} (F : Fix w C pv top p) : w.cell? ⟨C.g, 1, none⟩ = some (.int .i64 (C.c : Int)) := by rw [cell_of_row w C.g 1 _ _ _ F.red]; rfl
theorem Fix.c2 {w : World} {C : Cfg} {pv : Value} {top : Nat} {p : Nat → Nat} (F : Fix w C pv top p) : w.cell? ⟨C.g, 2, none⟩ = some pv := by rw [cell_of_row w C.g 2 _ _ _ F.red]; rfl
theorem Fix.c3 {w : World} {C : Cfg} {pv : Value} {top : Nat} {p : Nat → Nat} (F : Fix w C pv top p) : w.cell? ⟨C.g, 3, none⟩ = some (.func (.func 94) #[] #[.pointer (some ⟨C.gv, 0, none⟩)]) := by rw [cell_of_row w C.g 3 _ _ _ F.red]; rfl
theorem Fix.free {w : World} {C : Cfg} {pv : Value} {top : Nat} {p : Nat → Nat} (F : Fix w C pv top p) (i : Nat) : w.frozen? ⟨C.g, i, none⟩ = false := by
 have := F.red
 simp [World.frozen?, this]
theorem Fix.lst {w : World} {C : Cfg} {pv : Value} {top : Nat} {p : Nat → Nat} (F : Fix w C pv top p) {t : Nat} (ht : t ≤ C.m) : w.cell? ⟨C.gL, t, none⟩ = some (.slice (some ⟨C.gr t, 0, none⟩) C.n C.n) := by
 obtain ⟨cs, h1, h2⟩ := F.ls
 rw [cell_of_row w C.gL t _ _ _ h1]; exact h2 t ht
/-- One of the lists is changed. -/
theorem Gs.step {w w' : World} {C : Cfg} {H : Nat → Nat → Nat → Nat} {t : Nat} {F : Nat → Nat → Nat} (K : C.Ok) (hp : ∀ t, t ≤ C.m → 0 < C.kk t) (hn : 0 < C.n) (G : Gs w C H) (ht : t ≤ C.m) (g : Grid w' C.B (C.gr t) (C.gd t) C.n (C.kk t) F) (hc : Chg w w' (fun b => b = C.gr t ∨ b = C.gd t)) : Gs w' C (fun s => if s = t then F else H s) := fun s hs => by
 show Grid _ _ _ _ _ _ (if s = t then F else H s)
 by_cases e : s = t
 ·subst e
  rw [if_pos rfl]; exact g
 ·rw [if_neg e]
  have hne := K.ne s t hs ht e
  obtain ⟨c1, b1⟩ := (G s hs).blk
  obtain ⟨_, _, c2, b2⟩ := (G s hs).dat (hp s hs) hn
  obtain ⟨c3, b3⟩ := (G t ht).blk
  obtain ⟨_, _, c4, b4⟩ := (G t ht).dat (hp t ht) hn
  refine (G s hs).chg hc ?_ (fun _ _ => ?_)
  ·rintro (e1 | e1)
   ·exact hne.1 e1
   ·exact qcy b1 b4 (by decide) e1
  ·rintro (e1 | e1)
   ·exact qcy b3 b2 (by decide) e1.symm
   ·exact hne.2 e1
theorem Gs.congr {w : World} {C : Cfg} {H H' : Nat → Nat → Nat → Nat} (G : Gs w C H) (e : ∀ t, t ≤ C.m → ∀ i l, i < C.n → l < C.kk t → H t i l = H' t i l) : Gs w C H' := fun t ht => (G t ht).congr (e t ht)
theorem Chg.one {w w' : World} {C : Cfg} {t : Nat} (ht : t ≤ C.m) (hc : Chg w w' (fun b => b = C.gr t ∨ b = C.gd t)) : Chg w w' C.S := hc.mono (fun _ hk => ⟨t, ht, hk⟩)
theorem onto_swp (w : World) (C : Cfg) (pv : Value) (top : Nat) (p : Nat → Nat) (H : Nat → Nat → Nat → Nat) (K : C.Ok) (hp : ∀ t, t ≤ C.m → 0 < C.kk t) (hn : 0 < C.n) (X : Fix w C pv top p) (G : Gs w C H) (i j gi gj : Nat) (hi : i < C.n) (hj : j < C.n) (hl_gi : ∀ t, t ≤ C.m → C.gr t < gi ∧ C.gd t < gi) (hl_gj : ∀ t, t ≤ C.m → C.gr t < gj ∧ C.gd t < gj) (v_gi : V1 w gi (.int .i64 (i : Int)) 3) (v_gj : V1 w gj (.int .i64 (j : Int)) 3) :
  Calls Try.prog 94 #[.func (.func 95) #[] #[.pointer (some ⟨gj, 0, none⟩), .pointer (some ⟨gi, 0, none⟩)], .pointer (some ⟨C.gv, 0, none⟩)] w fun e w' => e = .returned (.tuple #[]) ∧ Fix w' C pv top p ∧ Gs w' C (fun t => swp (H t) i j) ∧ Chg w w' C.S := by
 have HK : Hid C.Ok := K
 have HP : Hid (∀ t, t ≤ C.m → 0 < C.kk t) := hp
 have HX : Hid (Fix w C pv top p) := X
 have HG : Hid (Gs w C H) := G
 have HS_gi : Hid (¬ C.S gi) := by
  rintro ⟨s, hs, e⟩
  have h1 := (G s hs).lt
  have h2 := ((G s hs).dat (hp s hs) hn).2.1
  have := hl_gi s hs
  omega
 have HS_gj : Hid (¬ C.S gj) := by
  rintro ⟨s, hs, e⟩
  have h1 := (G s hs).lt
  have h2 := ((G s hs).dat (hp s hs) hn).2.1
  have := hl_gj s hs
  omega
 have cv := X.lv.cell
 have hm1 := K.m1
 clear K hp X G
 go_enter Try.func94, Try.ntmps94
 go_wp2
 go_loopw [7] (fun si wr => ∃ i9 : Nat, i9 ≤ C.m + 1 ∧ si = .int .i64 (i9 : Int) ∧ Hid (Chg w wr C.S) ∧ Hid (Gs wr C (fun t => if t < i9 then swp (H t) i j else H t))) (fun si _ => C.m + 1 - (intOf si).toNat)
 case atStart => exact ⟨0, by omega, rfl, Chg.refl _ _, HG.out.congr (fun t _ i l _ _ => by rw [if_neg (by omega)])⟩
 case round =>
  obtain ⟨i0, hi0, rfl, HC, HGr⟩ := hrel
  by_cases hlt : i0 < C.m + 1
  ·have cl := (HX.out.chg HG.out HP.out hn HC.out).lst (t := i0) (by omega)
   have hk6 := HK.out.k6 i0 (by omega)
   have hkp := HP.out i0 (by omega)
   have HGi : Hid (Grid wr C.B (C.gr i0) (C.gd i0) C.n (C.kk i0) (H i0)) := by
    have h9 := HGr.out i0 (by omega)
    dsimp only at h9
    rw [if_neg (by omega)] at h9
    exact h9
   have c_gi := (v_gi.chg HC.out HS_gi.out).cell
   have n_gi : gi ≠ C.gd i0 := fun e => HS_gi.out ⟨i0, by omega, .inr e⟩
   have m_gi : C.gr i0 ≠ gi := fun e => HS_gi.out ⟨i0, by omega, .inl e.symm⟩
   have c_gj := (v_gj.chg HC.out HS_gj.out).cell
   have n_gj : gj ≠ C.gd i0 := fun e => HS_gj.out ⟨i0, by omega, .inr e⟩
   have m_gj : C.gr i0 ≠ gj := fun e => HS_gj.out ⟨i0, by omega, .inl e.symm⟩
   go_wp2_with (go_at_call 95; refine (exch_do _ C.B (C.gr i0) (C.gd i0) C.n (C.kk i0) i j gi gj _ HGi.out hi hj m_gj c_gi c_gj).mono ?_; rintro e w1 ⟨rfl, hg1, hc1⟩; have HG1 : Hid (Grid w1 C.B (C.gr i0) (C.gd i0) C.n (C.kk i0) (swp (H i0) i j)) := hg1; have HC1 : Hid (Chg wr w1 (fun b => b = C.gr i0 ∨ b = C.gd i0)) := hc1; clear hg1 hc1)
   refine ⟨⟨i0 + 1, by omega, by go_num, HC.out.trans (Chg.one (by omega) HC1.out), (Gs.step HK.out HP.out hn HGr.out (by omega) HG1.out HC1.out).congr (fun t ht i l _ _ => ?_)⟩, by simp [intOf]; omega⟩
   by_cases e : t = i0
   ·subst e
    rw [if_pos rfl, if_pos (by omega)]
   ·rw [if_neg e]
    by_cases h : t < i0
    ·rw [if_pos h, if_pos (by omega)]
    ·rw [if_neg h, if_neg (by omega)]
  ·obtain rfl : i0 = C.m + 1 := by omega
   go_wp2
   go_end0
   exact ⟨rfl, HX.out.chg HG.out HP.out hn HC.out, HGr.out.congr (fun t ht i l _ _ => by rw [if_pos (by omega)]), HC.out⟩
theorem qgu (w : World) (C : Cfg) (pv : Value) (top : Nat) (p : Nat → Nat) (H : Nat → Nat → Nat → Nat) (K : C.Ok) (hp : ∀ t, t ≤ C.m → 0 < C.kk t) (hn : 0 < C.n) (X : Fix w C pv top p) (G : Gs w C H) (i c gi gc : Nat) (hi : i < C.n) (hc : c < 256) (hl_gi : ∀ t, t ≤ C.m → C.gr t < gi ∧ C.gd t < gi) (hl_gc : ∀ t, t ≤ C.m → C.gr t < gc ∧ C.gd t < gc) (v_gi : V1 w gi (.int .i64 (i : Int)) 3) (v_gc : V1 w gc (.int .u8 (c : Int)) 5) :
  Calls Try.prog 94 #[.func (.func 97) #[] #[.pointer (some ⟨gi, 0, none⟩), .pointer (some ⟨gc, 0, none⟩)], .pointer (some ⟨C.gv, 0, none⟩)] w fun e w' => e = .returned (.tuple #[]) ∧ Fix w' C pv top p ∧ Gs w' C (fun t => mu1 (H t) i c) ∧ Chg w w' C.S := by
 have HK : Hid C.Ok := K
 have HP : Hid (∀ t, t ≤ C.m → 0 < C.kk t) := hp
 have HX : Hid (Fix w C pv top p) := X
 have HG : Hid (Gs w C H) := G
 have HS_gi : Hid (¬ C.S gi) := by
  rintro ⟨s, hs, e⟩
  have h1 := (G s hs).lt
  have h2 := ((G s hs).dat (hp s hs) hn).2.1
  have := hl_gi s hs
  omega
 have HS_gc : Hid (¬ C.S gc) := by
  rintro ⟨s, hs, e⟩
  have h1 := (G s hs).lt
  have h2 := ((G s hs).dat (hp s hs) hn).2.1
  have := hl_gc s hs
  omega
 have cv := X.lv.cell
 have hm1 := K.m1
 clear K hp X G
 go_enter Try.func94, Try.ntmps94
 go_wp2
 go_loopw [7] (fun si wr => ∃ i9 : Nat, i9 ≤ C.m + 1 ∧ si = .int .i64 (i9 : Int) ∧ Hid (Chg w wr C.S) ∧ Hid (Gs wr C (fun t => if t < i9 then mu1 (H t) i c else H t))) (fun si _ => C.m + 1 - (intOf si).toNat)
 case atStart => exact ⟨0, by omega, rfl, Chg.refl _ _, HG.out.congr (fun t _ i l _ _ => by rw [if_neg (by omega)])⟩
 case round =>
  obtain ⟨i0, hi0, rfl, HC, HGr⟩ := hrel
  by_cases hlt : i0 < C.m + 1
  ·have cl := (HX.out.chg HG.out HP.out hn HC.out).lst (t := i0) (by omega)
   have hk6 := HK.out.k6 i0 (by omega)
   have hkp := HP.out i0 (by omega)
   have HGi : Hid (Grid wr C.B (C.gr i0) (C.gd i0) C.n (C.kk i0) (H i0)) := by
    have h9 := HGr.out i0 (by omega)
    dsimp only at h9
    rw [if_neg (by omega)] at h9
    exact h9
   have c_gi := (v_gi.chg HC.out HS_gi.out).cell
   have n_gi : gi ≠ C.gd i0 := fun e => HS_gi.out ⟨i0, by omega, .inr e⟩
   have m_gi : C.gr i0 ≠ gi := fun e => HS_gi.out ⟨i0, by omega, .inl e.symm⟩
   have c_gc := (v_gc.chg HC.out HS_gc.out).cell
   have n_gc : gc ≠ C.gd i0 := fun e => HS_gc.out ⟨i0, by omega, .inr e⟩
   have m_gc : C.gr i0 ≠ gc := fun e => HS_gc.out ⟨i0, by omega, .inl e.symm⟩
   go_wp2_with (go_at_call 97; refine (mult_do _ C.B (C.gr i0) (C.gd i0) C.n (C.kk i0) i c gi gc _ HGi.out hkp hk6 hi hc n_gi n_gc c_gi c_gc).mono ?_; rintro e w1 ⟨rfl, hg1, hc1⟩; have HG1 : Hid (Grid w1 C.B (C.gr i0) (C.gd i0) C.n (C.kk i0) (mu1 (H i0) i c)) := hg1; have HC1 : Hid (Chg wr w1 (fun b => b = C.gr i0 ∨ b = C.gd i0)) := hc1; clear hg1 hc1)
   refine ⟨⟨i0 + 1, by omega, by go_num, HC.out.trans (Chg.one (by omega) HC1.out), (Gs.step HK.out HP.out hn HGr.out (by omega) HG1.out HC1.out).congr (fun t ht i l _ _ => ?_)⟩, by simp [intOf]; omega⟩
   by_cases e : t = i0
   ·subst e
    rw [if_pos rfl, if_pos (by omega)]
   ·rw [if_neg e]
    by_cases h : t < i0
    ·rw [if_pos h, if_pos (by omega)]
    ·rw [if_neg h, if_neg (by omega)]
  ·obtain rfl : i0 = C.m + 1 := by omega
   go_wp2
   go_end0
   exact ⟨rfl, HX.out.chg HG.out HP.out hn HC.out, HGr.out.congr (fun t ht i l _ _ => by rw [if_pos (by omega)]), HC.out⟩
theorem onto_put (w : World) (C : Cfg) (pv : Value) (top : Nat) (p : Nat → Nat) (H : Nat → Nat → Nat → Nat) (K : C.Ok) (hp : ∀ t, t ≤ C.m → 0 < C.kk t) (hn : 0 < C.n) (X : Fix w C pv top p) (G : Gs w C H) (i c j gi gc gj : Nat) (hi : i < C.n) (hj : j < C.n) (hc : c < 256) (hl_gi : ∀ t, t ≤ C.m → C.gr t < gi ∧ C.gd t < gi) (hl_gc : ∀ t, t ≤ C.m → C.gr t < gc ∧ C.gd t < gc) (hl_gj : ∀ t, t ≤ C.m → C.gr t < gj ∧ C.gd t < gj) (v_gi : V1 w gi (.int .i64 (i : Int)) 3) (v_gc : V1 w gc (.int .u8 (c : Int)) 5) (v_gj : V1 w gj (.int .i64 (j : Int)) 3) :
  Calls Try.prog 94 #[.func (.func 106) #[] #[.pointer (some ⟨gi, 0, none⟩), .pointer (some ⟨gc, 0, none⟩), .pointer (some ⟨gj, 0, none⟩)], .pointer (some ⟨C.gv, 0, none⟩)] w fun e w' => e = .returned (.tuple #[]) ∧ Fix w' C pv top p ∧ Gs w' C (fun t => ad1 (H t) i c j) ∧ Chg w w' C.S := by
 have HK : Hid C.Ok := K
 have HP : Hid (∀ t, t ≤ C.m → 0 < C.kk t) := hp
 have HX : Hid (Fix w C pv top p) := X
 have HG : Hid (Gs w C H) := G
 have HS_gi : Hid (¬ C.S gi) := by
  rintro ⟨s, hs, e⟩
  have h1 := (G s hs).lt
  have h2 := ((G s hs).dat (hp s hs) hn).2.1
  have := hl_gi s hs
  omega
 have HS_gc : Hid (¬ C.S gc) := by
  rintro ⟨s, hs, e⟩
  have h1 := (G s hs).lt
  have h2 := ((G s hs).dat (hp s hs) hn).2.1
  have := hl_gc s hs
  omega
 have HS_gj : Hid (¬ C.S gj) := by
  rintro ⟨s, hs, e⟩
  have h1 := (G s hs).lt
  have h2 := ((G s hs).dat (hp s hs) hn).2.1
  have := hl_gj s hs
  omega
 have cv := X.lv.cell
 have hm1 := K.m1
 clear K hp X G
 go_enter Try.func94, Try.ntmps94
 go_wp2
 go_loopw [7] (fun si wr => ∃ i9 : Nat, i9 ≤ C.m + 1 ∧ si = .int .i64 (i9 : Int) ∧ Hid (Chg w wr C.S) ∧ Hid (Gs wr C (fun t => if t < i9 then ad1 (H t) i c j else H t))) (fun si _ => C.m + 1 - (intOf si).toNat)
 case atStart => exact ⟨0, by omega, rfl, Chg.refl _ _, HG.out.congr (fun t _ i l _ _ => by rw [if_neg (by omega)])⟩
 case round =>
  obtain ⟨i0, hi0, rfl, HC, HGr⟩ := hrel
  by_cases hlt : i0 < C.m + 1
  ·have cl := (HX.out.chg HG.out HP.out hn HC.out).lst (t := i0) (by omega)
   have hk6 := HK.out.k6 i0 (by omega)
   have hkp := HP.out i0 (by omega)
   have HGi : Hid (Grid wr C.B (C.gr i0) (C.gd i0) C.n (C.kk i0) (H i0)) := by
    have h9 := HGr.out i0 (by omega)
    dsimp only at h9
    rw [if_neg (by omega)] at h9
    exact h9
   have c_gi := (v_gi.chg HC.out HS_gi.out).cell
   have n_gi : gi ≠ C.gd i0 := fun e => HS_gi.out ⟨i0, by omega, .inr e⟩
   have m_gi : C.gr i0 ≠ gi := fun e => HS_gi.out ⟨i0, by omega, .inl e.symm⟩
   have c_gc := (v_gc.chg HC.out HS_gc.out).cell
   have n_gc : gc ≠ C.gd i0 := fun e => HS_gc.out ⟨i0, by omega, .inr e⟩
   have m_gc : C.gr i0 ≠ gc := fun e => HS_gc.out ⟨i0, by omega, .inl e.symm⟩
   have c_gj := (v_gj.chg HC.out HS_gj.out).cell
   have n_gj : gj ≠ C.gd i0 := fun e => HS_gj.out ⟨i0, by omega, .inr e⟩
   have m_gj : C.gr i0 ≠ gj := fun e => HS_gj.out ⟨i0, by omega, .inl e.symm⟩
   go_wp2_with (go_at_call 106; refine (put_do _ C.B (C.gr i0) (C.gd i0) C.n (C.kk i0) i j c gi gc gj _ HGi.out hkp hk6 hi hj hc c_gi c_gc c_gj).mono ?_; rintro e w1 ⟨rfl, hg1, hc1⟩; have HG1 : Hid (Grid w1 C.B (C.gr i0) (C.gd i0) C.n (C.kk i0) (ad1 (H i0) i c j)) := hg1; have HC1 : Hid (Chg wr w1 (fun b => b = C.gr i0 ∨ b = C.gd i0)) := hc1; clear hg1 hc1)
   refine ⟨⟨i0 + 1, by omega, by go_num, HC.out.trans (Chg.one (by omega) HC1.out), (Gs.step HK.out HP.out hn HGr.out (by omega) HG1.out HC1.out).congr (fun t ht i l _ _ => ?_)⟩, by simp [intOf]; omega⟩
   by_cases e : t = i0
   ·subst e
    rw [if_pos rfl, if_pos (by omega)]
   ·rw [if_neg e]
    by_cases h : t < i0
    ·rw [if_pos h, if_pos (by omega)]
    ·rw [if_neg h, if_neg (by omega)]
  ·obtain rfl : i0 = C.m + 1 := by omega
   go_wp2
   go_end0
   exact ⟨rfl, HX.out.chg HG.out HP.out hn HC.out, HGr.out.congr (fun t ht i l _ _ => by rw [if_pos (by omega)]), HC.out⟩
end Go.Proofs.Ytokdejhbjoglcaa
