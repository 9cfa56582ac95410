/-
  The reduction's state; a change is done to each of its lists.
  The next pivot.
  A column is cleared.
-/
import Derived.Test.YtblagbghpfopcaaGreatQwwin00
import Derived.Test.YtblagbghpfopcaaGreatQwwin30
set_option maxRecDepth 100000
set_option maxHeartbeats 16000000
namespace Go.Proofs.YtblagbghpfopcaaGreat
open Go.RowKit
/-- Where a reduction lies: it, its lists' variable, its lists (m + 1, the last its own rows), their rows and elements, their widths and where they stand in the whole. -/
structure Cfg where
 B : Nat
 g : Nat
 gv : Nat
 gL : Nat
 cL : Nat
 m : Nat
 n : Nat
 c : Nat
 gr : Nat → Nat
 gd : Nat → Nat
 kk : Nat → Nat
 o : Nat → Nat
structure Cfg.Ok (C : Cfg) : Prop where
 ne : ∀ s t, s ≤ C.m → t ≤ C.m → s ≠ t → C.gr s ≠ C.gr t ∧ C.gd s ≠ C.gd t
 k6 : ∀ t, t ≤ C.m → C.kk t ≤ 64
 lo : C.o C.m = 0
 lk : C.kk C.m = C.c
 n64 : C.n ≤ 64
 c64 : C.c ≤ 64
 m1 : C.m ≤ 1
 pos : 0 < C.c → 0 < C.n → ∀ t, t ≤ C.m → 0 < C.kk t
/-- The blocks that changes may change. -/
def Cfg.S (C : Cfg) (b : Nat) : Prop := ∃ t, t ≤ C.m ∧ (b = C.gr t ∨ b = C.gd t)
/-- Its lists' state: list t's numbers are H t's. -/
def Gs (w : World) (C : Cfg) (H : Nat → Nat → Nat → Nat) : Prop := ∀ t, t ≤ C.m → Grid w C.B (C.gr t) (C.gd t) C.n (C.kk t) (H t)
/-- What changes leave. -/
structure Fix (w : World) (C : Cfg) (pv : Value) (top : Nat) (p : Nat → Nat) : Prop where
 red : w.heap[C.g]? = some (.cells #[.slice (some ⟨C.gr C.m, 0, none⟩) C.n C.n, .int .i64 (C.c : Int), pv, .func (.func 124) #[] #[.pointer (some ⟨C.gv, 0, none⟩)]] 123 (0, 0))
 lv : V1 w C.gv (.slice (some ⟨C.gL, 0, none⟩) (C.m + 1) C.cL) 138
 ls : ∃ cs : Array Value, w.heap[C.gL]? = some (.cells cs 120 (0, 0)) ∧ ∀ t, t ≤ C.m → cs[t]? = some (.slice (some ⟨C.gr t, 0, none⟩) C.n C.n)
 piv : Oi w C.B pv top p
 base : C.B ≤ C.g
theorem Gs.off {w : World} {C : Cfg} {b : Nat} {cs : Array Value} {t : TypeId} (h : w.heap[b]? = some (.cells cs t (0, 0))) {H : Nat → Nat → Nat → Nat} (G : Gs w C H) (hp : ∀ t, t ≤ C.m → 0 < C.kk t) (hn : 0 < C.n) (h1 : t ≠ 22) (h2 : t ≠ 5) : ¬ C.S b := by
 rintro ⟨s, hs, e⟩
 rcases e with e | e
 ·obtain ⟨c2, hc2⟩ := (G s hs).blk
  exact qdj h hc2 h1 e
 ·obtain ⟨_, _, c2, hc2⟩ := (G s hs).dat (hp s hs) hn
  exact qdj h hc2 h2 e
theorem Fix.chg {w w' : World} {C : Cfg} {pv : Value} {top : Nat} {p : Nat → Nat} (F : Fix w C pv top p) {H : Nat → Nat → Nat → Nat} (G : Gs w C H) (hp : ∀ t, t ≤ C.m → 0 < C.kk t) (hn : 0 < C.n) (hc : Chg w w' C.S) : Fix w' C pv top p := by
 obtain ⟨cs, h1, h2⟩ := F.ls
 refine ⟨hc.at F.red (Gs.off F.red G hp hn (by decide) (by decide)), F.lv.chg hc (Gs.off F.lv G hp hn (by decide) (by decide)), ⟨cs, hc.at h1 (Gs.off h1 G hp hn (by decide) (by decide)), h2⟩, qhf F.piv hc (fun b hb => ?_), F.base⟩
 obtain ⟨cs2, h3⟩ := ownb F.piv hb
 exact Gs.off h3 G hp hn (by decide) (by decide)
theorem Fix.later {w w' : World} {C : Cfg} {pv : Value} {top : Nat} {p : Nat → Nat} (F : Fix w C pv top p) (hb : Below w.heap.size w w') : Fix w' C pv top p := by
 obtain ⟨cs, h1, h2⟩ := F.ls
 refine ⟨?_, F.lv.later hb, ⟨cs, ?_, h2⟩, F.piv.later hb, F.base⟩
 ·rw [hb.block _ (lt_of_block F.red)]; exact F.red
 ·rw [hb.block _ (lt_of_block h1)]; exact h1
theorem Gs.later {w w' : World} {C : Cfg} {H : Nat → Nat → Nat → Nat} (G : Gs w C H) (hb : Below w.heap.size w w') : Gs w' C H := fun t ht => (G t ht).later hb
theorem Fix.c0 {w : World} {C : Cfg} {pv : Value} {top : Nat} {p : Nat → Nat} (F : Fix w C pv top p) : w.cell? ⟨C.g, 0, none⟩ = some (.slice (some ⟨C.gr C.m, 0, none⟩) C.n C.n) := by rw [cell_of_row w C.g 0 _ _ _ F.red]; rfl
theorem Fix.c1 {w : World} {C : Cfg} {pv : Value} {top : Nat} {p : Nat → Nat} (F : Fix w C pv top p) : w.cell? ⟨C.g, 1, none⟩ = some (.int .i64 (C.c : Int)) := by rw [cell_of_row w C.g 1 _ _ _ F.red]; rfl
theorem Fix.c2 {w : World} {C : Cfg} {pv : Value} {top : Nat} {p : Nat → Nat} (F : Fix w C pv top p) : w.cell? ⟨C.g, 2, none⟩ = some pv := by rw [cell_of_row w C.g 2 _ _ _ F.red]; rfl
theorem Fix.c3 {w : World} {C : Cfg} {pv : Value} {top : Nat} {p : Nat → Nat} (F : Fix w C pv top p) : w.cell? ⟨C.g, 3, none⟩ = some (.func (.func 124) #[] #[.pointer (some ⟨C.gv, 0, none⟩)]) := by rw [cell_of_row w C.g 3 _ _ _ F.red]; rfl
theorem Fix.free {w : World} {C : Cfg} {pv : Value} {top : Nat} {p : Nat → Nat} (F : Fix w C pv top p) (i : Nat) : w.frozen? ⟨C.g, i, none⟩ = false := by
 have := F.red
 simp [World.frozen?, this]
theorem Fix.lst {w : World} {C : Cfg} {pv : Value} {top : Nat} {p : Nat → Nat} (F : Fix w C pv top p) {t : Nat} (ht : t ≤ C.m) : w.cell? ⟨C.gL, t, none⟩ = some (.slice (some ⟨C.gr t, 0, none⟩) C.n C.n) := by
 obtain ⟨cs, h1, h2⟩ := F.ls
 rw [cell_of_row w C.gL t _ _ _ h1]; exact h2 t ht
/-- One of the lists is changed. -/
theorem Gs.step {w w' : World} {C : Cfg} {H : Nat → Nat → Nat → Nat} {t : Nat} {F : Nat → Nat → Nat} (K : C.Ok) (hp : ∀ t, t ≤ C.m → 0 < C.kk t) (hn : 0 < C.n) (G : Gs w C H) (ht : t ≤ C.m) (g : Grid w' C.B (C.gr t) (C.gd t) C.n (C.kk t) F) (hc : Chg w w' (fun b => b = C.gr t ∨ b = C.gd t)) : Gs w' C (fun s => if s = t then F else H s) := fun s hs => by
 show Grid _ _ _ _ _ _ (if s = t then F else H s)
 by_cases e : s = t
 ·subst e
  rw [if_pos rfl]; exact g
 ·rw [if_neg e]
  have hne := K.ne s t hs ht e
  obtain ⟨c1, b1⟩ := (G s hs).blk
  obtain ⟨_, _, c2, b2⟩ := (G s hs).dat (hp s hs) hn
  obtain ⟨c3, b3⟩ := (G t ht).blk
  obtain ⟨_, _, c4, b4⟩ := (G t ht).dat (hp t ht) hn
  refine (G s hs).chg hc ?_ (fun _ _ => ?_)
  ·rintro (e1 | e1)
   ·exact hne.1 e1
   ·exact qdj b1 b4 (by decide) e1
  ·rintro (e1 | e1)
   ·exact qdj b3 b2 (by decide) e1.symm
   ·exact hne.2 e1
theorem Gs.congr {w : World} {C : Cfg} {H H' : Nat → Nat → Nat → Nat} (G : Gs w C H) (e : ∀ t, t ≤ C.m → ∀ i l, i < C.n → l < C.kk t → H t i l = H' t i l) : Gs w C H' := fun t ht => (G t ht).congr (e t ht)
theorem Chg.one {w w' : World} {C : Cfg} {t : Nat} (ht : t ≤ C.m) (hc : Chg w w' (fun b => b = C.gr t ∨ b = C.gd t)) : Chg w w' C.S := hc.mono (fun _ hk => ⟨t, ht, hk⟩)
theorem onto_swp (w : World) (C : Cfg) (pv : Value) (top : Nat) (p : Nat → Nat) (H : Nat → Nat → Nat → Nat) (K : C.Ok) (hp : ∀ t, t ≤ C.m → 0 < C.kk t) (hn : 0 < C.n) (X : Fix w C pv top p) (G : Gs w C H) (i j gi gj : Nat) (hi : i < C.n) (hj : j < C.n) (hl_gi : ∀ t, t ≤ C.m → C.gr t < gi ∧ C.gd t < gi) (hl_gj : ∀ t, t ≤ C.m → C.gr t < gj ∧ C.gd t < gj) (v_gi : V1 w gi (.int .i64 (i : Int)) 3) (v_gj : V1 w gj (.int .i64 (j : Int)) 3) :
  Calls Tryz.prog 124 #[.func (.func 125) #[] #[.pointer (some ⟨gj, 0, none⟩), .pointer (some ⟨gi, 0, none⟩)], .pointer (some ⟨C.gv, 0, none⟩)] w fun e w' => e = .returned (.tuple #[]) ∧ Fix w' C pv top p ∧ Gs w' C (fun t => swp (H t) i j) ∧ Chg w w' C.S := by
 have HK : Hid C.Ok := K
 have HP : Hid (∀ t, t ≤ C.m → 0 < C.kk t) := hp
 have HX : Hid (Fix w C pv top p) := X
 have HG : Hid (Gs w C H) := G
 have HS_gi : Hid (¬ C.S gi) := by
  rintro ⟨s, hs, e⟩
  have h1 := (G s hs).lt
  have h2 := ((G s hs).dat (hp s hs) hn).2.1
  have := hl_gi s hs
  omega
 have HS_gj : Hid (¬ C.S gj) := by
  rintro ⟨s, hs, e⟩
  have h1 := (G s hs).lt
  have h2 := ((G s hs).dat (hp s hs) hn).2.1
  have := hl_gj s hs
  omega
 have cv := X.lv.cell
 have hm1 := K.m1
 clear K hp X G
 go_enter Tryz.func124, Tryz.ntmps124
 go_wp2
 go_loopw [7] (fun si wr => ∃ i9 : Nat, i9 ≤ C.m + 1 ∧ si = .int .i64 (i9 : Int) ∧ Hid (Chg w wr C.S) ∧ Hid (Gs wr C (fun t => if t < i9 then swp (H t) i j else H t))) (fun si _ => C.m + 1 - (intOf si).toNat)
 case atStart => exact ⟨0, by omega, rfl, Chg.refl _ _, HG.out.congr (fun t _ i l _ _ => by rw [if_neg (by omega)])⟩
 case round =>
  obtain ⟨i0, hi0, rfl, HC, HGr⟩ := hrel
  by_cases hlt : i0 < C.m + 1
  ·have cl := (HX.out.chg HG.out HP.out hn HC.out).lst (t := i0) (by omega)
   have hk6 := HK.out.k6 i0 (by omega)
   have hkp := HP.out i0 (by omega)
   have HGi : Hid (Grid wr C.B (C.gr i0) (C.gd i0) C.n (C.kk i0) (H i0)) := by
    have h9 := HGr.out i0 (by omega)
    dsimp only at h9
    rw [if_neg (by omega)] at h9
    exact h9
   have c_gi := (v_gi.chg HC.out HS_gi.out).cell
   have n_gi : gi ≠ C.gd i0 := fun e => HS_gi.out ⟨i0, by omega, .inr e⟩
   have m_gi : C.gr i0 ≠ gi := fun e => HS_gi.out ⟨i0, by omega, .inl e.symm⟩
   have c_gj := (v_gj.chg HC.out HS_gj.out).cell
   have n_gj : gj ≠ C.gd i0 := fun e => HS_gj.out ⟨i0, by omega, .inr e⟩
   have m_gj : C.gr i0 ≠ gj := fun e => HS_gj.out ⟨i0, by omega, .inl e.symm⟩
   go_wp2_with (go_at_call 125; refine (exch_do _ C.B (C.gr i0) (C.gd i0) C.n (C.kk i0) i j gi gj _ HGi.out hi hj m_gj c_gi c_gj).mono ?_; rintro e w1 ⟨rfl, hg1, hc1⟩; have HG1 : Hid (Grid w1 C.B (C.gr i0) (C.gd i0) C.n (C.kk i0) (swp (H i0) i j)) := hg1; have HC1 : Hid (Chg wr w1 (fun b => b = C.gr i0 ∨ b = C.gd i0)) := hc1; clear hg1 hc1)
   refine ⟨⟨i0 + 1, by omega, by go_num, HC.out.trans (Chg.one (by omega) HC1.out), (Gs.step HK.out HP.out hn HGr.out (by omega) HG1.out HC1.out).congr (fun t ht i l _ _ => ?_)⟩, by simp [intOf]; omega⟩
   by_cases e : t = i0
   ·subst e
    rw [if_pos rfl, if_pos (by omega)]
   ·rw [if_neg e]
    by_cases h : t < i0
    ·rw [if_pos h, if_pos (by omega)]
    ·rw [if_neg h, if_neg (by omega)]
  ·obtain rfl : i0 = C.m + 1 := by omega
   go_wp2
   go_end0
   exact ⟨rfl, HX.out.chg HG.out HP.out hn HC.out, HGr.out.congr (fun t ht i l _ _ => by rw [if_pos (by omega)]), HC.out⟩
theorem qik (w : World) (C : Cfg) (pv : Value) (top : Nat) (p : Nat → Nat) (H : Nat → Nat → Nat → Nat) (K : C.Ok) (hp : ∀ t, t ≤ C.m → 0 < C.kk t) (hn : 0 < C.n) (X : Fix w C pv top p) (G : Gs w C H) (i c gi gc : Nat) (hi : i < C.n) (hc : c < 256) (hl_gi : ∀ t, t ≤ C.m → C.gr t < gi ∧ C.gd t < gi) (hl_gc : ∀ t, t ≤ C.m → C.gr t < gc ∧ C.gd t < gc) (v_gi : V1 w gi (.int .i64 (i : Int)) 3) (v_gc : V1 w gc (.int .u8 (c : Int)) 5) :
  Calls Tryz.prog 124 #[.func (.func 127) #[] #[.pointer (some ⟨gi, 0, none⟩), .pointer (some ⟨gc, 0, none⟩)], .pointer (some ⟨C.gv, 0, none⟩)] w fun e w' => e = .returned (.tuple #[]) ∧ Fix w' C pv top p ∧ Gs w' C (fun t => mu1 (H t) i c) ∧ Chg w w' C.S := by
 have HK : Hid C.Ok := K
 have HP : Hid (∀ t, t ≤ C.m → 0 < C.kk t) := hp
 have HX : Hid (Fix w C pv top p) := X
 have HG : Hid (Gs w C H) := G
 have HS_gi : Hid (¬ C.S gi) := by
  rintro ⟨s, hs, e⟩
  have h1 := (G s hs).lt
  have h2 := ((G s hs).dat (hp s hs) hn).2.1
  have := hl_gi s hs
  omega
 have HS_gc : Hid (¬ C.S gc) := by
  rintro ⟨s, hs, e⟩
  have h1 := (G s hs).lt
  have h2 := ((G s hs).dat (hp s hs) hn).2.1
  have := hl_gc s hs
  omega
 have cv := X.lv.cell
 have hm1 := K.m1
 clear K hp X G
 go_enter Tryz.func124, Tryz.ntmps124
 go_wp2
 go_loopw [7] (fun si wr => ∃ i9 : Nat, i9 ≤ C.m + 1 ∧ si = .int .i64 (i9 : Int) ∧ Hid (Chg w wr C.S) ∧ Hid (Gs wr C (fun t => if t < i9 then mu1 (H t) i c else H t))) (fun si _ => C.m + 1 - (intOf si).toNat)
 case atStart => exact ⟨0, by omega, rfl, Chg.refl _ _, HG.out.congr (fun t _ i l _ _ => by rw [if_neg (by omega)])⟩
 case round =>
  obtain ⟨i0, hi0, rfl, HC, HGr⟩ := hrel
  by_cases hlt : i0 < C.m + 1
  ·have cl := (HX.out.chg HG.out HP.out hn HC.out).lst (t := i0) (by omega)
   have hk6 := HK.out.k6 i0 (by omega)
   have hkp := HP.out i0 (by omega)
   have HGi : Hid (Grid wr C.B (C.gr i0) (C.gd i0) C.n (C.kk i0) (H i0)) := by
    have h9 := HGr.out i0 (by omega)
    dsimp only at h9
    rw [if_neg (by omega)] at h9
    exact h9
   have c_gi := (v_gi.chg HC.out HS_gi.out).cell
   have n_gi : gi ≠ C.gd i0 := fun e => HS_gi.out ⟨i0, by omega, .inr e⟩
   have m_gi : C.gr i0 ≠ gi := fun e => HS_gi.out ⟨i0, by omega, .inl e.symm⟩
   have c_gc := (v_gc.chg HC.out HS_gc.out).cell
   have n_gc : gc ≠ C.gd i0 := fun e => HS_gc.out ⟨i0, by omega, .inr e⟩
   have m_gc : C.gr i0 ≠ gc := fun e => HS_gc.out ⟨i0, by omega, .inl e.symm⟩
   go_wp2_with (go_at_call 127; refine (mult_do _ C.B (C.gr i0) (C.gd i0) C.n (C.kk i0) i c gi gc _ HGi.out hkp hk6 hi hc n_gi n_gc c_gi c_gc).mono ?_; rintro e w1 ⟨rfl, hg1, hc1⟩; have HG1 : Hid (Grid w1 C.B (C.gr i0) (C.gd i0) C.n (C.kk i0) (mu1 (H i0) i c)) := hg1; have HC1 : Hid (Chg wr w1 (fun b => b = C.gr i0 ∨ b = C.gd i0)) := hc1; clear hg1 hc1)
   refine ⟨⟨i0 + 1, by omega, by go_num, HC.out.trans (Chg.one (by omega) HC1.out), (Gs.step HK.out HP.out hn HGr.out (by omega) HG1.out HC1.out).congr (fun t ht i l _ _ => ?_)⟩, by simp [intOf]; omega⟩
   by_cases e : t = i0
   ·subst e
    rw [if_pos rfl, if_pos (by omega)]
   ·rw [if_neg e]
    by_cases h : t < i0
    ·rw [if_pos h, if_pos (by omega)]
    ·rw [if_neg h, if_neg (by omega)]
  ·obtain rfl : i0 = C.m + 1 := by omega
   go_wp2
   go_end0
   exact ⟨rfl, HX.out.chg HG.out HP.out hn HC.out, HGr.out.congr (fun t ht i l _ _ => by rw [if_pos (by omega)]), HC.out⟩
theorem onto_put (w : World) (C : Cfg) (pv : Value) (top : Nat) (p : Nat → Nat) (H : Nat → Nat → Nat → Nat) (K : C.Ok) (hp : ∀ t, t ≤ C.m → 0 < C.kk t) (hn : 0 < C.n) (X : Fix w C pv top p) (G : Gs w C H) (i c j gi gc gj : Nat) (hi : i < C.n) (hj : j < C.n) (hc : c < 256) (hl_gi : ∀ t, t ≤ C.m → C.gr t < gi ∧ C.gd t < gi) (hl_gc : ∀ t, t ≤ C.m → C.gr t < gc ∧ C.gd t < gc) (hl_gj : ∀ t, t ≤ C.m → C.gr t < gj ∧ C.gd t < gj) (v_gi : V1 w gi (.int .i64 (i : Int)) 3) (v_gc : V1 w gc (.int .u8 (c : Int)) 5) (v_gj : V1 w gj (.int .i64 (j : Int)) 3) :
  Calls Tryz.prog 124 #[.func (.func 140) #[] #[.pointer (some ⟨gi, 0, none⟩), .pointer (some ⟨gc, 0, none⟩), .pointer (some ⟨gj, 0, none⟩)], .pointer (some ⟨C.gv, 0, none⟩)] w fun e w' => e = .returned (.tuple #[]) ∧ Fix w' C pv top p ∧ Gs w' C (fun t => ad1 (H t) i c j) ∧ Chg w w' C.S := by
 have HK : Hid C.Ok := K
 have HP : Hid (∀ t, t ≤ C.m → 0 < C.kk t) := hp
 have HX : Hid (Fix w C pv top p) := X
 have HG : Hid (Gs w C H) := G
 have HS_gi : Hid (¬ C.S gi) := by
  rintro ⟨s, hs, e⟩
  have h1 := (G s hs).lt
  have h2 := ((G s hs).dat (hp s hs) hn).2.1
  have := hl_gi s hs
  omega
 have HS_gc : Hid (¬ C.S gc) := by
  rintro ⟨s, hs, e⟩
  have h1 := (G s hs).lt
  have h2 := ((G s hs).dat (hp s hs) hn).2.1
  have := hl_gc s hs
  omega
 have HS_gj : Hid (¬ C.S gj) := by
  rintro ⟨s, hs, e⟩
  have h1 := (G s hs).lt
  have h2 := ((G s hs).dat (hp s hs) hn).2.1
  have := hl_gj s hs
  omega
 have cv := X.lv.cell
 have hm1 := K.m1
 clear K hp X G
 go_enter Tryz.func124, Tryz.ntmps124
 go_wp2
 go_loopw [7] (fun si wr => ∃ i9 : Nat, i9 ≤ C.m + 1 ∧ si = .int .i64 (i9 : Int) ∧ Hid (Chg w wr C.S) ∧ Hid (Gs wr C (fun t => if t < i9 then ad1 (H t) i c j else H t))) (fun si _ => C.m + 1 - (intOf si).toNat)
 case atStart => exact ⟨0, by omega, rfl, Chg.refl _ _, HG.out.congr (fun t _ i l _ _ => by rw [if_neg (by omega)])⟩
 case round =>
  obtain ⟨i0, hi0, rfl, HC, HGr⟩ := hrel
  by_cases hlt : i0 < C.m + 1
  ·have cl := (HX.out.chg HG.out HP.out hn HC.out).lst (t := i0) (by omega)
   have hk6 := HK.out.k6 i0 (by omega)
   have hkp := HP.out i0 (by omega)
   have HGi : Hid (Grid wr C.B (C.gr i0) (C.gd i0) C.n (C.kk i0) (H i0)) := by
    have h9 := HGr.out i0 (by omega)
    dsimp only at h9
    rw [if_neg (by omega)] at h9
    exact h9
   have c_gi := (v_gi.chg HC.out HS_gi.out).cell
   have n_gi : gi ≠ C.gd i0 := fun e => HS_gi.out ⟨i0, by omega, .inr e⟩
   have m_gi : C.gr i0 ≠ gi := fun e => HS_gi.out ⟨i0, by omega, .inl e.symm⟩
   have c_gc := (v_gc.chg HC.out HS_gc.out).cell
   have n_gc : gc ≠ C.gd i0 := fun e => HS_gc.out ⟨i0, by omega, .inr e⟩
   have m_gc : C.gr i0 ≠ gc := fun e => HS_gc.out ⟨i0, by omega, .inl e.symm⟩
   have c_gj := (v_gj.chg HC.out HS_gj.out).cell
   have n_gj : gj ≠ C.gd i0 := fun e => HS_gj.out ⟨i0, by omega, .inr e⟩
   have m_gj : C.gr i0 ≠ gj := fun e => HS_gj.out ⟨i0, by omega, .inl e.symm⟩
   go_wp2_with (go_at_call 140; refine (put_do _ C.B (C.gr i0) (C.gd i0) C.n (C.kk i0) i j c gi gc gj _ HGi.out hkp hk6 hi hj hc c_gi c_gc c_gj).mono ?_; rintro e w1 ⟨rfl, hg1, hc1⟩; have HG1 : Hid (Grid w1 C.B (C.gr i0) (C.gd i0) C.n (C.kk i0) (ad1 (H i0) i c j)) := hg1; have HC1 : Hid (Chg wr w1 (fun b => b = C.gr i0 ∨ b = C.gd i0)) := hc1; clear hg1 hc1)
   refine ⟨⟨i0 + 1, by omega, by go_num, HC.out.trans (Chg.one (by omega) HC1.out), (Gs.step HK.out HP.out hn HGr.out (by omega) HG1.out HC1.out).congr (fun t ht i l _ _ => ?_)⟩, by simp [intOf]; omega⟩
   by_cases e : t = i0
   ·subst e
    rw [if_pos rfl, if_pos (by omega)]
   ·rw [if_neg e]
    by_cases h : t < i0
    ·rw [if_pos h, if_pos (by omega)]
    ·rw [if_neg h, if_neg (by omega)]
  ·obtain rfl : i0 = C.m + 1 := by omega
   go_wp2
   go_end0
   exact ⟨rfl, HX.out.chg HG.out HP.out hn HC.out, HGr.out.congr (fun t ht i l _ _ => by rw [if_pos (by omega)]), HC.out⟩
open Go.RowKit
/-- What nextPivot finds from column j0 on: a pivot in row i and column j, or none, j being past the last. -/
structure Nxt (M : Nat → Nat → Nat) (n c top j0 i j : Nat) : Prop where
 jl : j0 ≤ j
 jc : j ≤ c
 zero : ∀ t l, top ≤ t → t < n → j0 ≤ l → l < j → M t l = 0
 piv : j < c → top ≤ i ∧ i < n ∧ M i j ≠ 0
theorem qda (w : World) (C : Cfg) (ps : Option Addr) (pd top j0 : Nat) (p : Nat → Nat) (H : Nat → Nat → Nat → Nat) (K : C.Ok) (X : Fix w C (.slice ps top pd) top p) (G : Gs w C H) (ht : top ≤ C.n) (hj : j0 ≤ C.c) :
  Calls Tryz.prog 107 #[.pointer (some ⟨C.g, 0, none⟩), .int .i64 (j0 : Int)] w fun e w' => ∃ i j : Nat, e = .returned (.tuple #[.int .i64 (i : Int), .int .i64 (j : Int)]) ∧ Nxt (H C.m) C.n C.c top j0 i j ∧ Below w.heap.size w w' := by
 have HK : Hid C.Ok := K
 have HX : Hid (Fix w C (.slice ps top pd) top p) := X
 have HG : Hid (Gs w C H) := G
 have hn64 := K.n64
 have hc64 := K.c64
 obtain ⟨M, HM⟩ : ∃ M, Hid (H C.m = M) := ⟨_, rfl⟩
 rw [HM.out]
 clear K X G
 go_enter Tryz.func107, Tryz.ntmps107
 go_wp2
 go_step3
 go_wp2
 go_step3
 go_wp2
 go_loop [4, 5] (fun si sj => ∃ i j : Nat, si = .int .i64 (i : Int) ∧ sj = .int .i64 (j : Int) ∧ j0 ≤ j ∧ j ≤ C.c ∧ Hid (∀ t l, top ≤ t → t < C.n → j0 ≤ l → l < j → M t l = 0)) (fun _ sj => C.c - (intOf sj).toNat)
 case atStart => exact ⟨0, j0, rfl, rfl, Nat.le_refl _, hj, fun t l _ _ h1 h2 => by omega⟩
 case round =>
  obtain ⟨i1, j, rfl, rfl, hj0, hjc, HZ⟩ := hrel
  have c1 := HX.out.c1
  have c2 := HX.out.c2
  by_cases hlt : j < C.c
  ·have hjd : decide (j < C.c) = true := by simpa using hlt
   go_wp2
   go_loop [4] (fun si => ∃ i : Nat, si = .int .i64 (i : Int) ∧ top ≤ i ∧ i ≤ C.n ∧ Hid (∀ t, top ≤ t → t < i → M t j = 0)) (fun si => C.n - (intOf si).toNat)
   case atStart => exact ⟨top, rfl, Nat.le_refl _, ht, fun t h1 h2 => by omega⟩
   case round =>
    obtain ⟨i, rfl, hi0, hin, HY⟩ := hrel
    have c0 := HX.out.c0
    by_cases hi : i < C.n
    ·obtain ⟨a, ca, hs, _⟩ := (HG.out C.m (Nat.le_refl _)).row hi
     rw [HK.out.lk, HM.out] at hs
     rw [HK.out.lk] at ca
     obtain ⟨b, o, rfl, cb⟩ := hs.2 j hlt
     have hb := hs.1 j hlt
     obtain ⟨y, HYY⟩ : ∃ y, Hid (M i j = y) := ⟨_, rfl⟩
     rw [HYY.out] at cb hb
     have hjs : (j : Int) < (C.c : Int) := by omega
     clear hs
     by_cases hy : y = 0
     ·subst hy
      go_wp2
      exact ⟨⟨i + 1, by go_num, by omega, by omega, fun t h1 h2 => by
       by_cases e : t = i
       ·rw [e]; exact HYY.out
       ·exact HY.out t h1 (by omega)⟩, by simp [intOf]; omega⟩
     ·have hyb : ((y : Int) == 0) = false := by simpa using hy
      go_wp2
      try rw [Exit.noGoto_ret]
      go_ret2
      exact ⟨i, j, rfl, ⟨hj0, hjc, HZ.out, fun _ => ⟨hi0, hi, by rw [HYY.out]; exact hy⟩⟩, Below.refl _ _⟩
    ·obtain rfl : i = C.n := by omega
     go_wp2
     exact ⟨⟨C.n, j + 1, rfl, by go_num, by omega, by omega, fun t l h1 h2 h3 h4 => by
      by_cases e : l = j
      ·rw [e]; exact HY.out t h1 h2
      ·exact HZ.out t l h1 h2 h3 (by omega)⟩, by simp [intOf]; omega⟩
  ·have hje : C.c = j := by omega
   have HJE : Hid (C.c = j) := hje
   have hjd : decide (j < C.c) = false := by simp; omega
   clear hje
   go_wp2
   try rw [Exit.noGoto_ret]
   go_ret2
   exact ⟨i1, j, rfl, ⟨hj0, hjc, HZ.out, fun h => by have := HJE.out; omega⟩, Below.refl _ _⟩
open Go.RowKit
/-- The part of the whole that list t holds. -/
def Cfg.H (C : Cfg) (J : Nat → Nat → Nat) (t i l : Nat) : Nat := J i (C.o t + l)
theorem qg8 {w : World} {C : Cfg} {H : Nat → Nat → Nat → Nat} (G : Gs w C H) (hp : ∀ t, t ≤ C.m → 0 < C.kk t) (hn : 0 < C.n) {x : Nat} (h : w.heap.size ≤ x) : ∀ t, t ≤ C.m → C.gr t < x ∧ C.gd t < x := fun t ht => ⟨by have := (G t ht).lt; omega, by have := ((G t ht).dat (hp t ht) hn).2.1; omega⟩
theorem Gs.J {w : World} {C : Cfg} {J N : Nat → Nat → Nat} (G : Gs w C (C.H J)) (e : ∀ i l, J i l = N i l) : Gs w C (C.H N) := G.congr (fun _ _ _ _ _ _ => e _ _)
theorem qcg (w : World) (C : Cfg) (ps : Option Addr) (pd top q a b : Nat) (p : Nat → Nat) (J : Nat → Nat → Nat) (K : C.Ok) (hp : ∀ t, t ≤ C.m → 0 < C.kk t) (hn : 0 < C.n) (X : Fix w C (.slice ps top pd) top p) (G : Gs w C (C.H J)) (hq : q < top) (htn : top ≤ C.n) (hab : a ≤ b) (hb : b ≤ C.n) (hout : ¬ (a ≤ q ∧ q < b)) (hpc : p q < C.c) :
  Calls Tryz.prog 111 #[.pointer (some ⟨C.g, 0, none⟩), .int .i64 (q : Int), .int .i64 (a : Int), .int .i64 (b : Int)] w fun e w' => e = .returned (.tuple #[]) ∧ Fix w' C (.slice ps top pd) top p ∧ Gs w' C (C.H (clu J q (p q) a b)) ∧ Chg w w' C.S := by
 have HK : Hid C.Ok := K
 have HP : Hid (∀ t, t ≤ C.m → 0 < C.kk t) := hp
 have HX : Hid (Fix w C (.slice ps top pd) top p) := X
 have HG : Hid (Gs w C (C.H J)) := G
 have hn64 := K.n64
 have hc64 := K.c64
 obtain ⟨j, HJ⟩ : ∃ j, Hid (p q = j) := ⟨_, rfl⟩
 rw [HJ.out] at hpc
 rw [HJ.out]
 have c2 := X.c2
 obtain ⟨bp, op, eps, cp⟩ := X.piv.il q hq
 dsimp only at cp
 rw [HJ.out] at cp
 have HEP : Hid (ps = some ⟨bp, op, none⟩) := eps
 rw [eps] at c2
 clear K hp X G eps
 go_enter Tryz.func111, Tryz.ntmps111
 go_wp2
 go_loopw [9] (fun si wr => ∃ i : Nat, si = .int .i64 (i : Int) ∧ a ≤ i ∧ i ≤ b ∧ Hid (Fix wr C (.slice ps top pd) top p) ∧ Hid (Gs wr C (C.H (clu J q j a i))) ∧ Hid (Chg w wr C.S)) (fun si _ => b - (intOf si).toNat)
 case atStart => exact ⟨a, rfl, Nat.le_refl _, hab, HX.out, HG.out.J (fun i l => (clu_none J q j a i l).symm), Chg.refl _ _⟩
 case round =>
  clear HX HG c2 cp
  obtain ⟨i, rfl, hai, hib, HX, HG, HC⟩ := hrel
  by_cases hlt : i < b
  ·have hin : i < C.n := by omega
   have c0 := HX.out.c0
   have c3 := HX.out.c3
   obtain ⟨x, ca, hs, _⟩ := (HG.out C.m (Nat.le_refl _)).row hin
   rw [HK.out.lk] at hs ca
   obtain ⟨bb, o, rfl, cb⟩ := hs.2 j hpc
   have hy := hs.1 j hpc
   obtain ⟨y, HYY⟩ : ∃ y, Hid (J i j = y) := ⟨_, rfl⟩
   have ey : C.H (clu J q j a i) C.m i j = y := by
    show clu J q j a i i (C.o C.m + j) = y
    rw [HK.out.lo, Nat.zero_add, qb5 J j (by omega)]
    exact HYY.out
   rw [ey] at cb hy
   have hjs : (j : Int) < (C.c : Int) := by omega
   clear hs ey
   by_cases hy0 : y = 0
   ·subst hy0
    go_wp2
    exact ⟨⟨i + 1, by go_num, by omega, by omega, HX.out, HG.out.J (clu_same J hai HYY.out), HC.out⟩, by simp [intOf]; omega⟩
   ·have hyb : ((y : Int) == 0) = false := by simpa using hy0
    go_wp2_with fail
    refine wp_region_held (S := fun w' => w'.cell? ⟨C.g, 3, none⟩ = some (.func (.func 124) #[] #[.pointer (some ⟨C.gv, 0, none⟩)])) (by kernel_rfl) ?_
    refine wtkq 0 ?vca0 rfl (by kernel_rfl) (fun _ _ _ h => h) (by rfl) ?yca0 c3 ?zca0
    case yca0 => (intro w hSw; (try dsimp only at hSw); go_simp; try with_reducible rfl)
    try simp only [mz1, mz3, Act.put, mz4, mz5, mz6]
    refine wtkq 1 ?vca1 rfl (by kernel_rfl) (fun _ _ _ h => h) (by rfl) ?yca1 c3 ?zca1
    case yca1 => (intro w hSw; (try dsimp only at hSw); go_simp; try with_reducible rfl)
    try simp only [mz1, mz2, mz3, Act.put, mz4, mz5, mz6]
    refine wtkq 2 ?vca2 rfl (by kernel_rfl) (fun _ _ _ h => h) (by rfl) ?yca2 c3 ?zca2
    case yca2 => (intro w hSw; (try dsimp only at hSw); go_simp; try with_reducible rfl)
    try simp only [mz1, mz2, mz3, Act.put, mz4, mz5, mz6]
    refine wtkq 3 ?vca3 rfl (by kernel_rfl) (fun _ _ _ h => h) (by rfl) ?yca3 c3 ?zca3
    case yca3 => (intro w hSw; (try dsimp only at hSw); go_simp; try with_reducible rfl)
    try simp only [mz1, mz2, mz3, Act.put, mz4, mz5, mz6]
    refine wtkq 4 ?vca4 rfl (by kernel_rfl) (fun _ _ _ h => h) (by rfl) ?yca4 c3 ?zca4
    case yca4 => (intro w hSw; (try dsimp only at hSw); go_simp; try with_reducible rfl)
    try simp only [mz1, mz2, mz3, Act.put, mz4, mz5, mz6]
    refine wtkq 5 ?vca5 rfl (by kernel_rfl) (fun _ _ _ h => h) (by rfl) ?yca5 c3 ?zca5
    case yca5 => (intro w hSw; (try dsimp only at hSw); go_simp; try with_reducible rfl)
    try simp only [mz1, mz2, mz3, Act.put, mz4, mz5, mz6]
    refine wtkq 6 ?vca6 rfl (by kernel_rfl) (fun _ _ _ h => h) (by rfl) ?yca6 c3 ?zca6
    case yca6 => (intro w hSw; (try dsimp only at hSw); go_simp; try with_reducible rfl)
    try simp only [mz1, mz2, mz3, Act.put, mz4, mz5, mz6]
    refine wpAnyH_ready (rs := [7]) (by kernel_rfl) (by simp) ?_
    refine AllReadyH.cons rfl (fun K hK => ?_) AllReadyH.nil
    go_simp
    refine (put_mk _ i y q).mono ?_
    rintro e w1 ⟨gi, gc, gj, rfl, v1, v2, v3, l1, l2, l3, hb0⟩
    have hb1 := undrew hb0
    have HB1 : Hid (Below wr.heap.size wr w1) := hb1
    have HXb : Hid (Fix w1 C (.slice ps top pd) top p) := HX.out.later hb1
    have HV : Hid (V1 w1 gi (.int .i64 (i : Int)) 3 ∧ V1 w1 gc (.int .u8 (y : Int)) 5 ∧ V1 w1 gj (.int .i64 (q : Int)) 3) := ⟨v1, v2, v3⟩
    clear v1 v2 v3 hb0 hb1
    have HD1 : Hid (w1.cell? ⟨C.g, 3, none⟩ = some (.func (.func 124) #[] #[.pointer (some ⟨C.gv, 0, none⟩)])) := (HXb.out).c3
    refine hK.out _ _ HD1.out (fun _ => ?_)
    clear hK K
    try simp only [mz1, mz2, mz3, Act.put, mz4, mz5, mz6]
    refine wpAnyH_ready (rs := [8]) (by kernel_rfl) (by simp) ?_
    refine AllReadyH.cons rfl (fun K hK => ?_) AllReadyH.nil
    go_simp
    refine (onto_put _ C _ top p _ HK.out HP.out hn HXb.out (HG.out.later HB1.out) i y q gi gc gj hin (by omega) hy (qg8 HG.out HP.out hn l1) (qg8 HG.out HP.out hn l2) (qg8 HG.out HP.out hn l3) HV.out.1 HV.out.2.1 HV.out.2.2).mono ?_
    rintro e w2 ⟨rfl, hx2, hg2, hc2⟩
    have HX2 : Hid (Fix w2 C (.slice ps top pd) top p) := hx2
    have HG2 : Hid (Gs w2 C (C.H (clu J q j a (i + 1)))) := hg2.congr (fun t _ i' l _ _ => by rw [show C.H (clu J q j a (i + 1)) t i' l = clu J q j a (i + 1) i' (C.o t + l) from rfl, ← clu_step J hai (by omega), HYY.out]; rfl)
    have HC2 : Hid (Chg w w2 C.S) := (HC.out.trans (Chg.of_below HB1.out)).trans hc2
    clear hx2 hg2 hc2
    have HD2 : Hid (w2.cell? ⟨C.g, 3, none⟩ = some (.func (.func 124) #[] #[.pointer (some ⟨C.gv, 0, none⟩)])) := HX2.out.c3
    refine hK.out _ _ HD2.out (fun _ => ?_)
    clear hK K
    try simp only [mz1, mz2, mz3, Act.put, mz4, mz5, mz6]
    refine wpAnyH_done (by kernel_rfl) ?_ _
    go_wp2
    exact ⟨⟨i + 1, by go_num, by omega, by omega, HX2.out, HG2.out, HC2.out⟩, by simp [intOf]; omega⟩
  ·obtain rfl : i = b := by omega
   go_wp2
   go_end0
   exact ⟨rfl, HX.out, HG.out, HC.out⟩
end Go.Proofs.YtblagbghpfopcaaGreat
