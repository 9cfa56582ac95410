/-
  The next pivot.
  A column is cleared.
-/
import Derived.Test.YtokdejhbjoglcaaQffal00
import Derived.Test.YtokdejhbjoglcaaQffal33
set_option maxRecDepth 100000
set_option maxHeartbeats 16000000
namespace Go.Proofs.Ytokdejhbjoglcaa
open Go.RowKit
/-- What nextPivot finds from column j0 on: a pivot in row i and column j, or none, j being past the last. -/
structure Nxt (M : Nat → Nat → Nat) (n c top j0 i j : Nat) : Prop where
 jl : j0 ≤ j
 jc : j ≤ c
 zero : ∀ t l, top ≤ t → t < n → j0 ≤ l → l < j → M t l = 0
 piv : j < c → top ≤ i ∧ i < n ∧ M i j ≠ 0
theorem qcn (w : World) (C : Cfg) (ps : Option Addr) (pd top j0 : Nat) (p : Nat → Nat) (H : Nat → Nat → Nat → Nat) (K : C.Ok) (X : Fix w C (.slice ps top pd) top p) (G : Gs w C H) (ht : top ≤ C.n) (hj : j0 ≤ C.c) :
  Calls Try.prog 85 #[.pointer (some ⟨C.g, 0, none⟩), .int .i64 (j0 : Int)] w fun e w' => ∃ i j : Nat, e = .returned (.tuple #[.int .i64 (i : Int), .int .i64 (j : Int)]) ∧ Nxt (H C.m) C.n C.c top j0 i j ∧ Below w.heap.size w w' := by
 have HK : Hid C.Ok := K
 have HX : Hid (Fix w C (.slice ps top pd) top p) := X
 have HG : Hid (Gs w C H) := G
 have hn64 := K.n64
 have hc64 := K.c64
 obtain ⟨M, HM⟩ : ∃ M, Hid (H C.m = M) := ⟨_, rfl⟩
 rw [HM.out]
 clear K X G
 go_enter Try.func85, Try.ntmps85
 go_wp2
 go_step3
 go_wp2
 go_step3
 go_wp2
 go_loop [4, 5] (fun si sj => ∃ i j : Nat, si = .int .i64 (i : Int) ∧ sj = .int .i64 (j : Int) ∧ j0 ≤ j ∧ j ≤ C.c ∧ Hid (∀ t l, top ≤ t → t < C.n → j0 ≤ l → l < j → M t l = 0)) (fun _ sj => C.c - (intOf sj).toNat)
 case atStart => exact ⟨0, j0, rfl, rfl, Nat.le_refl _, hj, fun t l _ _ h1 h2 => by omega⟩
 case round =>
  obtain ⟨i1, j, rfl, rfl, hj0, hjc, HZ⟩ := hrel
  have c1 := HX.out.c1
  have c2 := HX.out.c2
  by_cases hlt : j < C.c
  ·have hjd : decide (j < C.c) = true := by simpa using hlt
   go_wp2
   go_loop [4] (fun si => ∃ i : Nat, si = .int .i64 (i : Int) ∧ top ≤ i ∧ i ≤ C.n ∧ Hid (∀ t, top ≤ t → t < i → M t j = 0)) (fun si => C.n - (intOf si).toNat)
   case atStart => exact ⟨top, rfl, Nat.le_refl _, ht, fun t h1 h2 => by omega⟩
   case round =>
    obtain ⟨i, rfl, hi0, hin, HY⟩ := hrel
    have c0 := HX.out.c0
    by_cases hi : i < C.n
    ·obtain ⟨a, ca, hs, _⟩ := (HG.out C.m (Nat.le_refl _)).row hi
     rw [HK.out.lk, HM.out] at hs
     rw [HK.out.lk] at ca
     obtain ⟨b, o, rfl, cb⟩ := hs.2 j hlt
     have hb := hs.1 j hlt
     obtain ⟨y, HYY⟩ : ∃ y, Hid (M i j = y) := ⟨_, rfl⟩
     rw [HYY.out] at cb hb
     have hjs : (j : Int) < (C.c : Int) := by omega
     clear hs
     by_cases hy : y = 0
     ·subst hy
      go_wp2
      exact ⟨⟨i + 1, by go_num, by omega, by omega, fun t h1 h2 => by
       by_cases e : t = i
       ·rw [e]; exact HYY.out
       ·exact HY.out t h1 (by omega)⟩, by simp [intOf]; omega⟩
     ·have hyb : ((y : Int) == 0) = false := by simpa using hy
      go_wp2
      try rw [Exit.noGoto_ret]
      go_ret2
      exact ⟨i, j, rfl, ⟨hj0, hjc, HZ.out, fun _ => ⟨hi0, hi, by rw [HYY.out]; exact hy⟩⟩, Below.refl _ _⟩
    ·obtain rfl : i = C.n := by omega
     go_wp2
     exact ⟨⟨C.n, j + 1, rfl, by go_num, by omega, by omega, fun t l h1 h2 h3 h4 => by
      by_cases e : l = j
      ·rw [e]; exact HY.out t h1 h2
      ·exact HZ.out t l h1 h2 h3 (by omega)⟩, by simp [intOf]; omega⟩
  ·have hje : C.c = j := by omega
   have HJE : Hid (C.c = j) := hje
   have hjd : decide (j < C.c) = false := by simp; omega
   clear hje
   go_wp2
   try rw [Exit.noGoto_ret]
   go_ret2
   exact ⟨i1, j, rfl, ⟨hj0, hjc, HZ.out, fun h => by have := HJE.out; omega⟩, Below.refl _ _⟩
open Go.RowKit
/-- The part of the whole that list t holds. -/
def Cfg.H (C : Cfg) (J : Nat → Nat → Nat) (t i l : Nat) : Nat := J i (C.o t + l)
theorem qeo {w : World} {C : Cfg} {H : Nat → Nat → Nat → Nat} (G : Gs w C H) (hp : ∀ t, t ≤ C.m → 0 < C.kk t) (hn : 0 < C.n) {x : Nat} (h : w.heap.size ≤ x) : ∀ t, t ≤ C.m → C.gr t < x ∧ C.gd t < x := fun t ht => ⟨by have := (G t ht).lt; omega, by have := ((G t ht).dat (hp t ht) hn).2.1; omega⟩
theorem Gs.J {w : World} {C : Cfg} {J N : Nat → Nat → Nat} (G : Gs w C (C.H J)) (e : ∀ i l, J i l = N i l) : Gs w C (C.H N) := G.congr (fun _ _ _ _ _ _ => e _ _)
theorem qbu (w : World) (C : Cfg) (ps : Option Addr) (pd top q a b : Nat) (p : Nat → Nat) (J : Nat → Nat → Nat) (K : C.Ok) (hp : ∀ t, t ≤ C.m → 0 < C.kk t) (hn : 0 < C.n) (X : Fix w C (.slice ps top pd) top p) (G : Gs w C (C.H J)) (hq : q < top) (htn : top ≤ C.n) (hab : a ≤ b) (hb : b ≤ C.n) (hout : ¬ (a ≤ q ∧ q < b)) (hpc : p q < C.c) :
  Calls Try.prog 89 #[.pointer (some ⟨C.g, 0, none⟩), .int .i64 (q : Int), .int .i64 (a : Int), .int .i64 (b : Int)] w fun e w' => e = .returned (.tuple #[]) ∧ Fix w' C (.slice ps top pd) top p ∧ Gs w' C (C.H (clu J q (p q) a b)) ∧ Chg w w' C.S := by
 have HK : Hid C.Ok := K
 have HP : Hid (∀ t, t ≤ C.m → 0 < C.kk t) := hp
 have HX : Hid (Fix w C (.slice ps top pd) top p) := X
 have HG : Hid (Gs w C (C.H J)) := G
 have hn64 := K.n64
 have hc64 := K.c64
 obtain ⟨j, HJ⟩ : ∃ j, Hid (p q = j) := ⟨_, rfl⟩
 rw [HJ.out] at hpc
 rw [HJ.out]
 have c2 := X.c2
 obtain ⟨bp, op, eps, cp⟩ := X.piv.il q hq
 dsimp only at cp
 rw [HJ.out] at cp
 have HEP : Hid (ps = some ⟨bp, op, none⟩) := eps
 rw [eps] at c2
 clear K hp X G eps
 go_enter Try.func89, Try.ntmps89
 go_wp2
 go_loopw [9] (fun si wr => ∃ i : Nat, si = .int .i64 (i : Int) ∧ a ≤ i ∧ i ≤ b ∧ Hid (Fix wr C (.slice ps top pd) top p) ∧ Hid (Gs wr C (C.H (clu J q j a i))) ∧ Hid (Chg w wr C.S)) (fun si _ => b - (intOf si).toNat)
 case atStart => exact ⟨a, rfl, Nat.le_refl _, hab, HX.out, HG.out.J (fun i l => (clu_none J q j a i l).symm), Chg.refl _ _⟩
 case round =>
  clear HX HG c2 cp
  obtain ⟨i, rfl, hai, hib, HX, HG, HC⟩ := hrel
  by_cases hlt : i < b
  ·have hin : i < C.n := by omega
   have c0 := HX.out.c0
   have c3 := HX.out.c3
   obtain ⟨x, ca, hs, _⟩ := (HG.out C.m (Nat.le_refl _)).row hin
   rw [HK.out.lk] at hs ca
   obtain ⟨bb, o, rfl, cb⟩ := hs.2 j hpc
   have hy := hs.1 j hpc
   obtain ⟨y, HYY⟩ : ∃ y, Hid (J i j = y) := ⟨_, rfl⟩
   have ey : C.H (clu J q j a i) C.m i j = y := by
    show clu J q j a i i (C.o C.m + j) = y
    rw [HK.out.lo, Nat.zero_add, qav J j (by omega)]
    exact HYY.out
   rw [ey] at cb hy
   have hjs : (j : Int) < (C.c : Int) := by omega
   clear hs ey
   by_cases hy0 : y = 0
   ·subst hy0
    go_wp2
    exact ⟨⟨i + 1, by go_num, by omega, by omega, HX.out, HG.out.J (clu_same J hai HYY.out), HC.out⟩, by simp [intOf]; omega⟩
   ·have hyb : ((y : Int) == 0) = false := by simpa using hy0
    go_wp2_with fail
    refine wp_region_held (S := fun w' => w'.cell? ⟨C.g, 3, none⟩ = some (.func (.func 94) #[] #[.pointer (some ⟨C.gv, 0, none⟩)])) (by kernel_rfl) ?_
    refine wtkq 0 ?vca0 rfl (by kernel_rfl) (fun _ _ _ h => h) (by rfl) ?yca0 c3 ?zca0
    case yca0 => (intro w hSw; (try dsimp only at hSw); go_simp; try with_reducible rfl)
    try simp only [mz1, mz3, Act.put, mz4, mz5, mz6]
    refine wtkq 1 ?vca1 rfl (by kernel_rfl) (fun _ _ _ h => h) (by rfl) ?yca1 c3 ?zca1
    case yca1 => (intro w hSw; (try dsimp only at hSw); go_simp; try with_reducible rfl)
    try simp only [mz1, mz2, mz3, Act.put, mz4, mz5, mz6]
    refine wtkq 2 ?vca2 rfl (by kernel_rfl) (fun _ _ _ h => h) (by rfl) ?yca2 c3 ?zca2
    case yca2 => (intro w hSw; (try dsimp only at hSw); go_simp; try with_reducible rfl)
    try simp only [mz1, mz2, mz3, Act.put, mz4, mz5, mz6]
    refine wtkq 3 ?vca3 rfl (by kernel_rfl) (fun _ _ _ h => h) (by rfl) ?yca3 c3 ?zca3
    case yca3 => (intro w hSw; (try dsimp only at hSw); go_simp; try with_reducible rfl)
    try simp only [mz1, mz2, mz3, Act.put, mz4, mz5, mz6]
    refine wtkq 4 ?vca4 rfl (by kernel_rfl) (fun _ _ _ h => h) (by rfl) ?yca4 c3 ?zca4
    case yca4 => (intro w hSw; (try dsimp only at hSw); go_simp; try with_reducible rfl)
    try simp only [mz1, mz2, mz3, Act.put, mz4, mz5, mz6]
    refine wtkq 5 ?vca5 rfl (by kernel_rfl) (fun _ _ _ h => h) (by rfl) ?yca5 c3 ?zca5
    case yca5 => (intro w hSw; (try dsimp only at hSw); go_simp; try with_reducible rfl)
    try simp only [mz1, mz2, mz3, Act.put, mz4, mz5, mz6]
    refine wtkq 6 ?vca6 rfl (by kernel_rfl) (fun _ _ _ h => h) (by rfl) ?yca6 c3 ?zca6
    case yca6 => (intro w hSw; (try dsimp only at hSw); go_simp; try with_reducible rfl)
    try simp only [mz1, mz2, mz3, Act.put, mz4, mz5, mz6]
    refine wpAnyH_ready (rs := [7]) (by kernel_rfl) (by simp) ?_
    refine AllReadyH.cons rfl (fun K hK => ?_) AllReadyH.nil
    go_simp
    refine (put_mk _ i y q).mono ?_
    rintro e w1 ⟨gi, gc, gj, rfl, v1, v2, v3, l1, l2, l3, hb0⟩
    have hb1 := undrew hb0
    have HB1 : Hid (Below wr.heap.size wr w1) := hb1
    have HXb : Hid (Fix w1 C (.slice ps top pd) top p) := HX.out.later hb1
    have HV : Hid (V1 w1 gi (.int .i64 (i : Int)) 3 ∧ V1 w1 gc (.int .u8 (y : Int)) 5 ∧ V1 w1 gj (.int .i64 (q : Int)) 3) := ⟨v1, v2, v3⟩
    clear v1 v2 v3 hb0 hb1
    have HD1 : Hid (w1.cell? ⟨C.g, 3, none⟩ = some (.func (.func 94) #[] #[.pointer (some ⟨C.gv, 0, none⟩)])) := (HXb.out).c3
    refine hK.out _ _ HD1.out (fun _ => ?_)
    clear hK K
    try simp only [mz1, mz2, mz3, Act.put, mz4, mz5, mz6]
    refine wpAnyH_ready (rs := [8]) (by kernel_rfl) (by simp) ?_
    refine AllReadyH.cons rfl (fun K hK => ?_) AllReadyH.nil
    go_simp
    refine (onto_put _ C _ top p _ HK.out HP.out hn HXb.out (HG.out.later HB1.out) i y q gi gc gj hin (by omega) hy (qeo HG.out HP.out hn l1) (qeo HG.out HP.out hn l2) (qeo HG.out HP.out hn l3) HV.out.1 HV.out.2.1 HV.out.2.2).mono ?_
    rintro e w2 ⟨rfl, hx2, hg2, hc2⟩
    have HX2 : Hid (Fix w2 C (.slice ps top pd) top p) := hx2
    have HG2 : Hid (Gs w2 C (C.H (clu J q j a (i + 1)))) := hg2.congr (fun t _ i' l _ _ => by rw [show C.H (clu J q j a (i + 1)) t i' l = clu J q j a (i + 1) i' (C.o t + l) from rfl, ← clu_step J hai (by omega), HYY.out]; rfl)
    have HC2 : Hid (Chg w w2 C.S) := (HC.out.trans (Chg.of_below HB1.out)).trans hc2
    clear hx2 hg2 hc2
    have HD2 : Hid (w2.cell? ⟨C.g, 3, none⟩ = some (.func (.func 94) #[] #[.pointer (some ⟨C.gv, 0, none⟩)])) := HX2.out.c3
    refine hK.out _ _ HD2.out (fun _ => ?_)
    clear hK K
    try simp only [mz1, mz2, mz3, Act.put, mz4, mz5, mz6]
    refine wpAnyH_done (by kernel_rfl) ?_ _
    go_wp2
    exact ⟨⟨i + 1, by go_num, by omega, by omega, HX2.out, HG2.out, HC2.out⟩, by simp [intOf]; omega⟩
  ·obtain rfl : i = b := by omega
   go_wp2
   go_end0
   exact ⟨rfl, HX.out, HG.out, HC.out⟩
end Go.Proofs.Ytokdejhbjoglcaa
