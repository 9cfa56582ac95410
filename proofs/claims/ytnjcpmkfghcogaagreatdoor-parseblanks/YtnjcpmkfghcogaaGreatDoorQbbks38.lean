/-
  Contracts of the program's token: the cutter's methods.
-/
import Derived.Test.YtnjcpmkfghcogaaGreatDoorQbbks00
import Derived.Test.YtnjcpmkfghcogaaGreatDoorQbbks01
import Derived.Test.YtnjcpmkfghcogaaGreatDoorQbbks37
import Derived.Deep.QuietTactic
import Derived.BigQuiet
set_option maxRecDepth 100000
set_option maxHeartbeats 16000000
namespace Go.Proofs.YtnjcpmkfghcogaaGreatDoor
open Go.RowKit
def Cu (w : World) (b : Nat) (s : ByteArray) (bg p ln fs : Nat) (v : Value) : Prop := Vn w b 134 #[.string s, .int .i64 (bg : Int), .int .i64 (p : Int), .int .i64 (ln : Int), .int .i64 (fs : Int), v]
theorem Cu.c0 {w : World} {b : Nat} {s : ByteArray} {bg p ln fs : Nat} {v : Value} (h : Cu w b s bg p ln fs v) : w.cell? ⟨b, 0, none⟩ = some (.string s) := Vn.cell h 0 _ rfl
theorem Cu.c1 {w : World} {b : Nat} {s : ByteArray} {bg p ln fs : Nat} {v : Value} (h : Cu w b s bg p ln fs v) : w.cell? ⟨b, 1, none⟩ = some (.int .i64 (bg : Int)) := Vn.cell h 1 _ rfl
theorem Cu.c2 {w : World} {b : Nat} {s : ByteArray} {bg p ln fs : Nat} {v : Value} (h : Cu w b s bg p ln fs v) : w.cell? ⟨b, 2, none⟩ = some (.int .i64 (p : Int)) := Vn.cell h 2 _ rfl
theorem Cu.c3 {w : World} {b : Nat} {s : ByteArray} {bg p ln fs : Nat} {v : Value} (h : Cu w b s bg p ln fs v) : w.cell? ⟨b, 3, none⟩ = some (.int .i64 (ln : Int)) := Vn.cell h 3 _ rfl
theorem Cu.c4 {w : World} {b : Nat} {s : ByteArray} {bg p ln fs : Nat} {v : Value} (h : Cu w b s bg p ln fs v) : w.cell? ⟨b, 4, none⟩ = some (.int .i64 (fs : Int)) := Vn.cell h 4 _ rfl
theorem Cu.c5 {w : World} {b : Nat} {s : ByteArray} {bg p ln fs : Nat} {v : Value} (h : Cu w b s bg p ln fs v) : w.cell? ⟨b, 5, none⟩ = some v := Vn.cell h 5 _ rfl
theorem Cu.later {w w' : World} {b : Nat} {s : ByteArray} {bg p ln fs : Nat} {v : Value} (h : Cu w b s bg p ln fs v) (hb : Below w.heap.size w w') : Cu w' b s bg p ln fs v := Vn.later h hb
theorem Cu.lt {w : World} {b : Nat} {s : ByteArray} {bg p ln fs : Nat} {v : Value} (h : Cu w b s bg p ln fs v) : b < w.heap.size := Vn.lt h
theorem qaf {a b c : World} {row : Option Nat} (h : a.grownBy b row) (k : b.grownBy c row) : a.grownBy c row :=
 ⟨k.os.trans h.os, k.tape.trans h.tape, k.output.trans h.output, Nat.le_trans h.size k.size, fun i hi hn => (k.block i (Nat.lt_of_lt_of_le hi h.size) hn).trans (h.block i hi hn)⟩
theorem grown_of {w w' : World} (b : Option Nat) (h : Below w.heap.size w w') : w.grownBy w' b := by
 have := jgrown.mpr h
 exact ⟨this.os, this.tape, this.output, this.size, fun i hi _ => this.block i hi (by simp)⟩
theorem qas (w : World) : Below w.heap.size w w.drew := (Below.refl _ _).drew
theorem qb7 (w : World) (k : Nat) : Below w.heap.size w (w.drewN k) := below_drewN (Below.refl _ _) k
theorem szInt : (Tryz.prog.info? 3).map (·.size) = some 1 := by kernel_rfl
theorem szTks : (Tryz.prog.info? 69).map (·.size) = some 1 := by kernel_rfl
theorem qcd (w : World) (b bg p ln fs : Nat) (s : ByteArray) (v : Value) (HV : Hid (Cu w b s bg p ln fs v)) (hp : p = s.size) :
  Calls Tryz.prog 100 #[.pointer (some ⟨b, 0, none⟩)] w fun e w' => e = .returned (.bool true) ∧ Below w.heap.size w w' := by
 have c0 := HV.out.c0
 have c2 := HV.out.c2
 subst hp
 go_enter Tryz.func100, Tryz.ntmps100
 go_wp2
 go_quiet (fail)
 go_wp2
 go_ret
 exact ⟨rfl, qb7 _ _⟩
theorem qau (w : World) (b bg p ln fs : Nat) (s : ByteArray) (v : Value) (HV : Hid (Cu w b s bg p ln fs v)) (hp : p < s.size) :
  Calls Tryz.prog 100 #[.pointer (some ⟨b, 0, none⟩)] w fun e w' => e = .returned (.bool false) ∧ Below w.heap.size w w' := by
 have c0 := HV.out.c0
 have c2 := HV.out.c2
 have q : ((p : Int) == (s.size : Int)) = false := by simp; omega
 go_enter Tryz.func100, Tryz.ntmps100
 go_wp2
 go_quiet (fail)
 go_wp2
 go_ret
 exact ⟨rfl, qb7 _ _⟩
theorem tpiece (w : World) (b bg p ln fs : Nat) (s : ByteArray) (v : Value) (HV : Hid (Cu w b s bg p ln fs v)) (hb : bg ≤ p) (hp : p ≤ s.size) :
  Calls Tryz.prog 110 #[.pointer (some ⟨b, 0, none⟩)] w fun e w' => e = .returned (.string (s.extract bg p)) ∧ Below w.heap.size w w' := by
 have c0 := HV.out.c0
 have c1 := HV.out.c1
 have c2 := HV.out.c2
 have q0 : (0 : Int) ≤ (bg : Int) := by omega
 have q1 : (bg : Int) ≤ (p : Int) := by omega
 have q2 : (p : Int) ≤ (s.size : Int) := by omega
 go_enter Tryz.func110, Tryz.ntmps110
 go_wp2
 go_quiet (fail)
 go_wp2
 go_ret
 exact ⟨rfl, qb7 _ _⟩
theorem tcol (w : World) (b bg p ln fs cl : Nat) (s : ByteArray) (v : Value) (HV : Hid (Cu w b s bg p ln fs v)) (hc : fs + cl = bg + 1) (hb : bg ≤ 65536) (h1 : 1 ≤ cl) :
  Calls Tryz.prog 113 #[.pointer (some ⟨b, 0, none⟩)] w fun e w' => e = .returned (.int .i64 (cl : Int)) ∧ Below w.heap.size w w' := by
 have c1 := HV.out.c1
 have c4 := HV.out.c4
 obtain ⟨d, hd⟩ : ∃ d : Nat, d + 1 = cl := ⟨cl - 1, by omega⟩
 have e1 : (bg : Int) - (fs : Int) = (d : Int) := by omega
 have e2 : (d : Int) + 1 = (cl : Int) := by omega
 have hd2 : d ≤ 65536 := by omega
 clear hd
 go_enter Tryz.func113, Tryz.ntmps113
 go_wp2
 go_quiet (fail)
 go_wp2
 go_ret
 exact ⟨rfl, qb7 _ _⟩
theorem qjr (w : World) (b p ln fs c : Nat) (s : ByteArray) (v : Value) (HV : Hid (Cu w b s p p ln fs v)) (hp : p < s.size) (hs : s.size ≤ 65536) (HC : Hid (tb s p = c)) (h10 : c ≠ 10) :
  Calls Tryz.prog 105 #[.pointer (some ⟨b, 0, none⟩)] w fun e w' => e = .returned (.tuple #[]) ∧ Cu w' b s p (p + 1) ln fs v ∧ w.grownBy w' (some b) := by
 have c0 := HV.out.c0
 have c1 := HV.out.c1
 have c2 := HV.out.c2
 have hc : s[p].toNat = c := by rw [← HC.out]; exact qca hp
 have q10 : ((c : Int) == 10) = false := by simp; omega
 obtain ⟨k1, hk1⟩ : ∃ k1, p + 1 = k1 := ⟨_, rfl⟩
 have e1 : (p : Int) + 1 = (k1 : Int) := by omega
 rw [hk1]
 have hk65 : k1 ≤ 65536 := by omega
 have q0 : (0 : Int) ≤ (p : Int) := by omega
 have q1 : (p : Int) < (s.size : Int) := by omega
 clear hk1
 go_enter Tryz.func105, Tryz.ntmps105
 go_wp2_with (refine wpList_store_one rfl 3 _ _ rfl b 2 134 _ (.int .i64 (k1 : Int)) rfl rfl szInt rfl rfl HV.out (by simp) ?_; intro w1 hv1 hg1; have HV1 : Hid (Cu w1 b s p k1 ln fs v) := hv1; have HG1 := hg1; have d0 := HV1.out.c0; have d1 := HV1.out.c1; clear hv1 hg1)
 go_quiet (fail)
 go_wp2
 go_end0
 exact ⟨rfl, HV1.out.later (qb7 _ _), qaf HG1.out (grown_of _ (qb7 _ _))⟩
theorem qi8 (w : World) (b p ln fs : Nat) (s : ByteArray) (v : Value) (HV : Hid (Cu w b s p p ln fs v)) (hp : p < s.size) (hs : s.size ≤ 65536) (hl : ln ≤ 65537) (HC : Hid (tb s p = 10)) :
  Calls Tryz.prog 105 #[.pointer (some ⟨b, 0, none⟩)] w fun e w' => e = .returned (.tuple #[]) ∧ Cu w' b s p (p + 1) (ln + 1) (p + 1) v ∧ w.grownBy w' (some b) := by
 have c0 := HV.out.c0
 have c1 := HV.out.c1
 have c2 := HV.out.c2
 have hc : s[p].toNat = 10 := by rw [← HC.out]; exact qca hp
 obtain ⟨k1, hk1⟩ : ∃ k1, p + 1 = k1 := ⟨_, rfl⟩
 have e1 : (p : Int) + 1 = (k1 : Int) := by omega
 obtain ⟨l1, hl1⟩ : ∃ l1, ln + 1 = l1 := ⟨_, rfl⟩
 have e2 : (ln : Int) + 1 = (l1 : Int) := by omega
 rw [hk1, hl1]
 have hk65 : k1 ≤ 65536 := by omega
 have hl65 : l1 ≤ 65538 := by omega
 have q0 : (0 : Int) ≤ (p : Int) := by omega
 have q1 : (p : Int) < (s.size : Int) := by omega
 clear hk1 hl1
 go_enter Tryz.func105, Tryz.ntmps105
 go_wp2_with (refine wpList_store_one rfl 3 _ _ rfl b 2 134 _ (.int .i64 (k1 : Int)) rfl rfl szInt rfl rfl HV.out (by simp) ?_; intro w1 hv1 hg1; have HV1 : Hid (Cu w1 b s p k1 ln fs v) := hv1; have HG1 := hg1; have d0 := HV1.out.c0; have d1 := HV1.out.c1; clear hv1 hg1)
 go_quiet (fail)
 have HVq := qa0 (HV1.out.later (qb7 w1 nq))
 have f3 := HVq.out.c3
 go_wp2_with (first
  | (refine wpList_store_one rfl 3 _ _ rfl b 3 134 _ (.int .i64 (l1 : Int)) rfl rfl szInt rfl rfl HVq.out (by simp) ?_; intro w2 hv2 hg2; have HV2 : Hid (Cu w2 b s p k1 l1 fs v) := hv2; have HG2 := hg2; have g2 := HV2.out.c2; clear hv2 hg2)
  | (refine wpList_store_one rfl 3 _ _ rfl b 4 134 _ (.int .i64 (k1 : Int)) rfl rfl szInt rfl rfl HV2.out (by simp) ?_; intro w3 hv3 hg3; have HV3 : Hid (Cu w3 b s p k1 l1 k1 v) := hv3; have HG3 := hg3; clear hv3 hg3))
 go_end0
 exact ⟨rfl, HV3.out, qaf (qaf (qaf HG1.out (grown_of _ (qb7 _ _))) HG2.out) HG3.out⟩
theorem tpassRemark (w : World) (b bg p e ln fs : Nat) (s : ByteArray) (v : Value) (HV : Hid (Cu w b s bg p ln fs v)) (hpe : p ≤ e) (hes : e ≤ s.size) (hs : s.size ≤ 65536) (HA : Hid (∀ j, p ≤ j → j < e → (decide (tb s j ≠ 10)) = true)) (HE : Hid (e < s.size → (decide (tb s e ≠ 10)) = false)) :
  Calls Tryz.prog 106 #[.pointer (some ⟨b, 0, none⟩)] w fun r w' => r = .returned (.tuple #[]) ∧ Cu w' b s bg e ln fs v ∧ w.grownBy w' (some b) := by
 go_enter Tryz.func106, Tryz.ntmps106
 go_wp2
 go_loopw [2] (fun _ wr => ∃ k : Nat, p ≤ k ∧ k ≤ e ∧ Cu wr b s bg k ln fs v ∧ w.grownBy wr (some b)) (fun _ wr => e - (intOf ((wr.cell? ⟨b, 2, none⟩).getD (.int .i64 0))).toNat)
 case atStart => exact ⟨p, by omega, hpe, HV.out, World.grownBy.refl _ _⟩
 case round =>
  obtain ⟨k, hpk, hke, hv, hg⟩ := hrel
  have HVr := qa0 hv
  have HGr := qa0 hg
  have HMr : Hid ((intOf ((wr.cell? ⟨b, 2, none⟩).getD (.int .i64 0))).toNat = k) := by show _ = _; rw [hv.c2]; simp [intOf]
  clear hv hg HV
  by_cases hks : k < s.size
  ·obtain ⟨c, HC⟩ : ∃ c, Hid (tb s k = c) := ⟨_, rfl⟩
   have hc : s[k].toNat = c := by rw [← HC.out]; exact qca hks
   have hc8 : c < 256 := by rw [← HC.out]; exact qem s k
   have q0 : (0 : Int) ≤ (k : Int) := by omega
   have q1 : (k : Int) < (s.size : Int) := by omega
   by_cases hlt : k < e
   ·have HGo : Hid ((decide (c ≠ 10)) = true) := by rw [← HC.out]; exact HA.out k hpk hlt
    obtain ⟨k1, hk1⟩ : ∃ k1, k + 1 = k1 := ⟨_, rfl⟩
    have e1 : (k : Int) + 1 = (k1 : Int) := by omega
    have hk65 : k1 ≤ 65536 := by omega
    have q10 : ((c : Int) == 10) = false := by have := of_decide_eq_true HGo.out; simp; omega
    go_wp2
    refine wp_region_held (S := fun w' => w'.cell? ⟨b, 0, none⟩ = some (.string s) ∧ w'.cell? ⟨b, 2, none⟩ = some (.int .i64 (k : Int))) (by kernel_rfl) ?_
    change wpAnyH _ _ _ _ _ _ _ _ (World.drew _)
    obtain ⟨W0, HW0⟩ : ∃ W0, Hid (wr.drew = W0) := ⟨_, rfl⟩
    rw [HW0.out]
    have HBW : Hid (Below wr.heap.size wr W0) := by rw [← HW0.out]; exact qas wr
    have HX0 := qa0 (HVr.out.later HBW.out)
    refine wtkq 0 ?va0 rfl (by kernel_rfl) (fun _ _ _ h => h) (by rfl) ?ya0 ⟨HX0.out.c0, HX0.out.c2⟩ ?za0
    case ya0 => (intro w hSw; (try dsimp only at hSw); go_simp; try with_reducible rfl)
    try simp only [mz1, mz3, Act.put, mz4, mz5, mz6]
    refine wpAnyH_ready (rs := [1]) (by kernel_rfl) (by simp) ?_
    refine AllReadyH.cons rfl (fun KK hKK => ?_) AllReadyH.nil
    go_simp
    refine (qau _ b bg _ ln fs s v HX0 hks).mono ?_; rintro r1 w1 ⟨rfl, hb1⟩; have HX1 := qa0 (HX0.out.later hb1); have HB1 : Hid (Below wr.heap.size wr w1) := jtwo HBW.out hb1; clear hb1
    refine hKK.out _ _ ⟨HX1.out.c0, HX1.out.c2⟩ (fun _ => ?_)
    clear hKK KK
    try simp only [mz1, mz2, mz3, Act.put, mz4, mz5, mz6]
    refine wtkq 2 ?va2 rfl (by kernel_rfl) (fun _ _ _ h => h) (by rfl) ?ya2 ⟨HX1.out.c0, HX1.out.c2⟩ ?za2
    case ya2 => (intro w hSw; (try dsimp only at hSw); go_simp; try with_reducible rfl)
    try simp only [mz1, mz2, mz3, Act.put, mz4, mz5, mz6]
    refine wtkq 3 ?va3 rfl (by kernel_rfl) (fun _ _ _ h => h) (by rfl) ?ya3 ⟨HX1.out.c0, HX1.out.c2⟩ ?za3
    case ya3 => (intro w hSw; (try dsimp only at hSw); go_simp; try with_reducible rfl)
    try simp only [mz1, mz2, mz3, Act.put, mz4, mz5, mz6]
    refine wtkq 4 ?va4 rfl (by kernel_rfl) (fun _ _ _ h => h) (by rfl) ?ya4 ⟨HX1.out.c0, HX1.out.c2⟩ ?za4
    case ya4 => (intro w hSw; (try dsimp only at hSw); go_simp; try with_reducible rfl)
    try simp only [mz1, mz2, mz3, Act.put, mz4, mz5, mz6]
    refine wtkq 5 ?va5 rfl (by kernel_rfl) (fun _ _ _ h => h) (by rfl) ?ya5 ⟨HX1.out.c0, HX1.out.c2⟩ ?za5
    case ya5 => (intro w hSw; (try dsimp only at hSw); go_simp; try with_reducible rfl)
    try simp only [mz1, mz2, mz3, Act.put, mz4, mz5, mz6]
    refine wtkq 6 ?va6 rfl (by kernel_rfl) (fun _ _ _ h => h) (by rfl) ?ya6 ⟨HX1.out.c0, HX1.out.c2⟩ ?za6
    case ya6 => (intro w hSw; (try dsimp only at hSw); go_simp; try with_reducible rfl)
    try simp only [mz1, mz2, mz3, Act.put, mz4, mz5, mz6]
    refine wtkq 7 ?va7 rfl (by kernel_rfl) (fun _ _ _ h => h) (by rfl) ?ya7 ⟨HX1.out.c0, HX1.out.c2⟩ ?za7
    case ya7 => (intro w hSw; (try dsimp only at hSw); go_simp; try with_reducible rfl)
    try simp only [mz1, mz2, mz3, Act.put, mz4, mz5, mz6]
    refine wtkq 8 ?va8 rfl (by kernel_rfl) (fun _ _ _ h => h) (by rfl) ?ya8 ⟨HX1.out.c0, HX1.out.c2⟩ ?za8
    case ya8 => (intro w hSw; (try dsimp only at hSw); go_simp; try with_reducible rfl)
    try simp only [mz1, mz2, mz3, Act.put, mz4, mz5, mz6]
    refine wtkq 9 ?va9 rfl (by kernel_rfl) (fun _ _ _ h => h) (by rfl) ?ya9 ⟨HX1.out.c0, HX1.out.c2⟩ ?za9
    case ya9 => (intro w hSw; (try dsimp only at hSw); go_simp; try with_reducible rfl)
    try simp only [mz1, mz2, mz3, Act.put, mz4, mz5, mz6]
    refine wtkq 10 ?va10 rfl (by kernel_rfl) (fun _ _ _ h => h) (by rfl) ?ya10 ⟨HX1.out.c0, HX1.out.c2⟩ ?za10
    case ya10 => (intro w hSw; (try dsimp only at hSw); go_simp; try with_reducible rfl)
    try simp only [mz1, mz2, mz3, Act.put, mz4, mz5, mz6]
    refine wtkq 11 ?va11 rfl (by kernel_rfl) (fun _ _ _ h => h) (by rfl) ?ya11 ⟨HX1.out.c0, HX1.out.c2⟩ ?za11
    case ya11 => (intro w hSw; (try dsimp only at hSw); go_simp; try with_reducible rfl)
    try simp only [mz1, mz2, mz3, Act.put, mz4, mz5, mz6]
    refine wtkq 12 ?va12 rfl (by kernel_rfl) (fun _ _ _ h => h) (by rfl) ?ya12 ⟨HX1.out.c0, HX1.out.c2⟩ ?za12
    case ya12 => (intro w hSw; (try dsimp only at hSw); go_simp; try with_reducible rfl)
    try simp only [mz1, mz2, mz3, Act.put, mz4, mz5, mz6]
    refine wtkq 13 ?va13 rfl (by kernel_rfl) (fun _ _ _ h => h) (by rfl) ?ya13 ⟨HX1.out.c0, HX1.out.c2⟩ ?za13
    case ya13 => (intro w hSw; (try dsimp only at hSw); go_simp; try with_reducible rfl)
    try simp only [mz1, mz2, mz3, Act.put, mz4, mz5, mz6]
    refine wtkq 14 ?va14 rfl (by kernel_rfl) (fun _ _ _ h => h) (by rfl) ?ya14 ⟨HX1.out.c0, HX1.out.c2⟩ ?za14
    case ya14 => (intro w hSw; (try dsimp only at hSw); go_simp; try with_reducible rfl)
    try simp only [mz1, mz2, mz3, Act.put, mz4, mz5, mz6]
    refine wpAnyH_done (by kernel_rfl) ?_ _
    have HB9 := HB1
    have HV2 := qa0 (HVr.out.later HB9.out)
    have z2 := HV2.out.c2
    go_wp2_with (refine wpList_store_one rfl 3 _ _ rfl b 2 134 _ (.int .i64 (k1 : Int)) rfl rfl szInt rfl rfl HV2.out (by simp) ?_; intro w3 hv3 hg3; have HV3 : Hid (Cu w3 b s bg k1 ln fs v) := hv3; have HG3 := hg3; clear hv3 hg3)
    have HM3 : Hid ((intOf ((w3.cell? ⟨b, 2, none⟩).getD (.int .i64 0))).toNat = k1) := by show _ = _; rw [HV3.out.c2]; simp [intOf]
    exact ⟨⟨_, _, _, _, _, _, _, _, _, _, _, _, _, _, _, _, _, _, _, _, _, _, ⟨k1, by omega, by omega, HV3.out, qaf HGr.out (qaf (grown_of _ HB9.out) HG3.out)⟩, rfl⟩, by rw [HM3.out, HMr.out]; omega⟩
   ·obtain rfl : k = e := by omega
    have HGo : Hid ((decide (c ≠ 10)) = false) := by rw [← HC.out]; exact HE.out hks
    obtain rfl : c = 10 := by have := of_decide_eq_false HGo.out; omega
    go_wp2
    refine wp_region_held (S := fun w' => w'.cell? ⟨b, 0, none⟩ = some (.string s) ∧ w'.cell? ⟨b, 2, none⟩ = some (.int .i64 (k : Int))) (by kernel_rfl) ?_
    change wpAnyH _ _ _ _ _ _ _ _ (World.drew _)
    obtain ⟨W0, HW0⟩ : ∃ W0, Hid (wr.drew = W0) := ⟨_, rfl⟩
    rw [HW0.out]
    have HBW : Hid (Below wr.heap.size wr W0) := by rw [← HW0.out]; exact qas wr
    have HX0 := qa0 (HVr.out.later HBW.out)
    refine wtkq 0 ?vb0 rfl (by kernel_rfl) (fun _ _ _ h => h) (by rfl) ?yb0 ⟨HX0.out.c0, HX0.out.c2⟩ ?zb0
    case yb0 => (intro w hSw; (try dsimp only at hSw); go_simp; try with_reducible rfl)
    try simp only [mz1, mz3, Act.put, mz4, mz5, mz6]
    refine wpAnyH_ready (rs := [1]) (by kernel_rfl) (by simp) ?_
    refine AllReadyH.cons rfl (fun KK hKK => ?_) AllReadyH.nil
    go_simp
    refine (qau _ b bg _ ln fs s v HX0 hks).mono ?_; rintro r1 w1 ⟨rfl, hb1⟩; have HX1 := qa0 (HX0.out.later hb1); have HB1 : Hid (Below wr.heap.size wr w1) := jtwo HBW.out hb1; clear hb1
    refine hKK.out _ _ ⟨HX1.out.c0, HX1.out.c2⟩ (fun _ => ?_)
    clear hKK KK
    try simp only [mz1, mz2, mz3, Act.put, mz4, mz5, mz6]
    refine wtkq 2 ?vb2 rfl (by kernel_rfl) (fun _ _ _ h => h) (by rfl) ?yb2 ⟨HX1.out.c0, HX1.out.c2⟩ ?zb2
    case yb2 => (intro w hSw; (try dsimp only at hSw); go_simp; try with_reducible rfl)
    try simp only [mz1, mz2, mz3, Act.put, mz4, mz5, mz6]
    refine wtkq 3 ?vb3 rfl (by kernel_rfl) (fun _ _ _ h => h) (by rfl) ?yb3 ⟨HX1.out.c0, HX1.out.c2⟩ ?zb3
    case yb3 => (intro w hSw; (try dsimp only at hSw); go_simp; try with_reducible rfl)
    try simp only [mz1, mz2, mz3, Act.put, mz4, mz5, mz6]
    refine wtkq 4 ?vb4 rfl (by kernel_rfl) (fun _ _ _ h => h) (by rfl) ?yb4 ⟨HX1.out.c0, HX1.out.c2⟩ ?zb4
    case yb4 => (intro w hSw; (try dsimp only at hSw); go_simp; try with_reducible rfl)
    try simp only [mz1, mz2, mz3, Act.put, mz4, mz5, mz6]
    refine wtkq 5 ?vb5 rfl (by kernel_rfl) (fun _ _ _ h => h) (by rfl) ?yb5 ⟨HX1.out.c0, HX1.out.c2⟩ ?zb5
    case yb5 => (intro w hSw; (try dsimp only at hSw); go_simp; try with_reducible rfl)
    try simp only [mz1, mz2, mz3, Act.put, mz4, mz5, mz6]
    refine wtkq 6 ?vb6 rfl (by kernel_rfl) (fun _ _ _ h => h) (by rfl) ?yb6 ⟨HX1.out.c0, HX1.out.c2⟩ ?zb6
    case yb6 => (intro w hSw; (try dsimp only at hSw); go_simp; try with_reducible rfl)
    try simp only [mz1, mz2, mz3, Act.put, mz4, mz5, mz6]
    refine wtkq 7 ?vb7 rfl (by kernel_rfl) (fun _ _ _ h => h) (by rfl) ?yb7 ⟨HX1.out.c0, HX1.out.c2⟩ ?zb7
    case yb7 => (intro w hSw; (try dsimp only at hSw); go_simp; try with_reducible rfl)
    try simp only [mz1, mz2, mz3, Act.put, mz4, mz5, mz6]
    refine wtkq 8 ?vb8 rfl (by kernel_rfl) (fun _ _ _ h => h) (by rfl) ?yb8 ⟨HX1.out.c0, HX1.out.c2⟩ ?zb8
    case yb8 => (intro w hSw; (try dsimp only at hSw); go_simp; try with_reducible rfl)
    try simp only [mz1, mz2, mz3, Act.put, mz4, mz5, mz6]
    refine wtkq 9 ?vb9 rfl (by kernel_rfl) (fun _ _ _ h => h) (by rfl) ?yb9 ⟨HX1.out.c0, HX1.out.c2⟩ ?zb9
    case yb9 => (intro w hSw; (try dsimp only at hSw); go_simp; try with_reducible rfl)
    try simp only [mz1, mz2, mz3, Act.put, mz4, mz5, mz6]
    refine wtkq 10 ?vb10 rfl (by kernel_rfl) (fun _ _ _ h => h) (by rfl) ?yb10 ⟨HX1.out.c0, HX1.out.c2⟩ ?zb10
    case yb10 => (intro w hSw; (try dsimp only at hSw); go_simp; try with_reducible rfl)
    try simp only [mz1, mz2, mz3, Act.put, mz4, mz5, mz6]
    refine wtkq 11 ?vb11 rfl (by kernel_rfl) (fun _ _ _ h => h) (by rfl) ?yb11 ⟨HX1.out.c0, HX1.out.c2⟩ ?zb11
    case yb11 => (intro w hSw; (try dsimp only at hSw); go_simp; try with_reducible rfl)
    try simp only [mz1, mz2, mz3, Act.put, mz4, mz5, mz6]
    refine wtkq 12 ?vb12 rfl (by kernel_rfl) (fun _ _ _ h => h) (by rfl) ?yb12 ⟨HX1.out.c0, HX1.out.c2⟩ ?zb12
    case yb12 => (intro w hSw; (try dsimp only at hSw); go_simp; try with_reducible rfl)
    try simp only [mz1, mz2, mz3, Act.put, mz4, mz5, mz6]
    refine wtkq 13 ?vb13 rfl (by kernel_rfl) (fun _ _ _ h => h) (by rfl) ?yb13 ⟨HX1.out.c0, HX1.out.c2⟩ ?zb13
    case yb13 => (intro w hSw; (try dsimp only at hSw); go_simp; try with_reducible rfl)
    try simp only [mz1, mz2, mz3, Act.put, mz4, mz5, mz6]
    refine wtkq 14 ?vb14 rfl (by kernel_rfl) (fun _ _ _ h => h) (by rfl) ?yb14 ⟨HX1.out.c0, HX1.out.c2⟩ ?zb14
    case yb14 => (intro w hSw; (try dsimp only at hSw); go_simp; try with_reducible rfl)
    try simp only [mz1, mz2, mz3, Act.put, mz4, mz5, mz6]
    refine wpAnyH_done (by kernel_rfl) ?_ _
    have HB9 := HB1
    go_wp2
    go_end0
    exact ⟨rfl, HVr.out.later HB9.out, qaf HGr.out (grown_of _ HB9.out)⟩
  ·obtain rfl : k = s.size := by omega
   obtain rfl : e = s.size := by omega
   go_wp2
   refine wp_region_held (S := fun w' => w'.cell? ⟨b, 0, none⟩ = some (.string s) ∧ w'.cell? ⟨b, 2, none⟩ = some (.int .i64 (s.size : Int))) (by kernel_rfl) ?_
   change wpAnyH _ _ _ _ _ _ _ _ (World.drew _)
   obtain ⟨W0, HW0⟩ : ∃ W0, Hid (wr.drew = W0) := ⟨_, rfl⟩
   rw [HW0.out]
   have HBW : Hid (Below wr.heap.size wr W0) := by rw [← HW0.out]; exact qas wr
   have HX0 := qa0 (HVr.out.later HBW.out)
   refine wtkq 0 ?vc0 rfl (by kernel_rfl) (fun _ _ _ h => h) (by rfl) ?yc0 ⟨HX0.out.c0, HX0.out.c2⟩ ?zc0
   case yc0 => (intro w hSw; (try dsimp only at hSw); go_simp; try with_reducible rfl)
   try simp only [mz1, mz3, Act.put, mz4, mz5, mz6]
   refine wpAnyH_ready (rs := [1]) (by kernel_rfl) (by simp) ?_
   refine AllReadyH.cons rfl (fun KK hKK => ?_) AllReadyH.nil
   go_simp
   refine (qcd _ b bg _ ln fs s v HX0 rfl).mono ?_; rintro r1 w1 ⟨rfl, hb1⟩; have HX1 := qa0 (HX0.out.later hb1); have HB1 : Hid (Below wr.heap.size wr w1) := jtwo HBW.out hb1; clear hb1
   refine hKK.out _ _ ⟨HX1.out.c0, HX1.out.c2⟩ (fun _ => ?_)
   clear hKK KK
   try simp only [mz1, mz2, mz3, Act.put, mz4, mz5, mz6]
   refine wtkq 2 ?vc2 rfl (by kernel_rfl) (fun _ _ _ h => h) (by rfl) ?yc2 ⟨HX1.out.c0, HX1.out.c2⟩ ?zc2
   case yc2 => (intro w hSw; (try dsimp only at hSw); go_simp; try with_reducible rfl)
   try simp only [mz1, mz2, mz3, Act.put, mz4, mz5, mz6]
   refine wtkq 3 ?vc3 rfl (by kernel_rfl) (fun _ _ _ h => h) (by rfl) ?yc3 ⟨HX1.out.c0, HX1.out.c2⟩ ?zc3
   case yc3 => (intro w hSw; (try dsimp only at hSw); go_simp; try with_reducible rfl)
   try simp only [mz1, mz2, mz3, Act.put, mz4, mz5, mz6]
   refine wskq 4 rfl (by kernel_rfl) (fun _ _ _ h => h) (by rfl) ⟨HX1.out.c0, HX1.out.c2⟩ ?_
   try simp only [mz1, mz2, mz3, Act.put, mz4, mz5, mz6]
   refine wskq 5 rfl (by kernel_rfl) (fun _ _ _ h => h) (by rfl) ⟨HX1.out.c0, HX1.out.c2⟩ ?_
   try simp only [mz1, mz2, mz3, Act.put, mz4, mz5, mz6]
   refine wskq 6 rfl (by kernel_rfl) (fun _ _ _ h => h) (by rfl) ⟨HX1.out.c0, HX1.out.c2⟩ ?_
   try simp only [mz1, mz2, mz3, Act.put, mz4, mz5, mz6]
   refine wskq 7 rfl (by kernel_rfl) (fun _ _ _ h => h) (by rfl) ⟨HX1.out.c0, HX1.out.c2⟩ ?_
   try simp only [mz1, mz2, mz3, Act.put, mz4, mz5, mz6]
   refine wskq 8 rfl (by kernel_rfl) (fun _ _ _ h => h) (by rfl) ⟨HX1.out.c0, HX1.out.c2⟩ ?_
   try simp only [mz1, mz2, mz3, Act.put, mz4, mz5, mz6]
   refine wskq 9 rfl (by kernel_rfl) (fun _ _ _ h => h) (by rfl) ⟨HX1.out.c0, HX1.out.c2⟩ ?_
   try simp only [mz1, mz2, mz3, Act.put, mz4, mz5, mz6]
   refine wskq 10 rfl (by kernel_rfl) (fun _ _ _ h => h) (by rfl) ⟨HX1.out.c0, HX1.out.c2⟩ ?_
   try simp only [mz1, mz2, mz3, Act.put, mz4, mz5, mz6]
   refine wskq 11 rfl (by kernel_rfl) (fun _ _ _ h => h) (by rfl) ⟨HX1.out.c0, HX1.out.c2⟩ ?_
   try simp only [mz1, mz2, mz3, Act.put, mz4, mz5, mz6]
   refine wskq 12 rfl (by kernel_rfl) (fun _ _ _ h => h) (by rfl) ⟨HX1.out.c0, HX1.out.c2⟩ ?_
   try simp only [mz1, mz2, mz3, Act.put, mz4, mz5, mz6]
   refine wskq 13 rfl (by kernel_rfl) (fun _ _ _ h => h) (by rfl) ⟨HX1.out.c0, HX1.out.c2⟩ ?_
   try simp only [mz1, mz2, mz3, Act.put, mz4, mz5, mz6]
   refine wtkq 14 ?vc14 rfl (by kernel_rfl) (fun _ _ _ h => h) (by rfl) ?yc14 ⟨HX1.out.c0, HX1.out.c2⟩ ?zc14
   case yc14 => (intro w hSw; (try dsimp only at hSw); go_simp; try with_reducible rfl)
   try simp only [mz1, mz2, mz3, Act.put, mz4, mz5, mz6]
   refine wpAnyH_done (by kernel_rfl) ?_ _
   have HB9 := HB1
   go_wp2
   go_end0
   exact ⟨rfl, HVr.out.later HB9.out, qaf HGr.out (grown_of _ HB9.out)⟩
theorem tpassName (w : World) (b bg p e ln fs : Nat) (s : ByteArray) (v : Value) (HV : Hid (Cu w b s bg p ln fs v)) (hpe : p ≤ e) (hes : e ≤ s.size) (hs : s.size ≤ 65536) (HA : Hid (∀ j, p ≤ j → j < e → (inN (tb s j) false) = true)) (HE : Hid (e < s.size → (inN (tb s e) false) = false)) :
  Calls Tryz.prog 107 #[.pointer (some ⟨b, 0, none⟩)] w fun r w' => r = .returned (.tuple #[]) ∧ Cu w' b s bg e ln fs v ∧ w.grownBy w' (some b) := by
 go_enter Tryz.func107, Tryz.ntmps107
 go_wp2
 go_loopw [2] (fun _ wr => ∃ k : Nat, p ≤ k ∧ k ≤ e ∧ Cu wr b s bg k ln fs v ∧ w.grownBy wr (some b)) (fun _ wr => e - (intOf ((wr.cell? ⟨b, 2, none⟩).getD (.int .i64 0))).toNat)
 case atStart => exact ⟨p, by omega, hpe, HV.out, World.grownBy.refl _ _⟩
 case round =>
  obtain ⟨k, hpk, hke, hv, hg⟩ := hrel
  have HVr := qa0 hv
  have HGr := qa0 hg
  have HMr : Hid ((intOf ((wr.cell? ⟨b, 2, none⟩).getD (.int .i64 0))).toNat = k) := by show _ = _; rw [hv.c2]; simp [intOf]
  clear hv hg HV
  by_cases hks : k < s.size
  ·obtain ⟨c, HC⟩ : ∃ c, Hid (tb s k = c) := ⟨_, rfl⟩
   have hc : s[k].toNat = c := by rw [← HC.out]; exact qca hks
   have hc8 : c < 256 := by rw [← HC.out]; exact qem s k
   have q0 : (0 : Int) ≤ (k : Int) := by omega
   have q1 : (k : Int) < (s.size : Int) := by omega
   by_cases hlt : k < e
   ·have HGo : Hid ((inN (c) false) = true) := by rw [← HC.out]; exact HA.out k hpk hlt
    obtain ⟨k1, hk1⟩ : ∃ k1, k + 1 = k1 := ⟨_, rfl⟩
    have e1 : (k : Int) + 1 = (k1 : Int) := by omega
    have hk65 : k1 ≤ 65536 := by omega
    have HCl : Hid (∀ w' : World, Calls Tryz.prog 147 #[.int .u8 (c : Int), .bool false] w' fun r w'' => r = .returned (.bool true) ∧ w' = w'') := fun w' => by have h := qcg w' c false hc8; rw [HGo.out] at h; exact h
    go_wp2
    refine wp_region_held (S := fun w' => w'.cell? ⟨b, 0, none⟩ = some (.string s) ∧ w'.cell? ⟨b, 2, none⟩ = some (.int .i64 (k : Int))) (by kernel_rfl) ?_
    change wpAnyH _ _ _ _ _ _ _ _ (World.drew _)
    obtain ⟨W0, HW0⟩ : ∃ W0, Hid (wr.drew = W0) := ⟨_, rfl⟩
    rw [HW0.out]
    have HBW : Hid (Below wr.heap.size wr W0) := by rw [← HW0.out]; exact qas wr
    have HX0 := qa0 (HVr.out.later HBW.out)
    refine wtkq 0 ?va0 rfl (by kernel_rfl) (fun _ _ _ h => h) (by rfl) ?ya0 ⟨HX0.out.c0, HX0.out.c2⟩ ?za0
    case ya0 => (intro w hSw; (try dsimp only at hSw); go_simp; try with_reducible rfl)
    try simp only [mz1, mz3, Act.put, mz4, mz5, mz6]
    refine wpAnyH_ready (rs := [1]) (by kernel_rfl) (by simp) ?_
    refine AllReadyH.cons rfl (fun KK hKK => ?_) AllReadyH.nil
    go_simp
    refine (qau _ b bg _ ln fs s v HX0 hks).mono ?_; rintro r1 w1 ⟨rfl, hb1⟩; have HX1 := qa0 (HX0.out.later hb1); have HB1 : Hid (Below wr.heap.size wr w1) := jtwo HBW.out hb1; clear hb1
    refine hKK.out _ _ ⟨HX1.out.c0, HX1.out.c2⟩ (fun _ => ?_)
    clear hKK KK
    try simp only [mz1, mz2, mz3, Act.put, mz4, mz5, mz6]
    refine wtkq 2 ?va2 rfl (by kernel_rfl) (fun _ _ _ h => h) (by rfl) ?ya2 ⟨HX1.out.c0, HX1.out.c2⟩ ?za2
    case ya2 => (intro w hSw; (try dsimp only at hSw); go_simp; try with_reducible rfl)
    try simp only [mz1, mz2, mz3, Act.put, mz4, mz5, mz6]
    refine wtkq 3 ?va3 rfl (by kernel_rfl) (fun _ _ _ h => h) (by rfl) ?ya3 ⟨HX1.out.c0, HX1.out.c2⟩ ?za3
    case ya3 => (intro w hSw; (try dsimp only at hSw); go_simp; try with_reducible rfl)
    try simp only [mz1, mz2, mz3, Act.put, mz4, mz5, mz6]
    refine wtkq 4 ?va4 rfl (by kernel_rfl) (fun _ _ _ h => h) (by rfl) ?ya4 ⟨HX1.out.c0, HX1.out.c2⟩ ?za4
    case ya4 => (intro w hSw; (try dsimp only at hSw); go_simp; try with_reducible rfl)
    try simp only [mz1, mz2, mz3, Act.put, mz4, mz5, mz6]
    refine wtkq 5 ?va5 rfl (by kernel_rfl) (fun _ _ _ h => h) (by rfl) ?ya5 ⟨HX1.out.c0, HX1.out.c2⟩ ?za5
    case ya5 => (intro w hSw; (try dsimp only at hSw); go_simp; try with_reducible rfl)
    try simp only [mz1, mz2, mz3, Act.put, mz4, mz5, mz6]
    refine wtkq 6 ?va6 rfl (by kernel_rfl) (fun _ _ _ h => h) (by rfl) ?ya6 ⟨HX1.out.c0, HX1.out.c2⟩ ?za6
    case ya6 => (intro w hSw; (try dsimp only at hSw); go_simp; try with_reducible rfl)
    try simp only [mz1, mz2, mz3, Act.put, mz4, mz5, mz6]
    refine wtkq 7 ?va7 rfl (by kernel_rfl) (fun _ _ _ h => h) (by rfl) ?ya7 ⟨HX1.out.c0, HX1.out.c2⟩ ?za7
    case ya7 => (intro w hSw; (try dsimp only at hSw); go_simp; try with_reducible rfl)
    try simp only [mz1, mz2, mz3, Act.put, mz4, mz5, mz6]
    refine wtkq 8 ?va8 rfl (by kernel_rfl) (fun _ _ _ h => h) (by rfl) ?ya8 ⟨HX1.out.c0, HX1.out.c2⟩ ?za8
    case ya8 => (intro w hSw; (try dsimp only at hSw); go_simp; try with_reducible rfl)
    try simp only [mz1, mz2, mz3, Act.put, mz4, mz5, mz6]
    refine wtkq 9 ?va9 rfl (by kernel_rfl) (fun _ _ _ h => h) (by rfl) ?ya9 ⟨HX1.out.c0, HX1.out.c2⟩ ?za9
    case ya9 => (intro w hSw; (try dsimp only at hSw); go_simp; try with_reducible rfl)
    try simp only [mz1, mz2, mz3, Act.put, mz4, mz5, mz6]
    refine wtkq 10 ?va10 rfl (by kernel_rfl) (fun _ _ _ h => h) (by rfl) ?ya10 ⟨HX1.out.c0, HX1.out.c2⟩ ?za10
    case ya10 => (intro w hSw; (try dsimp only at hSw); go_simp; try with_reducible rfl)
    try simp only [mz1, mz2, mz3, Act.put, mz4, mz5, mz6]
    refine wtkq 11 ?va11 rfl (by kernel_rfl) (fun _ _ _ h => h) (by rfl) ?ya11 ⟨HX1.out.c0, HX1.out.c2⟩ ?za11
    case ya11 => (intro w hSw; (try dsimp only at hSw); go_simp; try with_reducible rfl)
    try simp only [mz1, mz2, mz3, Act.put, mz4, mz5, mz6]
    refine wtkq 12 ?va12 rfl (by kernel_rfl) (fun _ _ _ h => h) (by rfl) ?ya12 ⟨HX1.out.c0, HX1.out.c2⟩ ?za12
    case ya12 => (intro w hSw; (try dsimp only at hSw); go_simp; try with_reducible rfl)
    try simp only [mz1, mz2, mz3, Act.put, mz4, mz5, mz6]
    refine wpAnyH_ready (rs := [13]) (by kernel_rfl) (by simp) ?_
    refine AllReadyH.cons rfl (fun KK hKK => ?_) AllReadyH.nil
    go_simp
    refine (HCl.out _).mono ?_; rintro r2 w2 ⟨rfl, rfl⟩
    refine hKK.out _ _ ⟨HX1.out.c0, HX1.out.c2⟩ (fun _ => ?_)
    clear hKK KK
    try simp only [mz1, mz2, mz3, Act.put, mz4, mz5, mz6]
    refine wtkq 14 ?va14 rfl (by kernel_rfl) (fun _ _ _ h => h) (by rfl) ?ya14 ⟨HX1.out.c0, HX1.out.c2⟩ ?za14
    case ya14 => (intro w hSw; (try dsimp only at hSw); go_simp; try with_reducible rfl)
    try simp only [mz1, mz2, mz3, Act.put, mz4, mz5, mz6]
    refine wpAnyH_done (by kernel_rfl) ?_ _
    have HB9 := HB1
    have HV2 := qa0 (HVr.out.later HB9.out)
    have z2 := HV2.out.c2
    go_wp2_with (refine wpList_store_one rfl 3 _ _ rfl b 2 134 _ (.int .i64 (k1 : Int)) rfl rfl szInt rfl rfl HV2.out (by simp) ?_; intro w3 hv3 hg3; have HV3 : Hid (Cu w3 b s bg k1 ln fs v) := hv3; have HG3 := hg3; clear hv3 hg3)
    have HM3 : Hid ((intOf ((w3.cell? ⟨b, 2, none⟩).getD (.int .i64 0))).toNat = k1) := by show _ = _; rw [HV3.out.c2]; simp [intOf]
    exact ⟨⟨_, _, _, _, _, _, _, _, _, _, _, _, _, _, _, _, _, _, _, _, _, _, ⟨k1, by omega, by omega, HV3.out, qaf HGr.out (qaf (grown_of _ HB9.out) HG3.out)⟩, rfl⟩, by rw [HM3.out, HMr.out]; omega⟩
   ·obtain rfl : k = e := by omega
    have HGo : Hid ((inN (c) false) = false) := by rw [← HC.out]; exact HE.out hks
    have HCl : Hid (∀ w' : World, Calls Tryz.prog 147 #[.int .u8 (c : Int), .bool false] w' fun r w'' => r = .returned (.bool false) ∧ w' = w'') := fun w' => by have h := qcg w' c false hc8; rw [HGo.out] at h; exact h
    go_wp2
    refine wp_region_held (S := fun w' => w'.cell? ⟨b, 0, none⟩ = some (.string s) ∧ w'.cell? ⟨b, 2, none⟩ = some (.int .i64 (k : Int))) (by kernel_rfl) ?_
    change wpAnyH _ _ _ _ _ _ _ _ (World.drew _)
    obtain ⟨W0, HW0⟩ : ∃ W0, Hid (wr.drew = W0) := ⟨_, rfl⟩
    rw [HW0.out]
    have HBW : Hid (Below wr.heap.size wr W0) := by rw [← HW0.out]; exact qas wr
    have HX0 := qa0 (HVr.out.later HBW.out)
    refine wtkq 0 ?vb0 rfl (by kernel_rfl) (fun _ _ _ h => h) (by rfl) ?yb0 ⟨HX0.out.c0, HX0.out.c2⟩ ?zb0
    case yb0 => (intro w hSw; (try dsimp only at hSw); go_simp; try with_reducible rfl)
    try simp only [mz1, mz3, Act.put, mz4, mz5, mz6]
    refine wpAnyH_ready (rs := [1]) (by kernel_rfl) (by simp) ?_
    refine AllReadyH.cons rfl (fun KK hKK => ?_) AllReadyH.nil
    go_simp
    refine (qau _ b bg _ ln fs s v HX0 hks).mono ?_; rintro r1 w1 ⟨rfl, hb1⟩; have HX1 := qa0 (HX0.out.later hb1); have HB1 : Hid (Below wr.heap.size wr w1) := jtwo HBW.out hb1; clear hb1
    refine hKK.out _ _ ⟨HX1.out.c0, HX1.out.c2⟩ (fun _ => ?_)
    clear hKK KK
    try simp only [mz1, mz2, mz3, Act.put, mz4, mz5, mz6]
    refine wtkq 2 ?vb2 rfl (by kernel_rfl) (fun _ _ _ h => h) (by rfl) ?yb2 ⟨HX1.out.c0, HX1.out.c2⟩ ?zb2
    case yb2 => (intro w hSw; (try dsimp only at hSw); go_simp; try with_reducible rfl)
    try simp only [mz1, mz2, mz3, Act.put, mz4, mz5, mz6]
    refine wtkq 3 ?vb3 rfl (by kernel_rfl) (fun _ _ _ h => h) (by rfl) ?yb3 ⟨HX1.out.c0, HX1.out.c2⟩ ?zb3
    case yb3 => (intro w hSw; (try dsimp only at hSw); go_simp; try with_reducible rfl)
    try simp only [mz1, mz2, mz3, Act.put, mz4, mz5, mz6]
    refine wtkq 4 ?vb4 rfl (by kernel_rfl) (fun _ _ _ h => h) (by rfl) ?yb4 ⟨HX1.out.c0, HX1.out.c2⟩ ?zb4
    case yb4 => (intro w hSw; (try dsimp only at hSw); go_simp; try with_reducible rfl)
    try simp only [mz1, mz2, mz3, Act.put, mz4, mz5, mz6]
    refine wtkq 5 ?vb5 rfl (by kernel_rfl) (fun _ _ _ h => h) (by rfl) ?yb5 ⟨HX1.out.c0, HX1.out.c2⟩ ?zb5
    case yb5 => (intro w hSw; (try dsimp only at hSw); go_simp; try with_reducible rfl)
    try simp only [mz1, mz2, mz3, Act.put, mz4, mz5, mz6]
    refine wtkq 6 ?vb6 rfl (by kernel_rfl) (fun _ _ _ h => h) (by rfl) ?yb6 ⟨HX1.out.c0, HX1.out.c2⟩ ?zb6
    case yb6 => (intro w hSw; (try dsimp only at hSw); go_simp; try with_reducible rfl)
    try simp only [mz1, mz2, mz3, Act.put, mz4, mz5, mz6]
    refine wtkq 7 ?vb7 rfl (by kernel_rfl) (fun _ _ _ h => h) (by rfl) ?yb7 ⟨HX1.out.c0, HX1.out.c2⟩ ?zb7
    case yb7 => (intro w hSw; (try dsimp only at hSw); go_simp; try with_reducible rfl)
    try simp only [mz1, mz2, mz3, Act.put, mz4, mz5, mz6]
    refine wtkq 8 ?vb8 rfl (by kernel_rfl) (fun _ _ _ h => h) (by rfl) ?yb8 ⟨HX1.out.c0, HX1.out.c2⟩ ?zb8
    case yb8 => (intro w hSw; (try dsimp only at hSw); go_simp; try with_reducible rfl)
    try simp only [mz1, mz2, mz3, Act.put, mz4, mz5, mz6]
    refine wtkq 9 ?vb9 rfl (by kernel_rfl) (fun _ _ _ h => h) (by rfl) ?yb9 ⟨HX1.out.c0, HX1.out.c2⟩ ?zb9
    case yb9 => (intro w hSw; (try dsimp only at hSw); go_simp; try with_reducible rfl)
    try simp only [mz1, mz2, mz3, Act.put, mz4, mz5, mz6]
    refine wtkq 10 ?vb10 rfl (by kernel_rfl) (fun _ _ _ h => h) (by rfl) ?yb10 ⟨HX1.out.c0, HX1.out.c2⟩ ?zb10
    case yb10 => (intro w hSw; (try dsimp only at hSw); go_simp; try with_reducible rfl)
    try simp only [mz1, mz2, mz3, Act.put, mz4, mz5, mz6]
    refine wtkq 11 ?vb11 rfl (by kernel_rfl) (fun _ _ _ h => h) (by rfl) ?yb11 ⟨HX1.out.c0, HX1.out.c2⟩ ?zb11
    case yb11 => (intro w hSw; (try dsimp only at hSw); go_simp; try with_reducible rfl)
    try simp only [mz1, mz2, mz3, Act.put, mz4, mz5, mz6]
    refine wtkq 12 ?vb12 rfl (by kernel_rfl) (fun _ _ _ h => h) (by rfl) ?yb12 ⟨HX1.out.c0, HX1.out.c2⟩ ?zb12
    case yb12 => (intro w hSw; (try dsimp only at hSw); go_simp; try with_reducible rfl)
    try simp only [mz1, mz2, mz3, Act.put, mz4, mz5, mz6]
    refine wpAnyH_ready (rs := [13]) (by kernel_rfl) (by simp) ?_
    refine AllReadyH.cons rfl (fun KK hKK => ?_) AllReadyH.nil
    go_simp
    refine (HCl.out _).mono ?_; rintro r2 w2 ⟨rfl, rfl⟩
    refine hKK.out _ _ ⟨HX1.out.c0, HX1.out.c2⟩ (fun _ => ?_)
    clear hKK KK
    try simp only [mz1, mz2, mz3, Act.put, mz4, mz5, mz6]
    refine wtkq 14 ?vb14 rfl (by kernel_rfl) (fun _ _ _ h => h) (by rfl) ?yb14 ⟨HX1.out.c0, HX1.out.c2⟩ ?zb14
    case yb14 => (intro w hSw; (try dsimp only at hSw); go_simp; try with_reducible rfl)
    try simp only [mz1, mz2, mz3, Act.put, mz4, mz5, mz6]
    refine wpAnyH_done (by kernel_rfl) ?_ _
    have HB9 := HB1
    go_wp2
    go_end0
    exact ⟨rfl, HVr.out.later HB9.out, qaf HGr.out (grown_of _ HB9.out)⟩
  ·obtain rfl : k = s.size := by omega
   obtain rfl : e = s.size := by omega
   go_wp2
   refine wp_region_held (S := fun w' => w'.cell? ⟨b, 0, none⟩ = some (.string s) ∧ w'.cell? ⟨b, 2, none⟩ = some (.int .i64 (s.size : Int))) (by kernel_rfl) ?_
   change wpAnyH _ _ _ _ _ _ _ _ (World.drew _)
   obtain ⟨W0, HW0⟩ : ∃ W0, Hid (wr.drew = W0) := ⟨_, rfl⟩
   rw [HW0.out]
   have HBW : Hid (Below wr.heap.size wr W0) := by rw [← HW0.out]; exact qas wr
   have HX0 := qa0 (HVr.out.later HBW.out)
   refine wtkq 0 ?vc0 rfl (by kernel_rfl) (fun _ _ _ h => h) (by rfl) ?yc0 ⟨HX0.out.c0, HX0.out.c2⟩ ?zc0
   case yc0 => (intro w hSw; (try dsimp only at hSw); go_simp; try with_reducible rfl)
   try simp only [mz1, mz3, Act.put, mz4, mz5, mz6]
   refine wpAnyH_ready (rs := [1]) (by kernel_rfl) (by simp) ?_
   refine AllReadyH.cons rfl (fun KK hKK => ?_) AllReadyH.nil
   go_simp
   refine (qcd _ b bg _ ln fs s v HX0 rfl).mono ?_; rintro r1 w1 ⟨rfl, hb1⟩; have HX1 := qa0 (HX0.out.later hb1); have HB1 : Hid (Below wr.heap.size wr w1) := jtwo HBW.out hb1; clear hb1
   refine hKK.out _ _ ⟨HX1.out.c0, HX1.out.c2⟩ (fun _ => ?_)
   clear hKK KK
   try simp only [mz1, mz2, mz3, Act.put, mz4, mz5, mz6]
   refine wtkq 2 ?vc2 rfl (by kernel_rfl) (fun _ _ _ h => h) (by rfl) ?yc2 ⟨HX1.out.c0, HX1.out.c2⟩ ?zc2
   case yc2 => (intro w hSw; (try dsimp only at hSw); go_simp; try with_reducible rfl)
   try simp only [mz1, mz2, mz3, Act.put, mz4, mz5, mz6]
   refine wtkq 3 ?vc3 rfl (by kernel_rfl) (fun _ _ _ h => h) (by rfl) ?yc3 ⟨HX1.out.c0, HX1.out.c2⟩ ?zc3
   case yc3 => (intro w hSw; (try dsimp only at hSw); go_simp; try with_reducible rfl)
   try simp only [mz1, mz2, mz3, Act.put, mz4, mz5, mz6]
   refine wskq 4 rfl (by kernel_rfl) (fun _ _ _ h => h) (by rfl) ⟨HX1.out.c0, HX1.out.c2⟩ ?_
   try simp only [mz1, mz2, mz3, Act.put, mz4, mz5, mz6]
   refine wskq 5 rfl (by kernel_rfl) (fun _ _ _ h => h) (by rfl) ⟨HX1.out.c0, HX1.out.c2⟩ ?_
   try simp only [mz1, mz2, mz3, Act.put, mz4, mz5, mz6]
   refine wskq 6 rfl (by kernel_rfl) (fun _ _ _ h => h) (by rfl) ⟨HX1.out.c0, HX1.out.c2⟩ ?_
   try simp only [mz1, mz2, mz3, Act.put, mz4, mz5, mz6]
   refine wskq 7 rfl (by kernel_rfl) (fun _ _ _ h => h) (by rfl) ⟨HX1.out.c0, HX1.out.c2⟩ ?_
   try simp only [mz1, mz2, mz3, Act.put, mz4, mz5, mz6]
   refine wskq 8 rfl (by kernel_rfl) (fun _ _ _ h => h) (by rfl) ⟨HX1.out.c0, HX1.out.c2⟩ ?_
   try simp only [mz1, mz2, mz3, Act.put, mz4, mz5, mz6]
   refine wskq 9 rfl (by kernel_rfl) (fun _ _ _ h => h) (by rfl) ⟨HX1.out.c0, HX1.out.c2⟩ ?_
   try simp only [mz1, mz2, mz3, Act.put, mz4, mz5, mz6]
   refine wskq 10 rfl (by kernel_rfl) (fun _ _ _ h => h) (by rfl) ⟨HX1.out.c0, HX1.out.c2⟩ ?_
   try simp only [mz1, mz2, mz3, Act.put, mz4, mz5, mz6]
   refine wskq 11 rfl (by kernel_rfl) (fun _ _ _ h => h) (by rfl) ⟨HX1.out.c0, HX1.out.c2⟩ ?_
   try simp only [mz1, mz2, mz3, Act.put, mz4, mz5, mz6]
   refine wskq 12 rfl (by kernel_rfl) (fun _ _ _ h => h) (by rfl) ⟨HX1.out.c0, HX1.out.c2⟩ ?_
   try simp only [mz1, mz2, mz3, Act.put, mz4, mz5, mz6]
   refine wskq 13 rfl (by kernel_rfl) (fun _ _ _ h => h) (by rfl) ⟨HX1.out.c0, HX1.out.c2⟩ ?_
   try simp only [mz1, mz2, mz3, Act.put, mz4, mz5, mz6]
   refine wtkq 14 ?vc14 rfl (by kernel_rfl) (fun _ _ _ h => h) (by rfl) ?yc14 ⟨HX1.out.c0, HX1.out.c2⟩ ?zc14
   case yc14 => (intro w hSw; (try dsimp only at hSw); go_simp; try with_reducible rfl)
   try simp only [mz1, mz2, mz3, Act.put, mz4, mz5, mz6]
   refine wpAnyH_done (by kernel_rfl) ?_ _
   have HB9 := HB1
   go_wp2
   go_end0
   exact ⟨rfl, HVr.out.later HB9.out, qaf HGr.out (grown_of _ HB9.out)⟩
theorem tpassDigits (w : World) (b bg p e ln fs : Nat) (s : ByteArray) (v : Value) (HV : Hid (Cu w b s bg p ln fs v)) (hpe : p ≤ e) (hes : e ≤ s.size) (hs : s.size ≤ 65536) (HA : Hid (∀ j, p ≤ j → j < e → (isD (tb s j)) = true)) (HE : Hid (e < s.size → (isD (tb s e)) = false)) :
  Calls Tryz.prog 111 #[.pointer (some ⟨b, 0, none⟩)] w fun r w' => r = .returned (.tuple #[]) ∧ Cu w' b s bg e ln fs v ∧ w.grownBy w' (some b) := by
 go_enter Tryz.func111, Tryz.ntmps111
 go_wp2
 go_loopw [2] (fun _ wr => ∃ k : Nat, p ≤ k ∧ k ≤ e ∧ Cu wr b s bg k ln fs v ∧ w.grownBy wr (some b)) (fun _ wr => e - (intOf ((wr.cell? ⟨b, 2, none⟩).getD (.int .i64 0))).toNat)
 case atStart => exact ⟨p, by omega, hpe, HV.out, World.grownBy.refl _ _⟩
 case round =>
  obtain ⟨k, hpk, hke, hv, hg⟩ := hrel
  have HVr := qa0 hv
  have HGr := qa0 hg
  have HMr : Hid ((intOf ((wr.cell? ⟨b, 2, none⟩).getD (.int .i64 0))).toNat = k) := by show _ = _; rw [hv.c2]; simp [intOf]
  clear hv hg HV
  by_cases hks : k < s.size
  ·obtain ⟨c, HC⟩ : ∃ c, Hid (tb s k = c) := ⟨_, rfl⟩
   have hc : s[k].toNat = c := by rw [← HC.out]; exact qca hks
   have hc8 : c < 256 := by rw [← HC.out]; exact qem s k
   have q0 : (0 : Int) ≤ (k : Int) := by omega
   have q1 : (k : Int) < (s.size : Int) := by omega
   by_cases hlt : k < e
   ·have HGo : Hid ((isD (c)) = true) := by rw [← HC.out]; exact HA.out k hpk hlt
    obtain ⟨k1, hk1⟩ : ∃ k1, k + 1 = k1 := ⟨_, rfl⟩
    have e1 : (k : Int) + 1 = (k1 : Int) := by omega
    have hk65 : k1 ≤ 65536 := by omega
    have HCl : Hid (∀ w' : World, Calls Tryz.prog 103 #[.int .u8 (c : Int)] w' fun r w'' => r = .returned (.bool true) ∧ w' = w'') := fun w' => by have h := qcv w' c hc8; rw [HGo.out] at h; exact h
    go_wp2
    refine wp_region_held (S := fun w' => w'.cell? ⟨b, 0, none⟩ = some (.string s) ∧ w'.cell? ⟨b, 2, none⟩ = some (.int .i64 (k : Int))) (by kernel_rfl) ?_
    change wpAnyH _ _ _ _ _ _ _ _ (World.drew _)
    obtain ⟨W0, HW0⟩ : ∃ W0, Hid (wr.drew = W0) := ⟨_, rfl⟩
    rw [HW0.out]
    have HBW : Hid (Below wr.heap.size wr W0) := by rw [← HW0.out]; exact qas wr
    have HX0 := qa0 (HVr.out.later HBW.out)
    refine wtkq 0 ?va0 rfl (by kernel_rfl) (fun _ _ _ h => h) (by rfl) ?ya0 ⟨HX0.out.c0, HX0.out.c2⟩ ?za0
    case ya0 => (intro w hSw; (try dsimp only at hSw); go_simp; try with_reducible rfl)
    try simp only [mz1, mz3, Act.put, mz4, mz5, mz6]
    refine wpAnyH_ready (rs := [1]) (by kernel_rfl) (by simp) ?_
    refine AllReadyH.cons rfl (fun KK hKK => ?_) AllReadyH.nil
    go_simp
    refine (qau _ b bg _ ln fs s v HX0 hks).mono ?_; rintro r1 w1 ⟨rfl, hb1⟩; have HX1 := qa0 (HX0.out.later hb1); have HB1 : Hid (Below wr.heap.size wr w1) := jtwo HBW.out hb1; clear hb1
    refine hKK.out _ _ ⟨HX1.out.c0, HX1.out.c2⟩ (fun _ => ?_)
    clear hKK KK
    try simp only [mz1, mz2, mz3, Act.put, mz4, mz5, mz6]
    refine wtkq 2 ?va2 rfl (by kernel_rfl) (fun _ _ _ h => h) (by rfl) ?ya2 ⟨HX1.out.c0, HX1.out.c2⟩ ?za2
    case ya2 => (intro w hSw; (try dsimp only at hSw); go_simp; try with_reducible rfl)
    try simp only [mz1, mz2, mz3, Act.put, mz4, mz5, mz6]
    refine wtkq 3 ?va3 rfl (by kernel_rfl) (fun _ _ _ h => h) (by rfl) ?ya3 ⟨HX1.out.c0, HX1.out.c2⟩ ?za3
    case ya3 => (intro w hSw; (try dsimp only at hSw); go_simp; try with_reducible rfl)
    try simp only [mz1, mz2, mz3, Act.put, mz4, mz5, mz6]
    refine wtkq 4 ?va4 rfl (by kernel_rfl) (fun _ _ _ h => h) (by rfl) ?ya4 ⟨HX1.out.c0, HX1.out.c2⟩ ?za4
    case ya4 => (intro w hSw; (try dsimp only at hSw); go_simp; try with_reducible rfl)
    try simp only [mz1, mz2, mz3, Act.put, mz4, mz5, mz6]
    refine wtkq 5 ?va5 rfl (by kernel_rfl) (fun _ _ _ h => h) (by rfl) ?ya5 ⟨HX1.out.c0, HX1.out.c2⟩ ?za5
    case ya5 => (intro w hSw; (try dsimp only at hSw); go_simp; try with_reducible rfl)
    try simp only [mz1, mz2, mz3, Act.put, mz4, mz5, mz6]
    refine wtkq 6 ?va6 rfl (by kernel_rfl) (fun _ _ _ h => h) (by rfl) ?ya6 ⟨HX1.out.c0, HX1.out.c2⟩ ?za6
    case ya6 => (intro w hSw; (try dsimp only at hSw); go_simp; try with_reducible rfl)
    try simp only [mz1, mz2, mz3, Act.put, mz4, mz5, mz6]
    refine wtkq 7 ?va7 rfl (by kernel_rfl) (fun _ _ _ h => h) (by rfl) ?ya7 ⟨HX1.out.c0, HX1.out.c2⟩ ?za7
    case ya7 => (intro w hSw; (try dsimp only at hSw); go_simp; try with_reducible rfl)
    try simp only [mz1, mz2, mz3, Act.put, mz4, mz5, mz6]
    refine wtkq 8 ?va8 rfl (by kernel_rfl) (fun _ _ _ h => h) (by rfl) ?ya8 ⟨HX1.out.c0, HX1.out.c2⟩ ?za8
    case ya8 => (intro w hSw; (try dsimp only at hSw); go_simp; try with_reducible rfl)
    try simp only [mz1, mz2, mz3, Act.put, mz4, mz5, mz6]
    refine wtkq 9 ?va9 rfl (by kernel_rfl) (fun _ _ _ h => h) (by rfl) ?ya9 ⟨HX1.out.c0, HX1.out.c2⟩ ?za9
    case ya9 => (intro w hSw; (try dsimp only at hSw); go_simp; try with_reducible rfl)
    try simp only [mz1, mz2, mz3, Act.put, mz4, mz5, mz6]
    refine wtkq 10 ?va10 rfl (by kernel_rfl) (fun _ _ _ h => h) (by rfl) ?ya10 ⟨HX1.out.c0, HX1.out.c2⟩ ?za10
    case ya10 => (intro w hSw; (try dsimp only at hSw); go_simp; try with_reducible rfl)
    try simp only [mz1, mz2, mz3, Act.put, mz4, mz5, mz6]
    refine wtkq 11 ?va11 rfl (by kernel_rfl) (fun _ _ _ h => h) (by rfl) ?ya11 ⟨HX1.out.c0, HX1.out.c2⟩ ?za11
    case ya11 => (intro w hSw; (try dsimp only at hSw); go_simp; try with_reducible rfl)
    try simp only [mz1, mz2, mz3, Act.put, mz4, mz5, mz6]
    refine wtkq 12 ?va12 rfl (by kernel_rfl) (fun _ _ _ h => h) (by rfl) ?ya12 ⟨HX1.out.c0, HX1.out.c2⟩ ?za12
    case ya12 => (intro w hSw; (try dsimp only at hSw); go_simp; try with_reducible rfl)
    try simp only [mz1, mz2, mz3, Act.put, mz4, mz5, mz6]
    refine wpAnyH_ready (rs := [13]) (by kernel_rfl) (by simp) ?_
    refine AllReadyH.cons rfl (fun KK hKK => ?_) AllReadyH.nil
    go_simp
    refine (HCl.out _).mono ?_; rintro r2 w2 ⟨rfl, rfl⟩
    refine hKK.out _ _ ⟨HX1.out.c0, HX1.out.c2⟩ (fun _ => ?_)
    clear hKK KK
    try simp only [mz1, mz2, mz3, Act.put, mz4, mz5, mz6]
    refine wtkq 14 ?va14 rfl (by kernel_rfl) (fun _ _ _ h => h) (by rfl) ?ya14 ⟨HX1.out.c0, HX1.out.c2⟩ ?za14
    case ya14 => (intro w hSw; (try dsimp only at hSw); go_simp; try with_reducible rfl)
    try simp only [mz1, mz2, mz3, Act.put, mz4, mz5, mz6]
    refine wpAnyH_done (by kernel_rfl) ?_ _
    have HB9 := HB1
    have HV2 := qa0 (HVr.out.later HB9.out)
    have z2 := HV2.out.c2
    go_wp2_with (refine wpList_store_one rfl 3 _ _ rfl b 2 134 _ (.int .i64 (k1 : Int)) rfl rfl szInt rfl rfl HV2.out (by simp) ?_; intro w3 hv3 hg3; have HV3 : Hid (Cu w3 b s bg k1 ln fs v) := hv3; have HG3 := hg3; clear hv3 hg3)
    have HM3 : Hid ((intOf ((w3.cell? ⟨b, 2, none⟩).getD (.int .i64 0))).toNat = k1) := by show _ = _; rw [HV3.out.c2]; simp [intOf]
    exact ⟨⟨_, _, _, _, _, _, _, _, _, _, _, _, _, _, _, _, _, _, _, _, _, _, ⟨k1, by omega, by omega, HV3.out, qaf HGr.out (qaf (grown_of _ HB9.out) HG3.out)⟩, rfl⟩, by rw [HM3.out, HMr.out]; omega⟩
   ·obtain rfl : k = e := by omega
    have HGo : Hid ((isD (c)) = false) := by rw [← HC.out]; exact HE.out hks
    have HCl : Hid (∀ w' : World, Calls Tryz.prog 103 #[.int .u8 (c : Int)] w' fun r w'' => r = .returned (.bool false) ∧ w' = w'') := fun w' => by have h := qcv w' c hc8; rw [HGo.out] at h; exact h
    go_wp2
    refine wp_region_held (S := fun w' => w'.cell? ⟨b, 0, none⟩ = some (.string s) ∧ w'.cell? ⟨b, 2, none⟩ = some (.int .i64 (k : Int))) (by kernel_rfl) ?_
    change wpAnyH _ _ _ _ _ _ _ _ (World.drew _)
    obtain ⟨W0, HW0⟩ : ∃ W0, Hid (wr.drew = W0) := ⟨_, rfl⟩
    rw [HW0.out]
    have HBW : Hid (Below wr.heap.size wr W0) := by rw [← HW0.out]; exact qas wr
    have HX0 := qa0 (HVr.out.later HBW.out)
    refine wtkq 0 ?vb0 rfl (by kernel_rfl) (fun _ _ _ h => h) (by rfl) ?yb0 ⟨HX0.out.c0, HX0.out.c2⟩ ?zb0
    case yb0 => (intro w hSw; (try dsimp only at hSw); go_simp; try with_reducible rfl)
    try simp only [mz1, mz3, Act.put, mz4, mz5, mz6]
    refine wpAnyH_ready (rs := [1]) (by kernel_rfl) (by simp) ?_
    refine AllReadyH.cons rfl (fun KK hKK => ?_) AllReadyH.nil
    go_simp
    refine (qau _ b bg _ ln fs s v HX0 hks).mono ?_; rintro r1 w1 ⟨rfl, hb1⟩; have HX1 := qa0 (HX0.out.later hb1); have HB1 : Hid (Below wr.heap.size wr w1) := jtwo HBW.out hb1; clear hb1
    refine hKK.out _ _ ⟨HX1.out.c0, HX1.out.c2⟩ (fun _ => ?_)
    clear hKK KK
    try simp only [mz1, mz2, mz3, Act.put, mz4, mz5, mz6]
    refine wtkq 2 ?vb2 rfl (by kernel_rfl) (fun _ _ _ h => h) (by rfl) ?yb2 ⟨HX1.out.c0, HX1.out.c2⟩ ?zb2
    case yb2 => (intro w hSw; (try dsimp only at hSw); go_simp; try with_reducible rfl)
    try simp only [mz1, mz2, mz3, Act.put, mz4, mz5, mz6]
    refine wtkq 3 ?vb3 rfl (by kernel_rfl) (fun _ _ _ h => h) (by rfl) ?yb3 ⟨HX1.out.c0, HX1.out.c2⟩ ?zb3
    case yb3 => (intro w hSw; (try dsimp only at hSw); go_simp; try with_reducible rfl)
    try simp only [mz1, mz2, mz3, Act.put, mz4, mz5, mz6]
    refine wtkq 4 ?vb4 rfl (by kernel_rfl) (fun _ _ _ h => h) (by rfl) ?yb4 ⟨HX1.out.c0, HX1.out.c2⟩ ?zb4
    case yb4 => (intro w hSw; (try dsimp only at hSw); go_simp; try with_reducible rfl)
    try simp only [mz1, mz2, mz3, Act.put, mz4, mz5, mz6]
    refine wtkq 5 ?vb5 rfl (by kernel_rfl) (fun _ _ _ h => h) (by rfl) ?yb5 ⟨HX1.out.c0, HX1.out.c2⟩ ?zb5
    case yb5 => (intro w hSw; (try dsimp only at hSw); go_simp; try with_reducible rfl)
    try simp only [mz1, mz2, mz3, Act.put, mz4, mz5, mz6]
    refine wtkq 6 ?vb6 rfl (by kernel_rfl) (fun _ _ _ h => h) (by rfl) ?yb6 ⟨HX1.out.c0, HX1.out.c2⟩ ?zb6
    case yb6 => (intro w hSw; (try dsimp only at hSw); go_simp; try with_reducible rfl)
    try simp only [mz1, mz2, mz3, Act.put, mz4, mz5, mz6]
    refine wtkq 7 ?vb7 rfl (by kernel_rfl) (fun _ _ _ h => h) (by rfl) ?yb7 ⟨HX1.out.c0, HX1.out.c2⟩ ?zb7
    case yb7 => (intro w hSw; (try dsimp only at hSw); go_simp; try with_reducible rfl)
    try simp only [mz1, mz2, mz3, Act.put, mz4, mz5, mz6]
    refine wtkq 8 ?vb8 rfl (by kernel_rfl) (fun _ _ _ h => h) (by rfl) ?yb8 ⟨HX1.out.c0, HX1.out.c2⟩ ?zb8
    case yb8 => (intro w hSw; (try dsimp only at hSw); go_simp; try with_reducible rfl)
    try simp only [mz1, mz2, mz3, Act.put, mz4, mz5, mz6]
    refine wtkq 9 ?vb9 rfl (by kernel_rfl) (fun _ _ _ h => h) (by rfl) ?yb9 ⟨HX1.out.c0, HX1.out.c2⟩ ?zb9
    case yb9 => (intro w hSw; (try dsimp only at hSw); go_simp; try with_reducible rfl)
    try simp only [mz1, mz2, mz3, Act.put, mz4, mz5, mz6]
    refine wtkq 10 ?vb10 rfl (by kernel_rfl) (fun _ _ _ h => h) (by rfl) ?yb10 ⟨HX1.out.c0, HX1.out.c2⟩ ?zb10
    case yb10 => (intro w hSw; (try dsimp only at hSw); go_simp; try with_reducible rfl)
    try simp only [mz1, mz2, mz3, Act.put, mz4, mz5, mz6]
    refine wtkq 11 ?vb11 rfl (by kernel_rfl) (fun _ _ _ h => h) (by rfl) ?yb11 ⟨HX1.out.c0, HX1.out.c2⟩ ?zb11
    case yb11 => (intro w hSw; (try dsimp only at hSw); go_simp; try with_reducible rfl)
    try simp only [mz1, mz2, mz3, Act.put, mz4, mz5, mz6]
    refine wtkq 12 ?vb12 rfl (by kernel_rfl) (fun _ _ _ h => h) (by rfl) ?yb12 ⟨HX1.out.c0, HX1.out.c2⟩ ?zb12
    case yb12 => (intro w hSw; (try dsimp only at hSw); go_simp; try with_reducible rfl)
    try simp only [mz1, mz2, mz3, Act.put, mz4, mz5, mz6]
    refine wpAnyH_ready (rs := [13]) (by kernel_rfl) (by simp) ?_
    refine AllReadyH.cons rfl (fun KK hKK => ?_) AllReadyH.nil
    go_simp
    refine (HCl.out _).mono ?_; rintro r2 w2 ⟨rfl, rfl⟩
    refine hKK.out _ _ ⟨HX1.out.c0, HX1.out.c2⟩ (fun _ => ?_)
    clear hKK KK
    try simp only [mz1, mz2, mz3, Act.put, mz4, mz5, mz6]
    refine wtkq 14 ?vb14 rfl (by kernel_rfl) (fun _ _ _ h => h) (by rfl) ?yb14 ⟨HX1.out.c0, HX1.out.c2⟩ ?zb14
    case yb14 => (intro w hSw; (try dsimp only at hSw); go_simp; try with_reducible rfl)
    try simp only [mz1, mz2, mz3, Act.put, mz4, mz5, mz6]
    refine wpAnyH_done (by kernel_rfl) ?_ _
    have HB9 := HB1
    go_wp2
    go_end0
    exact ⟨rfl, HVr.out.later HB9.out, qaf HGr.out (grown_of _ HB9.out)⟩
  ·obtain rfl : k = s.size := by omega
   obtain rfl : e = s.size := by omega
   go_wp2
   refine wp_region_held (S := fun w' => w'.cell? ⟨b, 0, none⟩ = some (.string s) ∧ w'.cell? ⟨b, 2, none⟩ = some (.int .i64 (s.size : Int))) (by kernel_rfl) ?_
   change wpAnyH _ _ _ _ _ _ _ _ (World.drew _)
   obtain ⟨W0, HW0⟩ : ∃ W0, Hid (wr.drew = W0) := ⟨_, rfl⟩
   rw [HW0.out]
   have HBW : Hid (Below wr.heap.size wr W0) := by rw [← HW0.out]; exact qas wr
   have HX0 := qa0 (HVr.out.later HBW.out)
   refine wtkq 0 ?vc0 rfl (by kernel_rfl) (fun _ _ _ h => h) (by rfl) ?yc0 ⟨HX0.out.c0, HX0.out.c2⟩ ?zc0
   case yc0 => (intro w hSw; (try dsimp only at hSw); go_simp; try with_reducible rfl)
   try simp only [mz1, mz3, Act.put, mz4, mz5, mz6]
   refine wpAnyH_ready (rs := [1]) (by kernel_rfl) (by simp) ?_
   refine AllReadyH.cons rfl (fun KK hKK => ?_) AllReadyH.nil
   go_simp
   refine (qcd _ b bg _ ln fs s v HX0 rfl).mono ?_; rintro r1 w1 ⟨rfl, hb1⟩; have HX1 := qa0 (HX0.out.later hb1); have HB1 : Hid (Below wr.heap.size wr w1) := jtwo HBW.out hb1; clear hb1
   refine hKK.out _ _ ⟨HX1.out.c0, HX1.out.c2⟩ (fun _ => ?_)
   clear hKK KK
   try simp only [mz1, mz2, mz3, Act.put, mz4, mz5, mz6]
   refine wtkq 2 ?vc2 rfl (by kernel_rfl) (fun _ _ _ h => h) (by rfl) ?yc2 ⟨HX1.out.c0, HX1.out.c2⟩ ?zc2
   case yc2 => (intro w hSw; (try dsimp only at hSw); go_simp; try with_reducible rfl)
   try simp only [mz1, mz2, mz3, Act.put, mz4, mz5, mz6]
   refine wtkq 3 ?vc3 rfl (by kernel_rfl) (fun _ _ _ h => h) (by rfl) ?yc3 ⟨HX1.out.c0, HX1.out.c2⟩ ?zc3
   case yc3 => (intro w hSw; (try dsimp only at hSw); go_simp; try with_reducible rfl)
   try simp only [mz1, mz2, mz3, Act.put, mz4, mz5, mz6]
   refine wskq 4 rfl (by kernel_rfl) (fun _ _ _ h => h) (by rfl) ⟨HX1.out.c0, HX1.out.c2⟩ ?_
   try simp only [mz1, mz2, mz3, Act.put, mz4, mz5, mz6]
   refine wskq 5 rfl (by kernel_rfl) (fun _ _ _ h => h) (by rfl) ⟨HX1.out.c0, HX1.out.c2⟩ ?_
   try simp only [mz1, mz2, mz3, Act.put, mz4, mz5, mz6]
   refine wskq 6 rfl (by kernel_rfl) (fun _ _ _ h => h) (by rfl) ⟨HX1.out.c0, HX1.out.c2⟩ ?_
   try simp only [mz1, mz2, mz3, Act.put, mz4, mz5, mz6]
   refine wskq 7 rfl (by kernel_rfl) (fun _ _ _ h => h) (by rfl) ⟨HX1.out.c0, HX1.out.c2⟩ ?_
   try simp only [mz1, mz2, mz3, Act.put, mz4, mz5, mz6]
   refine wskq 8 rfl (by kernel_rfl) (fun _ _ _ h => h) (by rfl) ⟨HX1.out.c0, HX1.out.c2⟩ ?_
   try simp only [mz1, mz2, mz3, Act.put, mz4, mz5, mz6]
   refine wskq 9 rfl (by kernel_rfl) (fun _ _ _ h => h) (by rfl) ⟨HX1.out.c0, HX1.out.c2⟩ ?_
   try simp only [mz1, mz2, mz3, Act.put, mz4, mz5, mz6]
   refine wskq 10 rfl (by kernel_rfl) (fun _ _ _ h => h) (by rfl) ⟨HX1.out.c0, HX1.out.c2⟩ ?_
   try simp only [mz1, mz2, mz3, Act.put, mz4, mz5, mz6]
   refine wskq 11 rfl (by kernel_rfl) (fun _ _ _ h => h) (by rfl) ⟨HX1.out.c0, HX1.out.c2⟩ ?_
   try simp only [mz1, mz2, mz3, Act.put, mz4, mz5, mz6]
   refine wskq 12 rfl (by kernel_rfl) (fun _ _ _ h => h) (by rfl) ⟨HX1.out.c0, HX1.out.c2⟩ ?_
   try simp only [mz1, mz2, mz3, Act.put, mz4, mz5, mz6]
   refine wskq 13 rfl (by kernel_rfl) (fun _ _ _ h => h) (by rfl) ⟨HX1.out.c0, HX1.out.c2⟩ ?_
   try simp only [mz1, mz2, mz3, Act.put, mz4, mz5, mz6]
   refine wtkq 14 ?vc14 rfl (by kernel_rfl) (fun _ _ _ h => h) (by rfl) ?yc14 ⟨HX1.out.c0, HX1.out.c2⟩ ?zc14
   case yc14 => (intro w hSw; (try dsimp only at hSw); go_simp; try with_reducible rfl)
   try simp only [mz1, mz2, mz3, Act.put, mz4, mz5, mz6]
   refine wpAnyH_done (by kernel_rfl) ?_ _
   have HB9 := HB1
   go_wp2
   go_end0
   exact ⟨rfl, HVr.out.later HB9.out, qaf HGr.out (grown_of _ HB9.out)⟩
end Go.Proofs.YtnjcpmkfghcogaaGreatDoor
