/-
  A group's blocks, moved to where they stand.
-/
import Derived.Test.YtmgfeepnkahkmaaGreatQggid00
import Derived.Test.YtmgfeepnkahkmaaGreatQggid32
set_option maxRecDepth 100000
set_option maxHeartbeats 16000000
namespace Go.Proofs.YtmgfeepnkahkmaaGreat
open Go.RowKit
theorem Jo.set16 {w : World} {B n d g : Nat} {T : TypeId} {K : IntKind} {f : Nat → Nat} (h : Jo w B T K (.slice (some ⟨g, 0, none⟩) n d) n f) (j v : Nat) : Jo (w.setCell ⟨g, j, none⟩ (.int K (v : Int))) B T K (.slice (some ⟨g, 0, none⟩) n d) n (fun i => if i = j then v else f i) := by
 have := (World.ownsRow.stored h j (.int K (v : Int))).1
 unfold Jo
 rw [← qgq, Array.toList_setIfInBounds]
 exact this
theorem mov_port (s : Nat) (w : World) (hs : s < 18446744073709551616) (b0 b1 b2 b3 n : Nat) (q : Nat → Nat) (HN : Hid (cn s 64 = n)) (hq : ∀ t, t < n → q t < 64)
  (hcl : ∀ t, t < n → ∀ w', Below w.heap.size w w' → Calls Tryz.prog 85 #[.int .i64 ((lf s 64 t) : Int), .pointer (some ⟨b0, 0, none⟩), .pointer (some ⟨b1, 0, none⟩), .pointer (some ⟨b2, 0, none⟩), .pointer (some ⟨b3, 0, none⟩)] w' fun e w'' => e = .returned (.int .i64 (q t : Int)) ∧ w' = w'') :
  Calls Tryz.prog 31 #[.int .u64 (s : Int), .func (.func 85) #[] #[.pointer (some ⟨b0, 0, none⟩), .pointer (some ⟨b1, 0, none⟩), .pointer (some ⟨b2, 0, none⟩), .pointer (some ⟨b3, 0, none⟩)]] w fun e w' => e = .returned (.int .u64 (ofs q n : Int)) ∧ Below w.heap.size w w' := by
 obtain ⟨L, HL⟩ : ∃ L : Nat → Nat, Hid (lf s 64 = L) := ⟨_, rfl⟩
 have HLt : Hid (∀ t, t < n → L t < 64) := fun t ht => by rw [← HL.out]; exact (qan (by rw [HN.out]; exact ht)).1
 have hn64 : n ≤ 64 := by rw [← HN.out]; exact qaz 64 s
 have HCl : Hid (∀ t, t < n → ∀ w', Below w.heap.size w w' → Calls Tryz.prog 85 #[.int .i64 (L t : Int), .pointer (some ⟨b0, 0, none⟩), .pointer (some ⟨b1, 0, none⟩), .pointer (some ⟨b2, 0, none⟩), .pointer (some ⟨b3, 0, none⟩)] w' fun e w'' => e = .returned (.int .i64 (q t : Int)) ∧ w' = w'') := fun t ht w' hb => by rw [← HL.out]; exact hcl t ht w' hb
 have HQ : Hid (∀ t, t < n → q t < 64) := hq
 have HLi : Hid (∀ w, Calls Tryz.prog 65 #[.int .u64 (s : Int)] w fun e w' => ∃ v, e = .returned v ∧ Jo w' w.heap.size 3 .i64 v n L ∧ Below w.heap.size w w') := fun w => by rw [← HN.out, ← HL.out]; exact qcx s w hs
 obtain ⟨u, HU⟩ : ∃ u, Hid (ofs q n = u) := ⟨_, rfl⟩
 rw [HU.out]
 clear hcl hq HN HL
 go_enter Tryz.func31, Tryz.ntmps31
 go_wp2_with (first
  | (go_at_call 65; refine (HLi.out _).mono ?_; rintro e w1 ⟨v, rfl, ho1, hb1⟩; obtain ⟨sl, d, rfl, hnil⟩ := ho1.form; have HO1 : Hid (Jo w1 w.heap.size 3 .i64 (.slice sl n d) n L) := ho1; have HB1 : Hid (Below w.heap.size w w1) := hb1; clear ho1 hb1 hnil))
 clear HLi
 go_loopw [6, 7, 14] (fun _ _ j wr => ∃ i : Nat, i ≤ n ∧ j = .int .i64 (i : Int) ∧ Jo wr w.heap.size 3 .i64 (.slice sl n d) n (fun t => if t < i then q t else L t) ∧ Below w.heap.size w wr) (fun _ _ j _ => n - (intOf j).toNat)
 case atStart => exact ⟨0, by omega, rfl, HO1.out.congr (fun t _ => by rw [if_neg (by omega)]), HB1.out⟩
 case round =>
  clear HO1 HB1
  obtain ⟨i, hi, rfl, hrow, hbw⟩ := hrel
  have HO : Hid (Jo wr w.heap.size 3 .i64 (.slice sl n d) n (fun t => if t < i then q t else L t)) := hrow
  have HB : Hid (Below w.heap.size w wr) := hbw
  clear hrow hbw
  by_cases hlt : i < n
  ·obtain ⟨g, rfl, hgB, hgw⟩ := HO.out.addr (by omega)
   have hcell := HO.out.cell i hlt
   have hfree := HO.out.free i
   rw [if_neg (Nat.lt_irrefl i)] at hcell
   obtain ⟨y, HY⟩ : ∃ y, Hid (L i = y) := ⟨_, rfl⟩
   rw [HY.out] at hcell
   obtain ⟨z, HZ⟩ : ∃ z, Hid (q i = z) := ⟨_, rfl⟩
   have HC : Hid (Calls Tryz.prog 85 #[.int .i64 (y : Int), .pointer (some ⟨b0, 0, none⟩), .pointer (some ⟨b1, 0, none⟩), .pointer (some ⟨b2, 0, none⟩), .pointer (some ⟨b3, 0, none⟩)] wr fun e w'' => e = .returned (.int .i64 (z : Int)) ∧ wr = w'') := by have := HCl.out i hlt wr HB.out; rw [HY.out, HZ.out] at this; exact this
   have HS : Hid (Jo (wr.setCell ⟨g, i, none⟩ (.int .i64 (z : Int))) w.heap.size 3 .i64 (.slice (some ⟨g, 0, none⟩) n d) n (fun t => if t < i + 1 then q t else L t)) := by
    refine (HO.out.set16 i z).congr (fun t _ => ?_)
    by_cases e1 : t = i
    ·subst e1; rw [if_pos rfl, if_pos (by omega), HZ.out]
    ·rw [if_neg e1]
     by_cases e2 : t < i
     ·rw [if_pos e2, if_pos (by omega)]
     ·rw [if_neg e2, if_neg (by omega)]
   have HBs : Hid (Below w.heap.size w (wr.setCell ⟨g, i, none⟩ (.int .i64 (z : Int)))) := HB.out.setCell hgB _
   have i0 : (0 : Int) ≤ (i : Int) := Int.natCast_nonneg _
   have i1 : (i : Int) < (n : Int) := by omega
   go_wp2_with (go_at_call 85; refine HC.out.mono ?_; rintro e w' ⟨rfl, rfl⟩)
   exact ⟨⟨i + 1, by omega, by go_num, HS.out, HBs.out⟩, by simp [intOf]; omega⟩
  ·obtain rfl : i = n := by omega
   have HJ : Hid (Jl wr sl .i64 i (fun t => (q t : Int))) := (HO.out.congr (f' := q) (fun t ht => if_pos ht)).jl
   have HOf : Hid (∀ cap, Calls Tryz.prog 66 #[.slice sl i cap] wr fun e w' => e = .returned (.tuple #[.int .u64 (u : Int), .int .i64 0]) ∧ wr = w') := fun cap => by
    have := qgf wr i cap sl (fun t => (q t : Int)) (by omega) HJ.out
    rw [qf5 (fun t ht => by have := HQ.out t ht; omega)] at this
    rw [← HU.out]
    exact this
   go_wp2_with (go_at_call 66; refine (HOf.out _).mono ?_; rintro e w' ⟨rfl, rfl⟩)
   go_ret
   exact ⟨rfl, HB.out⟩
theorem port_at (w : World) (k l s p F i b0 b1 b2 b3 : Nat) (hk : k + l ≤ 64) (hp : p < l) (hi : i ≤ s) (hF : p * s = F) (hfit : F + s ≤ k) (h0 : w.cell? ⟨b0, 0, none⟩ = some (.int .i64 (s : Int))) (h1 : w.cell? ⟨b1, 0, none⟩ = some (.int .i64 (k : Int))) (h2 : w.cell? ⟨b2, 0, none⟩ = some (.int .i64 (p : Int))) (h3 : w.cell? ⟨b3, 0, none⟩ = some (.int .i64 (F : Int))) :
  Calls Tryz.prog 85 #[.int .i64 (i : Int), .pointer (some ⟨b0, 0, none⟩), .pointer (some ⟨b1, 0, none⟩), .pointer (some ⟨b2, 0, none⟩), .pointer (some ⟨b3, 0, none⟩)] w fun e w' => e = .returned (.int .i64 (gpq k s p i : Int)) ∧ w = w' := by
 have wa : IntKind.i64.wrap ((k : Int) + (p : Int)) = ((k + p : Nat) : Int) := by rw [IntKind.wrap_i64]; omega
 have wb : IntKind.i64.wrap ((F : Int) + (i : Int)) = ((F + i : Nat) : Int) := by rw [IntKind.wrap_i64]; omega
 by_cases e : i = s
 ·have g : ((i : Int) == (s : Int)) = true := by simp [e]
  have HG : Hid (gpq k s p i = k + p) := if_pos e
  rw [HG.out]
  clear e hF
  go_enter Tryz.func85, Tryz.ntmps85
  go_wp2
  go_ret
  exact ⟨rfl, rfl⟩
 ·have g : ((i : Int) == (s : Int)) = false := by simp; omega
  have HG : Hid (gpq k s p i = F + i) := by rw [← hF]; exact if_neg e
  rw [HG.out]
  clear hF
  go_enter Tryz.func85, Tryz.ntmps85
  go_wp2
  go_ret
  exact ⟨rfl, rfl⟩
end Go.Proofs.YtmgfeepnkahkmaaGreat
