/-
  Stage 13: the reference's Like over like lists; the tables of beginnings.
-/
import Derived.Test.YtemhodenkgngmaaDoorQmmre00
import Derived.Test.YtemhodenkgngmaaDoorQmmre37
set_option maxRecDepth 100000
set_option maxHeartbeats 16000000
namespace Go.Proofs.YtemhodenkgngmaaDoor
open Go.RowKit Go.Shelf Go.Maps
theorem rlike13 (w : World) (x3 x4 : Option Addr) (n d3 d4 : Nat) (F : Nat → Sy) (h3 : SyL w x3 n F) (h4 : SyL w x4 n F) (hn : n ≤ 3600000000000) :
  Calls Tryd.prog 11 #[.slice x3 n d3, .slice x4 n d4] w fun e w' => e = .returned (.bool true) ∧ Below w.heap.size w w' := by
 have H3 := qa0 h3
 have H4 := qa0 h4
 have hns := neq_sy13
 have hng := qc7
 clear h3 h4
 go_enter Tryd.func11, Tryd.ntmps11
 go_wp2
 go_loopw [5] (fun vi wr => ∃ i : Nat, i ≤ n ∧ vi = .int .i64 (i : Int) ∧ SyL wr x3 n F ∧ SyL wr x4 n F ∧ Below w.heap.size w wr) (fun vi _ => n - (intOf vi).toNat)
 case atStart => exact ⟨0, by omega, rfl, H3.out, H4.out, Below.refl _ _⟩
 case round =>
  obtain ⟨i, hi, rfl, hx, hy, hb⟩ := hrel
  have HX := qa0 hx
  have HY := qa0 hy
  have HB := qa0 hb
  clear hb H3 H4
  by_cases hlt : i < n
  ·have p0 : (0 : Int) ≤ (i : Int) := by omega
   have p1 : (i : Int) < (n : Int) := by omega
   obtain ⟨ok3, b3, o3, ex3, k0, k1, k2, k3⟩ := hx i hlt
   obtain ⟨ok4, b4, o4, ex4, r0, r1, r2, r3⟩ := hy i hlt
   subst ex3
   subst ex4
   generalize hyy : F i = y at k0 k1 k2 k3 r0 r1 r2 r3
   obtain ⟨yn, yk, yi, yv⟩ := y
   dsimp only at k0 k1 k2 k3 r0 r1 r2 r3
   clear ok3 ok4 hx hy hyy
   go_wp2
   refine wp_region_held (S := fun w' => w'.cell? ⟨b3, o3 + i * 4, none⟩ = some (.string yn) ∧ w'.cell? ⟨b3, o3 + i * 4 + 1, none⟩ = some (.int .u8 (yk : Int)) ∧ w'.cell? ⟨b3, o3 + i * 4 + 2, none⟩ = some (.int .i64 yi) ∧ w'.cell? ⟨b3, o3 + i * 4 + 3, none⟩ = some (.int .i64 yv) ∧ w'.cell? ⟨b4, o4 + i * 4, none⟩ = some (.string yn) ∧ w'.cell? ⟨b4, o4 + i * 4 + 1, none⟩ = some (.int .u8 (yk : Int)) ∧ w'.cell? ⟨b4, o4 + i * 4 + 2, none⟩ = some (.int .i64 yi) ∧ w'.cell? ⟨b4, o4 + i * 4 + 3, none⟩ = some (.int .i64 yv)) (by kernel_rfl) ?_
   change wpAnyH _ _ _ _ _ _ _ _ (World.drew _)
   obtain ⟨W0, HW0⟩ : ∃ W0, Hid (wr.drew = W0) := ⟨_, rfl⟩
   rw [HW0.out]
   have hbW : Below wr.heap.size wr W0 := by rw [← HW0.out]; exact (Below.refl _ _).drew
   have HB0 := qa0 (jtwo HB.out hbW)
   have HX0 := qa0 (HX.out.later hbW)
   have HY0 := qa0 (HY.out.later hbW)
   have c0 := cell_kept k0 hbW
   have c1 := cell_kept k1 hbW
   have c2 := cell_kept k2 hbW
   have c3 := cell_kept k3 hbW
   have e0 := cell_kept r0 hbW
   have e1 := cell_kept r1 hbW
   have e2 := cell_kept r2 hbW
   have e3 := cell_kept r3 hbW
   clear hbW k0 k1 k2 k3 r0 r1 r2 r3 HB HX HY HW0
   refine wtkq 0 ?v0 rfl (by kernel_rfl) (fun _ _ _ h => h) (by rfl) ?y0 ⟨c0, c1, c2, c3, e0, e1, e2, e3⟩ ?z0
   case y0 => (intro w hSw; (try dsimp only at hSw); go_simp; try with_reducible rfl)
   try simp only [mz1, mz3, Act.put, mz4, mz5, mz6]
   refine wtkq 1 ?v1 rfl (by kernel_rfl) (fun _ _ _ h => h) (by rfl) ?y1 ⟨c0, c1, c2, c3, e0, e1, e2, e3⟩ ?z1
   case y1 => (intro w hSw; (try dsimp only at hSw); go_simp; try with_reducible rfl)
   try simp only [mz1, mz2, mz3, Act.put, mz4, mz5, mz6]
   refine wtkq 2 ?v2 rfl (by kernel_rfl) (fun _ _ _ h => h) (by rfl) ?y2 ⟨c0, c1, c2, c3, e0, e1, e2, e3⟩ ?z2
   case y2 => (intro w hSw; (try dsimp only at hSw); go_simp; try with_reducible rfl)
   try simp only [mz1, mz2, mz3, Act.put, mz4, mz5, mz6]
   refine wtkq 3 ?v3 rfl (by kernel_rfl) (fun _ _ _ h => h) (by rfl) ?y3 ⟨c0, c1, c2, c3, e0, e1, e2, e3⟩ ?z3
   case y3 => (intro w hSw; (try dsimp only at hSw); go_simp; try with_reducible rfl)
   try simp only [mz1, mz2, mz3, Act.put, mz4, mz5, mz6]
   refine wtkq 4 ?v4 rfl (by kernel_rfl) (fun _ _ _ h => h) (by rfl) ?y4 ⟨c0, c1, c2, c3, e0, e1, e2, e3⟩ ?z4
   case y4 => (intro w hSw; (try dsimp only at hSw); go_simp; try with_reducible rfl)
   try simp only [mz1, mz2, mz3, Act.put, mz4, mz5, mz6]
   refine wtkq 5 ?v5 rfl (by kernel_rfl) (fun _ _ _ h => h) (by rfl) ?y5 ⟨c0, c1, c2, c3, e0, e1, e2, e3⟩ ?z5
   case y5 => (intro w hSw; (try dsimp only at hSw); go_simp; try with_reducible rfl)
   try simp only [mz1, mz2, mz3, Act.put, mz4, mz5, mz6]
   refine wtkq 6 ?v6 rfl (by kernel_rfl) (fun _ _ _ h => h) (by rfl) ?y6 ⟨c0, c1, c2, c3, e0, e1, e2, e3⟩ ?z6
   case y6 => (intro w hSw; (try dsimp only at hSw); go_simp; try with_reducible rfl)
   try simp only [mz1, mz2, mz3, Act.put, mz4, mz5, mz6]
   refine wtkq 7 ?v7 rfl (by kernel_rfl) (fun _ _ _ h => h) (by rfl) ?y7 ⟨c0, c1, c2, c3, e0, e1, e2, e3⟩ ?z7
   case y7 => (intro w hSw; (try dsimp only at hSw); go_simp; try with_reducible rfl)
   try simp only [mz1, mz2, mz3, Act.put, mz4, mz5, mz6]
   refine wtkq 8 ?v8 rfl (by kernel_rfl) (fun _ _ _ h => h) (by rfl) ?y8 ⟨c0, c1, c2, c3, e0, e1, e2, e3⟩ ?z8
   case y8 => (intro w hSw; (try dsimp only at hSw); go_simp; try with_reducible rfl)
   try simp only [mz1, mz2, mz3, Act.put, mz4, mz5, mz6]
   refine wpAnyH_done (by kernel_rfl) ?_ _
   go_wp2
   exact ⟨⟨i + 1, by omega, by go_num, HX0.out, HY0.out, HB0.out⟩, by simp [intOf]; omega⟩
  ·obtain rfl : i = n := by omega
   clear hx hy
   go_wp2
   go_ret
   exact ⟨rfl, HB.out⟩
theorem wfl_code {E : ByteArray → Option Nat} : ∀ {U : List Us}, wfl E U ≠ (0, 0, 0) → (wfl E U).1 ≠ 0 := by
 intro U
 induction U with
 | nil => intro h; exact absurd rfl h
 | cons u r ih =>
  show (match E u.nm with | none => ((121 : Int), u.ln, u.cl) | some k => if k = u.k then wfl E r else (131, u.ln, u.cl)) ≠ _ → _
  intro h
  show (match E u.nm with | none => ((121 : Int), u.ln, u.cl) | some k => if k = u.k then wfl E r else (131, u.ln, u.cl)).1 ≠ 0
  cases hE : E u.nm with
  | none => exact (by decide : (121 : Int) ≠ 0)
  | some k =>
   rw [hE] at h
   dsimp only at h ⊢
   by_cases hk : k = u.k
   ·rw [if_pos hk] at h ⊢; exact ih h
   ·rw [if_neg hk]; exact (by decide : (131 : Int) ≠ 0)
theorem stp_bad {i : Nat} {I : It} {T : List Sy} {c ln cl : Int} (h : stp i I T = .error (c, ln, cl)) : c ≠ 0 := by
 unfold stp at h
 split at h
 ·rename_i g; cases h; exact wfl_code g
 ·split at h
  ·rename_i g; cases h; omega
  ·split at h
   ·split at h
    ·cases h; decide
    ·cases h
   ·cases h
theorem qb5 (F : Nat → It) (n : Nat) : tbl F (n + 1) = (match tbl F n with | .error (c, ln, cl) => .error (c, ln, cl) | .ok T => stp n (F n) T) := rfl
theorem tbl_code {F : Nat → It} : ∀ {n : Nat} {c ln cl : Int}, tbl F n = .error (c, ln, cl) → c ≠ 0 := by
 intro n
 induction n with
 | zero => intro c ln cl h; cases h
 | succ n ih =>
  intro c ln cl h
  rw [qb5] at h
  cases hn : tbl F n with
  | error qq =>
   obtain ⟨c', l1, l2⟩ := qq
   rw [hn] at h; cases h; exact ih hn
  | ok T => rw [hn] at h; exact stp_bad h
theorem tbl_len {F : Nat → It} : ∀ {n : Nat} {T : List Sy}, tbl F n = .ok T → T.length ≤ n := by
 intro n
 induction n with
 | zero => intro T h; cases h; exact Nat.le_refl _
 | succ n ih =>
  intro T h
  rw [qb5] at h
  cases hn : tbl F n with
  | error qq =>
   obtain ⟨c', l1, l2⟩ := qq
   rw [hn] at h; cases h
  | ok V =>
   rw [hn] at h
   have := ih hn
   dsimp only at h
   unfold stp at h
   split at h
   ·cases h
   ·split at h
    ·cases h
    ·split at h
     ·split at h
      ·cases h
      ·cases h; rw [List.length_append]; show _ + 1 ≤ _; omega
     ·cases h; omega
end Go.Proofs.YtemhodenkgngmaaDoor
