/-
  Stage 13: the reference's Env.
-/
import Derived.Test.YtemhodenkgngmaaDoorQllks00
import Derived.Test.YtemhodenkgngmaaDoorQllks27
set_option maxRecDepth 100000
set_option maxHeartbeats 16000000
namespace Go.Proofs.YtemhodenkgngmaaDoor
open Go.RowKit
theorem qba {ops : Array Oper} {op : Oper} {a : Act} {w : World} {K : Act → World → Prop} {Q : Exit → Act → World → Prop} {E : Prop} (hgd : op.guard = none) (sl x : Operand) (ho : op.op = .call { callee := .builtin .append, args := #[sl, x], argTypes := #[38, 38] })
  (B : Nat) (v : Value) (L : List Cn) (c : Cn) (hs : a.eval sl = v) (hown : Cw w B v L) (ad : Addr) (hx : a.eval x = .slice (some ad) 1 1) (hc : ∀ j u, [Value.string c.nm, .int .i64 c.n][j]? = some u → w.cell? (ad.add j) = some u) (hlim : L.length ≤ 4000000000000) (hB : B ≤ w.heap.size)
  (h : ∀ v' w', Cw w' B v' (L ++ [c]) → w.grownBy w' v.ownBlock → Below B w w' → K (a.put op.dst v') w') : if Region.wanted op (yielded ops a.tmps) = true then Oper.wp Tryd.prog op a w K Q else E := by
 obtain ⟨i0, hi0, hz0, hz1, hz2⟩ := info_parts jcnst
 have hw : Region.wanted op (yielded ops a.tmps) = true := by simp [Region.wanted, hgd]
 rw [if_pos hw]
 refine wp_append_own w sl x 38 ho B 42 i0 (.agg #[.string ⟨#[]⟩, .int .i64 0]) 2 24 Tryd.underlying38 hi0 hz0 hz1 hz2 rfl (by decide) v L.length _ hs hown ad 1 1 [.string c.nm, .int .i64 c.n] hx rfl hc (by intro u hu; simp at hu; rcases hu with rfl | rfl <;> rfl) (by unfold maxLen; omega) (by omega) hB (fun v' w' h1 h2 _ => h v' w' (Cw.push h1) h2 (jbelow h2 hB (fun k hk => (hown.base hk).1)))
/-- The reference's Env. -/
theorem renv (w : World) (a : Option Addr) (n c : Nat) (F : Nat → Sy) (hF : SyL w a n F) (hn : n ≤ 4000000000000) :
  Calls Tryd.prog 16 #[.slice a n c] w fun e w' => (∃ v, e = .returned v ∧ Cw w' w.heap.size v (cst F n)) ∧ Below w.heap.size w w' := by
 have HF := qa0 hF
 clear hF
 go_enter Tryd.func16, Tryd.ntmps16
 go_wp2
 go_loopw [3, 4] (fun v vi wr => ∃ (i : Nat) (L : List Cn), i ≤ n ∧ vi = .int .i64 (i : Int) ∧ Hid (cst F i = L) ∧ (∃ x d, v = .slice x L.length d) ∧ Cw wr w.heap.size v L ∧ L.length ≤ i ∧ Below w.heap.size w wr) (fun _ vi _ => n - (intOf vi).toNat)
 case atStart => exact ⟨0, [], by omega, rfl, rfl, ⟨none, 0, rfl⟩, Cw.nil _ _, Nat.le_refl _, Below.refl _ _⟩
 case round =>
  obtain ⟨i, L, hi, rfl, HL, ⟨x, d, rfl⟩, hw, hlen, hb⟩ := hrel
  have HW := qa0 hw
  have HB := qa0 hb
  clear hw
  by_cases hlt : i < n
  ·have p0 : (0 : Int) ≤ (i : Int) := by omega
   have p1 : (i : Int) < (n : Int) := by omega
   obtain ⟨ok, b, o, rfl, z0, z1, z2, z3⟩ := HF.out i hlt
   obtain ⟨y, Hy⟩ : ∃ y, Hid (F i = y) := ⟨_, rfl⟩
   rw [Hy.out] at z0 z1 z2 z3
   obtain ⟨nm, k, it, nn⟩ := y
   dsimp only at z0 z1 z2 z3
   have t0 := cell_kept z0 hb
   have t1 := cell_kept z1 hb
   have t3 := cell_kept z3 hb
   by_cases hk : k = 1
   ·have HL2 : Hid (cst F (i + 1) = L ++ [⟨nm, nn⟩]) := by
     show cst F i ++ (if (F i).k = 1 then _ else _) = _
     rw [HL.out, Hy.out, if_pos hk]
    have q0 : ((k : Int) == 1) = true := by simp; omega
    clear hk hb ok
    go_wp2
    refine wp_region_held (S := fun w' => w'.cell? ⟨b, o + i * 4, none⟩ = some (.string nm) ∧ w'.cell? ⟨b, o + i * 4 + 3, none⟩ = some (.int .i64 nn)) (by kernel_rfl) ?_
    change wpAnyH _ _ _ _ _ _ _ _ (World.drew _)
    obtain ⟨wd, HWd⟩ : ∃ wd, Hid (wr.drew = wd) := ⟨_, rfl⟩
    have HBd : Hid (Below wr.heap.size wr wd) := by show Below _ _ _; rw [← HWd.out]; exact (Below.refl _ _).drew
    rw [HWd.out]
    clear HWd
    have HSd : Hid (wd.cell? ⟨b, o + i * 4, none⟩ = some (.string nm) ∧ wd.cell? ⟨b, o + i * 4 + 3, none⟩ = some (.int .i64 nn)) := ⟨cell_kept t0 HBd.out, cell_kept t3 HBd.out⟩
    have HB2 := qa0 (jtwo HB.out HBd.out)
    have HC2 := qa0 (HW.out.later HBd.out)
    refine wtkq 0 ?v0 rfl (by kernel_rfl) (fun _ _ _ h => h) (by rfl) ?y0 HSd.out ?z0
    case y0 => (intro wq hSw; (try dsimp only at hSw); obtain ⟨s1, s2⟩ := hSw; go_simp; try with_reducible rfl)
    try simp only [mz1, mz3, Act.put, mz4, mz5, mz6]
    refine wtkq 1 ?v1 rfl (by kernel_rfl) (fun _ _ _ h => h) (by rfl) ?y1 HSd.out ?z1
    case y1 => (intro wq hSw; (try dsimp only at hSw); obtain ⟨s1, s2⟩ := hSw; go_simp; try with_reducible rfl)
    try simp only [mz1, mz2, mz3, Act.put, mz4, mz5, mz6]
    refine wtkq 2 ?v2 rfl (by kernel_rfl) (fun _ _ _ h => h) (by rfl) ?y2 HSd.out ?z2
    case y2 => (intro wq hSw; (try dsimp only at hSw); obtain ⟨s1, s2⟩ := hSw; go_simp; try with_reducible rfl)
    try simp only [mz1, mz2, mz3, Act.put, mz4, mz5, mz6]
    refine wtkq 3 ?v3 rfl (by kernel_rfl) (fun _ _ _ h => h) (by rfl) ?y3 HSd.out ?z3
    case y3 => (intro wq hSw; (try dsimp only at hSw); obtain ⟨s1, s2⟩ := hSw; go_simp; try with_reducible rfl)
    try simp only [mz1, mz2, mz3, Act.put, mz4, mz5, mz6]
    refine wtkq 4 ?v4 rfl (by kernel_rfl) (fun _ _ _ h => h) (by rfl) ?y4 HSd.out ?z4
    case y4 => (intro wq hSw; (try dsimp only at hSw); obtain ⟨s1, s2⟩ := hSw; go_simp; try with_reducible rfl)
    try simp only [mz1, mz2, mz3, Act.put, mz4, mz5, mz6]
    refine wtkq 5 ?v5 rfl (by kernel_rfl) (fun _ _ _ h => h) (by rfl) ?y5 HSd.out ?z5
    case y5 => (intro wq hSw; (try dsimp only at hSw); obtain ⟨s1, s2⟩ := hSw; go_simp; try with_reducible rfl)
    try simp only [mz1, mz2, mz3, Act.put, mz4, mz5, mz6]
    refine wtkq 6 ?v6 rfl (by kernel_rfl) (fun _ _ _ h => h) (by rfl) ?y6 HSd.out ?z6
    case y6 => (intro wq hSw; (try dsimp only at hSw); obtain ⟨s1, s2⟩ := hSw; go_simp; try with_reducible rfl)
    try simp only [mz1, mz2, mz3, Act.put, mz4, mz5, mz6]
    refine wtkq 7 ?v7 rfl (by kernel_rfl) (fun _ _ _ h => h) (by rfl) ?y7 HSd.out ?z7
    case y7 => (intro wq hSw; (try dsimp only at hSw); obtain ⟨s1, s2⟩ := hSw; go_simp; try with_reducible rfl)
    try simp only [mz1, mz2, mz3, Act.put, mz4, mz5, mz6]
    refine wtkq 8 ?v8 rfl (by kernel_rfl) (fun _ _ _ h => h) (by rfl) ?y8 HSd.out ?z8
    case y8 => (intro wq hSw; (try dsimp only at hSw); obtain ⟨s1, s2⟩ := hSw; go_simp; try with_reducible rfl)
    try simp only [mz1, mz2, mz3, Act.put, mz4, mz5, mz6]
    refine wtkq 9 ?v9 rfl (by kernel_rfl) (fun _ _ _ h => h) (by rfl) ?y9 HSd.out ?z9
    case y9 => (intro wq hSw; (try dsimp only at hSw); obtain ⟨s1, s2⟩ := hSw; go_simp; try with_reducible rfl)
    try simp only [mz1, mz2, mz3, Act.put, mz4, mz5, mz6]
    refine wtkq 10 ?v10 rfl (by kernel_rfl) (fun _ _ _ h => h) (by rfl) ?y10 HSd.out ?z10
    case y10 => (intro wq hSw; (try dsimp only at hSw); obtain ⟨s1, s2⟩ := hSw; go_simp; try with_reducible rfl)
    try simp only [mz1, mz2, mz3, Act.put, mz4, mz5, mz6]
    refine wtkq 11 ?v11 rfl (by kernel_rfl) (fun _ _ _ h => h) (by rfl) ?y11 HSd.out ?z11
    case y11 => (intro wq hSw; (try dsimp only at hSw); obtain ⟨s1, s2⟩ := hSw; go_simp; try with_reducible rfl)
    try simp only [mz1, mz2, mz3, Act.put, mz4, mz5, mz6]
    refine wpAnyH_ready (rs := [12]) (by kernel_rfl) (by simp) ?_
    refine AllReadyH.cons rfl (fun KK hKK => ?_) AllReadyH.nil
    go_simp
    refine hKK.out _ _ ⟨cell_kept HSd.out.1 (jlow _ _), cell_kept HSd.out.2 (jlow _ _)⟩ (fun _ => ?_)
    clear hKK KK
    try simp only [mz1, mz2, mz3, Act.put, mz4, mz5, mz6]
    refine wpAnyH_ready (rs := [13]) (by kernel_rfl) (by simp) ?_
    refine AllReadyH.cons rfl (fun KK hKK => ?_) AllReadyH.nil
    refine qba rfl _ _ rfl w.heap.size _ L ⟨nm, nn⟩ rfl (HC2.out.later (jlow _ _)) ⟨wd.heap.size, 0, none⟩ rfl (qbh _ _ _) (by omega) (by have := HB2.out.size; simp; omega) ?_
    intro v' w6 hT6 hG6 hb6
    have HT6 := qa0 hT6
    have HB6 := qa0 ((HB2.out.trans ((jlow _ _).mono HB2.out.size)).trans hb6)
    obtain ⟨x', d', rfl, _⟩ := hT6.form
    have HSe : Hid (w6.cell? ⟨b, o + i * 4, none⟩ = some (.string nm) ∧ w6.cell? ⟨b, o + i * 4 + 3, none⟩ = some (.int .i64 nn)) := ⟨cell_kept z0 HB6.out, cell_kept z3 HB6.out⟩
    refine hKK.out _ _ HSe.out (fun _ => ?_)
    clear hKK KK
    try simp only [mz1, mz2, mz3, Act.put, mz4, mz5, mz6]
    refine wtkq 14 ?v14 rfl (by kernel_rfl) (fun _ _ _ h => h) (by rfl) ?y14 HSe.out ?z14
    case y14 => (intro wq hSw; (try dsimp only at hSw); go_simp; try with_reducible rfl)
    try simp only [mz1, mz2, mz3, Act.put, mz4, mz5, mz6]
    refine wpAnyH_done (by kernel_rfl) ?_ _
    try simp only [mz1, mz2, mz3, Act.put, mz4, mz5, mz6]
    go_wp2
    have hl1 : (L ++ [(⟨nm, nn⟩ : Cn)]).length = L.length + 1 := by rw [List.length_append]; rfl
    have HT7 : Hid (Cw w6 w.heap.size (.slice x' (L.length + 1) d') (L ++ [⟨nm, nn⟩])) := by have h := HT6.out; rw [hl1] at h; exact h
    exact ⟨⟨i + 1, _, by omega, by go_num, HL2, ⟨x', d', by rw [hl1]⟩, HT7.out, by rw [List.length_append]; show _ + 1 ≤ _; omega, HB6.out⟩, by simp [intOf]; omega⟩
   ·have HL2 : Hid (cst F (i + 1) = L) := by
     show cst F i ++ (if (F i).k = 1 then _ else _) = _
     rw [HL.out, Hy.out, if_neg hk, List.append_nil]
    have q0 : ((k : Int) == 1) = false := by simp; omega
    clear hk hb ok
    go_wp2
    exact ⟨⟨i + 1, _, by omega, by go_num, HL2, ⟨x, d, rfl⟩, HW.out, by omega, HB.out⟩, by simp [intOf]; omega⟩
  ·obtain rfl : i = n := by omega
   clear hb
   go_wp2
   go_ret
   exact ⟨⟨_, rfl, by rw [HL.out]; exact HW.out⟩, HB.out⟩
end Go.Proofs.YtemhodenkgngmaaDoor
