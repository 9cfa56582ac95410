/-
  Contracts of the wire's reference: Num.
-/
import Derived.Test.YtlfmekjkgegclabHb
import Derived.Test.YtlfmekjkgegclabJb
namespace Go.Proofs.Ytlfmekjkgegclab
open Go.RowKit
theorem jbyte : (Try.prog.info? 5).map (fun i => (i.zero, i.size, i.bytes)) = some (some (.int .u8 0), 1, 1) := by kernel_rfl
/-- A number is put behind a list of the call's own. -/
theorem Jo.put8 {w w2 : World} {B n : Nat} {T : TypeId} {K : IntKind} {v v' : Value} {f : Nat → Nat} {x : Nat} {o : Obj} (h : Jo w B T K v n f) (hB : B ≤ w.heap.size)
    (hown : w2.ownsRow B T 1 v' (n + 1) ((jrow K n f).toList ++ [.int K (x : Int)])) (hg : (w.alloc o).grownBy w2 v.ownBlock) (hx : x = f n) : Jo w2 B T K v' (n + 1) f ∧ Below B w w2 := by
  refine ⟨?_, ?_⟩
  · unfold Jo
    rw [jrow_congr K (n + 1) f (fun i => if i = n then x else f i) (fun i _ => by split; rename_i e; rw [e, hx]; rfl), ← jrow_push]
    exact hown
  · have h1 : Below B w (w.alloc o) := (jlow w o).mono hB
    exact h1.trans (jbelow hg (by have := (jlow w o).size; omega) (fun g hg' => (h.base hg').1))
theorem div_step (n j : Nat) : n / 128 ^ j / 128 = n / 128 ^ (j + 1) := by rw [Nat.div_div_eq_div_mul, Nat.pow_succ]
set_option maxRecDepth 20000 in
set_option maxHeartbeats 1000000 in
theorem rnum8_ok (w : World) (n L : Nat) (hn : n < 9223372036854775808) (HN : Hid (NF n L)) :
    Calls Try.prog 33 #[.int .i64 (n : Int)] w fun e w' => ∃ v, e = .returned (.tuple #[v, .int .i64 0]) ∧ Jo w' w.heap.size 5 .u8 v L (nby n) ∧ Below w.heap.size w w' := by
  obtain ⟨i0, hi0, hz0, hz1, hz2⟩ := info_parts jbyte
  have HO : Hid (Jo w w.heap.size 5 .u8 (.slice none 0 0) 0 (nby n)) := Jo.nil _ _ _ _ _
  have hL9 := nf_nine HN.out hn
  have hL1 := HN.out.1
  go_enter Try.func33, Try.ntmps33
  go_wp2
  go_loopw [0, 4] (fun vn v wr => ∃ j z : Nat, j < L ∧ Hid (n / 128 ^ j = z) ∧ vn = .int .i64 (z : Int) ∧ Jo wr w.heap.size 5 .u8 v j (nby n) ∧ Below w.heap.size w wr) (fun vn _ _ => (intOf vn).toNat)
  case atStart => exact ⟨0, n, by omega, (by show _ = _; rw [Nat.pow_zero, Nat.div_one]), rfl, HO.out, Below.refl _ _⟩
  case round =>
    clear HO
    obtain ⟨j, z, hj, HZ, rfl, I, hb⟩ := hrel
    obtain ⟨ps, pd, rfl, hpn⟩ := I.form
    have HI : Hid (Jo wr w.heap.size 5 .u8 (.slice ps j pd) j (nby n)) := I
    have HB : Hid (Below w.heap.size w wr) := hb
    have hwsz := hb.size
    have hz63 : z < 9223372036854775808 := by rw [← HZ.out]; exact Nat.lt_of_le_of_lt (Nat.div_le_self _ _) hn
    have hml2 : j + 1 ≤ maxLen := by unfold maxLen; omega
    clear I hb
    by_cases hbig : 128 ≤ z
    · have hj1 : j + 1 < L := Classical.byContradiction fun h => by
        have := HN.out.last (j := j) (by omega)
        rw [HZ.out] at this
        omega
      obtain ⟨x, HX⟩ : ∃ x, Hid (z % 128 + 128 = x) := ⟨_, rfl⟩
      obtain ⟨z', HZ'⟩ : ∃ z', Hid (z / 128 = z') := ⟨_, rfl⟩
      have hx8 : x < 256 := by have := HX.out; omega
      have e1 : (z : Int) % 128 + 128 = (x : Int) := by have := HX.out; omega
      have e2 : (z : Int) / 128 = (z' : Int) := by have := HZ'.out; omega
      have hzz : z' < z := by have := HZ'.out; omega
      have HY : Hid (x = nby n j) := by
        show x = nby n j
        unfold nby
        rw [HZ.out, if_neg (by omega)]
        exact HX.out.symm
      have HZ2 : Hid (n / 128 ^ (j + 1) = z') := by show _ = _; rw [← div_step, HZ.out]; exact HZ'.out
      go_wp2_with (at_builtin; refine wpList_append_own _ rfl _ _ 22 rfl w.heap.size 5 i0 (.int .u8 0) 1 1 Try.underlying22 hi0 hz0 hz1 hz2 rfl (by decide) _ j _ rfl (World.ownsRow.alloc HI.out _) ⟨wr.heap.size, 0, none⟩ 1 1 [.int .u8 (x : Int)] rfl rfl (jone_new _ _ _ _) (jone_one _ _) hml2 (by omega) (by simp; omega) ?_; intro v' w6 hown' hgrow' _; have HO6 := HI.out.put8 HB.out.size hown' hgrow' HY.out; clear hown' hgrow')
      exact ⟨⟨j + 1, z', hj1, HZ2, by go_num, HO6.1, HB.out.trans HO6.2⟩, by simp [intOf]; omega⟩
    · have hj1 : j + 1 = L := by
        by_cases h : j + 1 < L
        · have := HN.out.more h
          rw [HZ.out] at this
          omega
        · omega
      have HY : Hid (z = nby n j) := by
        show z = nby n j
        unfold nby
        rw [HZ.out, if_pos (by omega)]
      go_wp2_with (at_builtin; refine wpList_append_own _ rfl _ _ 22 rfl w.heap.size 5 i0 (.int .u8 0) 1 1 Try.underlying22 hi0 hz0 hz1 hz2 rfl (by decide) _ j _ rfl (World.ownsRow.alloc HI.out _) ⟨wr.heap.size, 0, none⟩ 1 1 [.int .u8 (z : Int)] rfl rfl (jone_new _ _ _ _) (jone_one _ _) hml2 (by omega) (by simp; omega) ?_; intro v' w6 hown' hgrow' _; have HO6 := HI.out.put8 HB.out.size hown' hgrow' HY.out; clear hown' hgrow')
      go_ret2
      exact ⟨_, rfl, by rw [← hj1]; exact HO6.1, HB.out.trans HO6.2⟩
set_option maxHeartbeats 400000 in
theorem rnum8_bad (w : World) (n : Int) (hn : n < 0) : Calls Try.prog 33 #[.int .i64 n] w fun e w' => e = .returned (.tuple #[.slice none 0 0, .int .i64 2]) ∧ w = w' := by
  go_enter Try.func33, Try.ntmps33
  go_wp2
  go_ret2
  exact ⟨rfl, rfl⟩
end Go.Proofs.Ytlfmekjkgegclab
