/-
  Contracts of the landed wire: Sum, withNum, Num, ReadNum.
-/
import Derived.Test.YtlfmekjkgegclabIa
namespace Go.Proofs.Ytlfmekjkgegclab
open Go.RowKit
theorem made_l (w : World) (ls : Array Value) (HL : Hid (ls = jrow .u32 256 tb8)) : Calls Try.prog 23 #[] w fun e w' => e = .returned (.agg ls) ∧ Below w.heap.size w w' := by rw [HL.out]; exact made_any w
theorem wpList_store_tb {ops : Array Oper} {rest : List Oper} {op : Oper} {a : Act} {w : World} {Q : Exit → Act → World → Prop} (hgd : op.guard = none) (p q : Operand) (ho : op.op = .store 55 p q)
    (w1 : World) (zs ls : Array Value) (HZ : Hid (zs = jrow .u32 256 fun _ => 0)) (HL : Hid (ls = jrow .u32 256 tb8)) (hw : w = w1.alloc (.cells zs 55)) (hp : a.eval p = .pointer (some ⟨w1.heap.size, 0, none⟩)) (hq : a.eval q = .agg ls)
    (h : ∀ w', Hid (Tb w' w1.heap.size) → Hid (Below w1.heap.size w1 w') → wpList Try.prog ops Q rest (a.put op.dst undef) w') : wpList Try.prog ops Q (op :: rest) a w := by
  have hO : w.heap[w1.heap.size]? = some (.cells zs 55 (0, 0)) := by rw [hw]; exact heap_alloc_new ..
  refine wpList_store_row hgd 55 p q ho w1.heap.size ls hp hq 55 zs hO (by rw [HL.out, jrow_size]; exact size_su) (by rw [HZ.out, HL.out, jrow_size, jrow_size]) (by rw [HL.out]; exact jrow_one _ _ _) (h _ ?_ ?_)
  · show Tb _ _
    unfold Tb JAt
    rw [setRow_heap _ _ _ _ _ _ hO, HL.out]
  · show Below _ _ _
    rw [hw]
    exact below_setRow (jlow _ _) (Nat.le_refl _) _
theorem zero_sl {zs : Array Value} (HZ : Hid (zs = jrow .u32 256 fun _ => 0)) : ∀ w, Sem.run Try.prog (zeroValue 55) w = .ok (.agg zs) w := by rw [HZ.out]; exact zero_su
set_option maxRecDepth 20000 in
set_option maxHeartbeats 1000000 in
theorem qsum_ok (w : World) (a : Option Addr) (n c : Nat) (f : Nat → Nat) (ha : Sl w a n f) (hn : n ≤ 140737488351232) :
    Calls Try.prog 16 #[.slice a n c] w fun e w' => e = .returned (.int .u32 ((cs f n : Nat) : Int)) ∧ Below w.heap.size w w' := by
  obtain ⟨zs, HZ⟩ : ∃ zs, Hid (zs = jrow .u32 256 fun _ => 0) := ⟨_, rfl⟩
  obtain ⟨ls, HL⟩ : ∃ ls, Hid (ls = jrow .u32 256 tb8) := ⟨_, rfl⟩
  have z := zero_sl HZ
  obtain ⟨S, HS⟩ : ∃ S, Hid (cs f n = S) := ⟨_, rfl⟩
  have HO : Hid (∀ (w' : World) (t : Nat), Tb w' t → Below w.heap.size w w' → Calls Try.prog 28 #[.pointer (some ⟨t, 0, none⟩), .slice a n c] w' fun e w'' => e = .returned (.int .u32 (S : Int)) ∧ w' = w'') := fun w' t ht hb => by
    rw [← HS.out]
    exact of_ok w' t a n c f ht (ha.later hb) hn
  rw [HS.out]
  clear ha
  go_enter Try.func16, Try.ntmps16
  go_wp2_with (first
    | (go_at_call 23; refine (made_l _ ls HL).mono ?_; rintro e w1 ⟨rfl, hb1⟩; have HB1 := jhid8 hb1; clear hb1)
    | (refine wpList_store_tb rfl _ _ rfl w1 zs ls HZ HL rfl rfl rfl ?_; intro w2 HT2 hb2; have HB2 : Hid (Below w.heap.size w w2) := jtwo HB1.out hb2.out; clear hb2)
    | (go_at_call 28; refine (HO.out _ _ HT2.out HB2.out).mono ?_; rintro e w' ⟨rfl, rfl⟩))
  go_ret
  exact ⟨rfl, HB2.out⟩
theorem and_grp {z : Nat} (h : z < 9223372036854775808) : bits .and .i64 (z : Int) 127 = ((z % 128 : Nat) : Int) := by
  show IntKind.i64.wrap ((BitVec.ofInt 64 (z : Int) &&& BitVec.ofInt 64 ((127 : Nat) : Int)).toNat : Int) = _
  rw [BitVec.toNat_and, ofInt_i64 z h, ofInt_i64 127 (by decide), IntKind.wrap_i64, show (127 : Nat) = 2 ^ 7 - 1 from rfl, Nat.and_two_pow_sub_one_eq_mod, show (2 : Nat) ^ 7 = 128 from rfl]
  omega
theorem or_more {z : Nat} (h : z < 128) : bits .or .i64 (z : Int) 128 = ((z + 128 : Nat) : Int) := by
  have h1 := i64_or_nat8 z 128 (by omega) (by decide)
  have e : z ||| 128 = z + 128 := by
    have := Nat.two_pow_add_eq_or_of_lt (i := 7) (b := z) (by omega) 1
    rw [Nat.or_comm, Nat.add_comm]
    exact this.symm
  rw [e] at h1
  exact h1
set_option maxRecDepth 20000 in
set_option maxHeartbeats 1000000 in
theorem wnum_own (w : World) (B m n L : Nat) (v : Value) (f : Nat → Nat) (hJ : Jo w B 5 .u8 v m f) (hB : B ≤ w.heap.size) (hm : m ≤ 1000) (hn : n < 9223372036854775808) (HN : Hid (NF n L)) :
    Calls Try.prog 22 #[v, .int .i64 (n : Int)] w fun e w' => ∃ v', e = .returned v' ∧ Jo w' B 5 .u8 v' (m + L) (cat f (nby n) m) ∧ Below B w w' := by
  obtain ⟨i0, hi0, hz0, hz1, hz2⟩ := info_parts jbyte
  obtain ⟨C, HC⟩ : ∃ C, Hid (cat f (nby n) m = C) := ⟨_, rfl⟩
  have HO : Hid (Jo w B 5 .u8 v m C) := by rw [← HC.out]; exact hJ.congr (fun i hi => (cat_low hi).symm)
  have HCn : Hid (∀ j, C (m + j) = nby n j) := fun j => by rw [← HC.out, cat_add]
  rw [HC.out]
  have hL9 := nf_nine HN.out hn
  have hL1 := HN.out.1
  clear hJ
  go_enter Try.func22, Try.ntmps22
  go_wp2
  go_loopw [0, 1] (fun v vn wr => ∃ j z : Nat, j < L ∧ Hid (n / 128 ^ j = z) ∧ vn = .int .i64 (z : Int) ∧ Jo wr B 5 .u8 v (m + j) C ∧ Below B w wr) (fun _ vn _ => (intOf vn).toNat)
  case atStart => exact ⟨0, n, by omega, (by show _ = _; rw [Nat.pow_zero, Nat.div_one]), rfl, HO.out, (Below.refl _ _).mono hB⟩
  case round =>
    clear HO
    obtain ⟨j, z, hj, HZ, rfl, I, hb⟩ := hrel
    obtain ⟨p, HP⟩ : ∃ p, Hid (m + j = p) := ⟨_, rfl⟩
    rw [HP.out] at I
    obtain ⟨ps, pd, rfl, hpn⟩ := I.form
    have HI : Hid (Jo wr B 5 .u8 (.slice ps p pd) p C) := I
    have HB : Hid (Below B w wr) := hb
    have hwsz := hb.size
    have hz63 : z < 9223372036854775808 := by rw [← HZ.out]; exact Nat.lt_of_le_of_lt (Nat.div_le_self _ _) hn
    have hp9 : p ≤ 1010 := by have := HP.out; omega
    have hml2 : p + 1 ≤ maxLen := by unfold maxLen; omega
    have hBr : B ≤ wr.heap.size := by omega
    clear I hb
    by_cases hbig : 128 ≤ z
    · have hj1 : j + 1 < L := Classical.byContradiction fun h => by
        have := HN.out.last (j := j) (by omega)
        rw [HZ.out] at this
        omega
      obtain ⟨y, HY0⟩ : ∃ y, Hid (z % 128 = y) := ⟨_, rfl⟩
      obtain ⟨x, HX⟩ : ∃ x, Hid (y + 128 = x) := ⟨_, rfl⟩
      obtain ⟨z', HZ'⟩ : ∃ z', Hid (z / 128 = z') := ⟨_, rfl⟩
      have hy8 : y < 128 := by have := HY0.out; omega
      have hx8 : x < 256 := by have := HX.out; omega
      have e1 : bits .and .i64 (z : Int) 127 = (y : Int) := by rw [and_grp hz63, HY0.out]
      have e3 : bits .or .i64 (y : Int) 128 = (x : Int) := by rw [or_more hy8, HX.out]
      have e2 : (z : Int) / 128 = (z' : Int) := by have := HZ'.out; omega
      have hzz : z' < z := by have := HZ'.out; omega
      have HY : Hid (x = C p) := by
        show x = C p
        rw [← HP.out, HCn.out]
        unfold nby
        rw [HZ.out, if_neg (by omega), HY0.out]
        exact HX.out.symm
      have HZ2 : Hid (n / 128 ^ (j + 1) = z') := by show _ = _; rw [← div_step, HZ.out]; exact HZ'.out
      go_wp2_with (at_builtin; refine wpList_append_own _ rfl _ _ 22 rfl B 5 i0 (.int .u8 0) 1 1 Try.underlying22 hi0 hz0 hz1 hz2 rfl (by decide) _ p _ rfl (World.ownsRow.alloc HI.out _) ⟨wr.heap.size, 0, none⟩ 1 1 [.int .u8 (x : Int)] rfl rfl (jone_new _ _ _ _) (jone_one _ _) hml2 (by omega) (by simp; omega) ?_; intro v' w6 hown' hgrow' _; have HO6 := HI.out.put8 hBr hown' hgrow' HY.out; clear hown' hgrow')
      have e5 : m + (j + 1) = p + 1 := by have := HP.out; omega
      refine ⟨⟨j + 1, z', hj1, HZ2, by go_num, ?_, HB.out.trans HO6.2⟩, by simp [intOf]; omega⟩
      rw [e5]
      exact HO6.1
    · have hj1 : j + 1 = L := by
        by_cases h : j + 1 < L
        · have := HN.out.more h
          rw [HZ.out] at this
          omega
        · omega
      have HY : Hid (z = C p) := by
        show z = C p
        rw [← HP.out, HCn.out]
        unfold nby
        rw [HZ.out, if_pos (by omega)]
      go_wp2_with (at_builtin; refine wpList_append_own _ rfl _ _ 22 rfl B 5 i0 (.int .u8 0) 1 1 Try.underlying22 hi0 hz0 hz1 hz2 rfl (by decide) _ p _ rfl (World.ownsRow.alloc HI.out _) ⟨wr.heap.size, 0, none⟩ 1 1 [.int .u8 (z : Int)] rfl rfl (jone_new _ _ _ _) (jone_one _ _) hml2 (by omega) (by simp; omega) ?_; intro v' w6 hown' hgrow' _; have HO6 := HI.out.put8 hBr hown' hgrow' HY.out; clear hown' hgrow')
      go_ret
      have e5 : m + L = p + 1 := by have := HP.out; omega
      rw [e5]
      exact ⟨_, rfl, HO6.1, HB.out.trans HO6.2⟩
set_option maxRecDepth 20000 in
set_option maxHeartbeats 400000 in
theorem qnum_ok (w : World) (n L : Nat) (hn : n < 9223372036854775808) (HN : Hid (NF n L)) :
    Calls Try.prog 9 #[.int .i64 (n : Int)] w fun e w' => ∃ v, e = .returned (.tuple #[v, .int .i64 0]) ∧ Jo w' w.heap.size 5 .u8 v L (nby n) ∧ Below w.heap.size w w' := by
  have HC : Hid (Calls Try.prog 22 #[.slice none 0 0, .int .i64 (n : Int)] w fun e w' => ∃ v', e = .returned v' ∧ Jo w' w.heap.size 5 .u8 v' L (nby n) ∧ Below w.heap.size w w') := (wnum_own w w.heap.size 0 n L _ (fun _ => 0) (Jo.nil _ _ _ _ _) (Nat.le_refl _) (by omega) hn HN).mono (fun e w' h => by
    obtain ⟨v', he, ho, hb⟩ := h
    rw [Nat.zero_add] at ho
    exact ⟨v', he, ho.congr (fun i _ => by rw [cat_high (by omega), Nat.sub_zero]), hb⟩)
  go_enter Try.func9, Try.ntmps9
  go_wp2_with (go_at_call 22; refine HC.out.mono ?_; rintro e w1 ⟨v1, rfl, h1, h2⟩; have H1 := jhid8 h1; have H2 := jhid8 h2; clear h1 h2)
  go_ret2
  exact ⟨_, rfl, H1.out, H2.out⟩
set_option maxHeartbeats 400000 in
theorem qnum_bad (w : World) (n : Int) (hn : n < 0) : Calls Try.prog 9 #[.int .i64 n] w fun e w' => e = .returned (.tuple #[.slice none 0 0, .int .i64 2]) ∧ w = w' := by
  go_enter Try.func9, Try.ntmps9
  go_wp2
  go_ret2
  exact ⟨rfl, rfl⟩
theorem and_byte {y : Nat} (h : y < 256) : bits .and .u8 (y : Int) 127 = ((y % 128 : Nat) : Int) := by
  have := u8_and_nat y 127 h (by decide)
  rw [show (127 : Nat) = 2 ^ 7 - 1 from rfl, Nat.and_two_pow_sub_one_eq_mod, show (2 : Nat) ^ 7 = 128 from rfl] at this
  exact this
set_option maxRecDepth 20000 in
set_option maxHeartbeats 1000000 in
theorem qread_ok (w : World) (a : Option Addr) (n c v s E : Nat) (f : Nat → Nat) (ha : Sl w a n f) (hn : n ≤ 140737488351232) (h : RN f n v s E) :
    Calls Try.prog 8 #[.slice a n c] w fun e w' => e = .returned (.tuple #[.int .i64 (v : Int), .int .i64 (s : Int), .int .i64 (E : Int)]) ∧ w = w' := by
  have HA : Hid (Sl w a n f) := ha
  have HR : Hid (∀ v' s' E', RN f n v' s' E' → v' = v ∧ s' = s ∧ E' = E) := fun _ _ _ g => g.one h
  clear ha h
  go_enter Try.func8, Try.ntmps8
  go_wp2
  go_loop [2, 5, 6] (fun vn _ vi => ∃ i z : Nat, i ≤ 9 ∧ i ≤ n ∧ vi = .int .i64 (i : Int) ∧ vn = .int .i64 (z : Int) ∧ Hid (v7 f i = z) ∧ Hid (∀ j, j < i → 128 ≤ f j)) (fun _ _ vi => 9 - (intOf vi).toNat)
  case atStart => exact ⟨0, 0, by omega, by omega, rfl, rfl, rfl, fun j hj => by omega⟩
  case round =>
    obtain ⟨i, z, hi, hin, rfl, rfl, HZ, HJ⟩ := hrel
    by_cases hi9 : i = 9
    · subst hi9
      obtain ⟨rfl, rfl, rfl⟩ := HR.out 0 0 8 (.inr (.inr ⟨rfl, rfl, rfl, 8, by omega, by omega, fun j hj => HJ.out j (by omega), .inr ⟨rfl, HJ.out 8 (by omega)⟩⟩))
      go_wp2
      go_ret3
      exact ⟨rfl, rfl⟩
    · have hi8 : i ≤ 8 := by omega
      by_cases hlt : i < n
      · obtain ⟨b, o, ea, hc⟩ := HA.out.2 i hlt
        have h8 := HA.out.1 i hlt
        obtain ⟨y, HY⟩ : ∃ y, Hid (f i = y) := ⟨_, rfl⟩
        rw [HY.out] at hc h8
        subst ea
        have p0 : (0 : Int) ≤ (i : Int) := by omega
        have p1 : (i : Int) < (n : Int) := by omega
        have p2 : ((i : Int) == (n : Int)) = false := by simp; omega
        by_cases hz : 0 < i ∧ y = 0
        · obtain ⟨hi0, rfl⟩ := hz
          obtain ⟨rfl, rfl, rfl⟩ := HR.out 0 0 8 (.inr (.inr ⟨rfl, rfl, rfl, i, hi8, hlt, HJ.out, .inl ⟨hi0, HY.out⟩⟩))
          go_wp2
          go_ret3
          exact ⟨rfl, rfl⟩
        · have hp := v7_lt f i
          rw [HZ.out, pow_7] at hp
          obtain ⟨m, HM⟩ : ∃ m, Hid (y % 128 = m) := ⟨_, rfl⟩
          have hm : m < 128 := by have := HM.out; omega
          have em : bits .and .u8 (y : Int) 127 = (m : Int) := by rw [and_byte h8, HM.out]
          obtain ⟨q, HQ⟩ : ∃ q, Hid (m * 2 ^ (7 * i) = q) := ⟨_, rfl⟩
          obtain ⟨u, HU⟩ : ∃ u, Hid (z + q = u) := ⟨_, rfl⟩
          have hsh : wrap64 ((m : Int) * 2 ^ (7 * i)) = (q : Int) := by rw [← HQ.out]; exact (grp_shift hm hi8).2
          have hor : bits .or .i64 (z : Int) (q : Int) = (u : Int) := by rw [← HU.out, ← HQ.out]; exact grp_or hp hm hi8
          have HV : Hid (v7 f (i + 1) = u) := by show _ = _; rw [v7_succ, HZ.out, HY.out, HM.out, pow_7, HQ.out]; exact HU.out
          have HOk : Hid (y < 128 → u = v ∧ i + 1 = s ∧ 0 = E) := fun hy => by
            have := rn_end hi8 hlt HJ.out (by rw [HY.out]; exact hz) (by rw [HY.out]; exact hy)
            rw [HV.out] at this
            exact HR.out _ _ 0 (.inl ⟨rfl, this⟩)
          have HJ2 : Hid (128 ≤ y → ∀ j, j < i + 1 → 128 ≤ f j) := fun hy j hj => by
            by_cases e : j = i
            · rw [e, HY.out]; exact hy
            · exact HJ.out j (by omega)
          clear hp HM HQ HU
          by_cases hi0 : i = 0
          · subst hi0
            have hq0 : (q : Int) = (m : Int) := by rw [← hsh]; simp; exact IntWalk.wrap64_in _ (by omega)
            rw [hq0] at hor
            rw [Nat.add_zero] at hc
            by_cases hy : y < 128
            · obtain ⟨rfl, rfl, rfl⟩ := HOk.out hy
              go_wp2
              go_ret3
              exact ⟨rfl, rfl⟩
            · go_wp2
              exact ⟨⟨1, u, by omega, by omega, by go_num, by go_num, HV, HJ2.out (by omega)⟩, by simp [intOf]⟩
          · have hyz : y ≠ 0 := fun e => hz ⟨by omega, e⟩
            have hy0 : ((y : Int) == 0) = false := by simp; omega
            by_cases hy : y < 128
            · obtain ⟨rfl, rfl, rfl⟩ := HOk.out hy
              go_wp2
              go_ret3
              exact ⟨rfl, rfl⟩
            · go_wp2
              exact ⟨⟨i + 1, u, by omega, by omega, by go_num, by go_num, HV, HJ2.out (by omega)⟩, by simp [intOf]; omega⟩
      · obtain rfl : i = n := by omega
        obtain ⟨rfl, rfl, rfl⟩ := HR.out 0 0 7 (.inr (.inl ⟨rfl, rfl, rfl, by omega, HJ.out⟩))
        go_wp2
        go_ret3
        exact ⟨rfl, rfl⟩
end Go.Proofs.Ytlfmekjkgegclab
