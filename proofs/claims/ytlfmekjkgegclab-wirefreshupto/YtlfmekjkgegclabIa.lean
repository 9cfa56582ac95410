/-
  Contracts of the landed wire: made, of, Sum.
-/
import Derived.Test.YtlfmekjkgegclabHl
namespace Go.Proofs.Ytlfmekjkgegclab
open Go.RowKit
theorem zero_su (w : World) : Sem.run Try.prog (zeroValue 55) w = .ok (.agg (jrow .u32 256 fun _ => 0)) w := by kernel_rfl
theorem size_su : (Try.prog.info? 55).map (·.size) = some 256 := by kernel_rfl
theorem jrow_one (K : IntKind) (n : Nat) (f : Nat → Nat) : (jrow K n f).all (·.oneCell') = true := by
  simp only [jrow, Array.all_eq_true]
  intro i hi
  simp
  rfl
theorem JAt.other {w : World} {b : Nat} {T : TypeId} {K : IntKind} {n : Nat} {f : Nat → Nat} (h : JAt w b T K n f) (a : Addr) (v : Value) (hb : b ≠ a.block) : JAt (w.setCell a v) b T K n f := by
  unfold JAt at *
  rw [Below.heap_setCell w a v b hb, h]
/-- The table: what the register becomes of each byte. -/
def tb8 (i : Nat) : Nat := sbn 8 i
theorem tb8_lt {i : Nat} (h : i < 256) : tb8 i < 4294967296 := sbn_lt (by omega) 8
theorem tb_step {k j : Nat} : (if j = k then tb8 k else if j < k then tb8 j else 0) = if j < k + 1 then tb8 j else 0 := by
  by_cases e : j = k
  · subst e; simp
  · by_cases e2 : j < k
    · simp [e, e2, show j < k + 1 by omega]
    · simp [e, e2, show ¬ j < k + 1 by omega]
set_option maxRecDepth 20000 in
set_option maxHeartbeats 1000000 in
theorem made_raw (w : World) (zs : Array Value) (HZs : Hid (zs = jrow .u32 256 fun _ => 0)) : Calls Try.prog 23 #[] w fun e w' => e = .returned (.agg (jrow .u32 256 tb8)) ∧ Below w.heap.size w w' := by
  have z : ∀ w, Sem.run Try.prog (zeroValue 55) w = .ok (.agg zs) w := by rw [HZs.out]; exact zero_su
  go_enter Try.func23, Try.ntmps23
  go_wp2
  clear z
  go_loopw [2, 3, 4, 5, 10] (fun _ _ _ vi _ wr => ∃ k : Nat, k ≤ 256 ∧ vi = .int .i64 (k : Int) ∧ Below w.heap.size w wr ∧ JAt wr w.heap.size 55 .u32 256 (fun _ => 0) ∧ JAt wr (w.heap.size + 1) 55 .u32 256 (fun j => if j < k then tb8 j else 0)) (fun _ _ _ vi _ _ => 256 - (intOf vi).toNat)
  case atStart =>
    refine ⟨0, by omega, rfl, ((Below.refl _ _).alloc (Nat.le_refl _) _).alloc (by simp) _, ?_, ?_⟩
    · unfold JAt; rw [← HZs.out]; exact heap_alloc2_old ..
    · refine JAt.congr (f := fun _ => 0) ?_ (by intro i _; simp)
      unfold JAt; rw [← HZs.out]; exact heap_alloc2_new ..
  case round =>
    obtain ⟨k, hk, rfl, hb, h0, h1⟩ := hrel
    by_cases hlt : k < 256
    · have R : Hid (∀ t : Nat, t = tb8 k → Below w.heap.size w (wr.setCell ⟨w.heap.size + 1, k, none⟩ (.int .u32 (t : Nat))) ∧ JAt (wr.setCell ⟨w.heap.size + 1, k, none⟩ (.int .u32 (t : Nat))) w.heap.size 55 .u32 256 (fun _ => 0) ∧ JAt (wr.setCell ⟨w.heap.size + 1, k, none⟩ (.int .u32 (t : Nat))) (w.heap.size + 1) 55 .u32 256 (fun j => if j < k + 1 then tb8 j else 0)) := by
        rintro t rfl
        refine ⟨hb.setCell (by simp) _, h0.other _ _ (by simp), (h1.set k (tb8 k)).congr ?_⟩
        intro j _
        exact tb_step
      have hc := h1.cell k hlt
      have hf := h1.free k
      obtain ⟨v0, hv0⟩ : ∃ v, v = Value.int IntKind.u32 ((if k < k then tb8 k else 0 : Nat) : Int) := ⟨_, rfl⟩
      rw [← hv0] at hc
      clear hv0 h0 h1 hb
      go_wp2
      go_loop [3, 4, 10] (fun vr _ vj => ∃ j q : Nat, j ≤ 8 ∧ vj = .int .i64 (j : Int) ∧ vr = .int .u32 (q : Int) ∧ Hid (sbn j k = q)) (fun _ _ vj => 8 - (intOf vj).toNat)
      case atStart => exact ⟨0, k, by omega, rfl, by go_num, rfl⟩
      case round =>
        obtain ⟨j, q, hj, rfl, rfl, HQ⟩ := hrel
        have hq : q < 4294967296 := by rw [← HQ.out]; exact sbn_lt (by omega) j
        by_cases hj8 : j < 8
        · have hand := and_one8 hq
          obtain ⟨hf2, H2⟩ : ∃ v, Hid (q / 2 = v) := ⟨_, rfl⟩
          have hsh : (q : Int) / 2 = (hf2 : Int) := by have := H2.out; omega
          have hh2 : hf2 < 4294967296 := by have := H2.out; omega
          by_cases hodd : q % 2 = 1
          · rw [hodd] at hand
            obtain ⟨v, HV⟩ : ∃ v, Hid (hf2 ^^^ 3988292384 = v) := ⟨_, rfl⟩
            have hx2 : bits .xor .u32 (hf2 : Int) 3988292384 = (v : Int) := by rw [← HV.out]; exact u32_xor_nat hf2 3988292384 hh2 (by decide)
            have HN : Hid (sbn (j + 1) k = v) := by
              show sb (sbn j k) = v
              rw [HQ.out]
              unfold sb
              rw [if_pos hodd, H2.out]
              exact HV.out
            go_wp2
            exact ⟨⟨j + 1, v, by omega, by go_num, by go_num, HN⟩, by simp [intOf]; omega⟩
          · have h0 : q % 2 = 0 := by omega
            rw [h0] at hand
            have hx2 : bits .xor .u32 (hf2 : Int) 0 = (hf2 : Int) := by
              have := u32_xor_nat hf2 0 hh2 (by decide)
              rw [Nat.xor_zero] at this
              exact this
            have HN : Hid (sbn (j + 1) k = hf2) := by
              show sb (sbn j k) = hf2
              rw [HQ.out]
              unfold sb
              rw [if_neg hodd]
              exact H2.out
            go_wp2
            exact ⟨⟨j + 1, hf2, by omega, by go_num, by go_num, HN⟩, by simp [intOf]; omega⟩
        · obtain rfl : j = 8 := by omega
          have HR := jhid8 (R.out q HQ.out.symm)
          clear R
          go_wp2
          exact ⟨⟨k + 1, by omega, by go_num, HR.out.1, HR.out.2.1, HR.out.2.2⟩, by simp [intOf]; omega⟩
    · have h1' : JAt wr (w.heap.size + 1) 55 .u32 256 tb8 := h1.congr (by intro i hi; simp [show i < k by omega])
      clear h1
      obtain ⟨ls, HL⟩ : ∃ ls, Hid (ls = jrow .u32 256 tb8) := ⟨_, rfl⟩
      have hB : wr.heap[w.heap.size + 1]? = some (.cells ls 55 (0, 0)) := by rw [HL.out]; exact h1'
      have hO : wr.heap[w.heap.size]? = some (.cells zs 55 (0, 0)) := by rw [HZs.out]; exact h0
      have hsz : (Try.prog.info? 55).map (·.size) = some ls.size := by rw [HL.out, jrow_size]; exact size_su
      have hol : zs.size = ls.size := by rw [HZs.out, HL.out, jrow_size, jrow_size]
      have hone : ls.all (·.oneCell') = true := by rw [HL.out]; exact jrow_one _ _ _
      clear h0 h1'
      go_wp2_with (first | (refine wpList_load_row rfl 55 _ rfl (w.heap.size + 1) rfl 55 ls (0, 0) _ hB Try.underlying55 rfl hsz ?_) | (refine wpList_store_row rfl 55 _ _ rfl w.heap.size ls rfl rfl 55 zs hO hsz hol hone ?_))
      exact bodyPost_ret (results_cell_row Try.results23 _ _ w.heap.size 55 ls (0, 0) _ rfl (setRow_heap _ _ _ _ _ _ hO) Try.underlying55 rfl hsz) rfl ⟨by rw [HL.out], below_setRow hb (Nat.le_refl _) _⟩
theorem made_any (w : World) : Calls Try.prog 23 #[] w fun e w' => e = .returned (.agg (jrow .u32 256 tb8)) ∧ Below w.heap.size w w' := made_raw w _ rfl
/-- The table lies in block t. -/
def Tb (w : World) (t : Nat) : Prop := JAt w t 55 .u32 256 tb8
theorem Tb.later {w w' : World} {t : Nat} (h : Tb w t) (hb : Below w.heap.size w w') : Tb w' t := JAt.later h hb
set_option maxRecDepth 20000 in
set_option maxHeartbeats 1000000 in
theorem of_ok (w : World) (t : Nat) (a : Option Addr) (n c : Nat) (f : Nat → Nat) (HT : Hid (Tb w t)) (ha : Sl w a n f) (hn : n ≤ 140737488351232) :
    Calls Try.prog 28 #[.pointer (some ⟨t, 0, none⟩), .slice a n c] w fun e w' => e = .returned (.int .u32 ((cs f n : Nat) : Int)) ∧ w = w' := by
  have HA : Hid (Sl w a n f) := ha
  clear ha
  go_enter Try.func28, Try.ntmps28
  go_wp2
  go_loop [5, 7, 8, 11] (fun vr _ _ vi => ∃ i z : Nat, i ≤ n ∧ vi = .int .i64 (i : Int) ∧ vr = .int .u32 (z : Int) ∧ Hid (cr f i = z)) (fun _ _ _ vi => n - (intOf vi).toNat)
  case atStart => exact ⟨0, 4294967295, by omega, rfl, rfl, rfl⟩
  case round =>
    obtain ⟨i, z, hi, rfl, rfl, HZ⟩ := hrel
    have hz : z < 4294967296 := by rw [← HZ.out]; exact cr_lt i (fun j hj => HA.out.1 j (by omega))
    by_cases hlt : i < n
    · obtain ⟨b, o, ea, hc⟩ := HA.out.2 i hlt
      have h8 := HA.out.1 i hlt
      obtain ⟨y, HY⟩ : ∃ y, Hid (f i = y) := ⟨_, rfl⟩
      rw [HY.out] at hc h8
      subst ea
      obtain ⟨m, HM⟩ : ∃ m, Hid (z % 256 = m) := ⟨_, rfl⟩
      have em : (z : Int) % 256 = (m : Int) := by have := HM.out; omega
      have hm : m < 256 := by have := HM.out; omega
      obtain ⟨x, HX⟩ : ∃ x, Hid (m ^^^ y = x) := ⟨_, rfl⟩
      have hxor : bits .xor .u8 (m : Int) (y : Int) = (x : Int) := by rw [← HX.out]; exact u8_xor_nat m y hm h8
      have hx : x < 256 := by rw [← HX.out]; exact Nat.xor_lt_two_pow (n := 8) hm h8
      obtain ⟨d, HD⟩ : ∃ d, Hid (z / 256 = d) := ⟨_, rfl⟩
      have ed : (z : Int) / 256 = (d : Int) := by have := HD.out; omega
      have hd : d < 4294967296 := by have := HD.out; omega
      obtain ⟨g, HG⟩ : ∃ g, Hid (tb8 x = g) := ⟨_, rfl⟩
      have hg : g < 4294967296 := by rw [← HG.out]; exact tb8_lt hx
      have hcell : w.cell? ⟨t, x, none⟩ = some (.int .u32 (g : Int)) := by rw [← HG.out]; exact JAt.cell HT.out x hx
      obtain ⟨u, HU⟩ : ∃ u, Hid (d ^^^ g = u) := ⟨_, rfl⟩
      have hxor2 : bits .xor .u32 (d : Int) (g : Int) = (u : Int) := by rw [← HU.out]; exact u32_xor_nat d g hd hg
      have HN : Hid (cr f (i + 1) = u) := by
        show _ = _
        rw [cr_succ, HZ.out, HY.out, sbn_table]
        have e1 : (z ^^^ y) % 256 = x := by
          rw [← HX.out, ← HM.out, show (256 : Nat) = 2 ^ 8 from rfl, Nat.xor_mod_two_pow, Nat.mod_eq_of_lt (a := y) (by omega)]
        have e2 : (z ^^^ y) / 256 = d := by
          rw [← HD.out, show (256 : Nat) = 2 ^ 8 from rfl, Nat.xor_div_two_pow, Nat.div_eq_of_lt (a := y) (by omega), Nat.xor_zero]
        rw [e1, e2, Nat.xor_comm, ← HU.out, ← HG.out]
        rfl
      have p0 : (0 : Int) ≤ (i : Int) := by omega
      have p1 : (i : Int) < (n : Int) := by omega
      go_wp2
      exact ⟨⟨i + 1, u, by omega, by go_num, by go_num, HN⟩, by simp [intOf]; omega⟩
    · obtain rfl : i = n := by omega
      obtain ⟨v, HV⟩ : ∃ v, Hid (cs f i = v) := ⟨_, rfl⟩
      have hnot : bits .xor .u32 IntKind.u32.max (z : Int) = (v : Int) := by
        rw [← HV.out]
        unfold cs
        rw [HZ.out, not_xor hz]
        exact u32_xor_nat 4294967295 z (by decide) hz
      go_wp2
      go_ret
      refine ⟨?_, rfl⟩
      rw [HV.out]
      rfl
/-- A call's own table, laid into a new variable. -/
theorem tb_new {w w1 : World} {zs ls : Array Value} (HL : Hid (ls = jrow .u32 256 tb8)) (h : (w1.alloc (.cells zs 55)).heap[w1.heap.size]? = some (.cells zs 55 (0, 0))) (hb : Below w.heap.size w w1) : Tb ((w1.alloc (.cells zs 55)).setRow w1.heap.size ls) w1.heap.size ∧ Below w.heap.size w ((w1.alloc (.cells zs 55)).setRow w1.heap.size ls) := by
  refine ⟨?_, below_setRow (hb.alloc hb.size _) hb.size _⟩
  unfold Tb JAt
  rw [setRow_heap _ _ _ _ _ _ h, HL.out]
end Go.Proofs.Ytlfmekjkgegclab
