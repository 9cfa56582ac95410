/-
  Contracts of List and the reference's; two lists alike.
-/
import Derived.Test.YtfajmoiffjbcbabJk
namespace Go.Proofs.Ytfajmoiffjbcbab
open Go.RowKit
/-- A number is put behind a list of the call's own. -/
theorem Jo.push {w w2 : World} {B n : Nat} {T : TypeId} {K : IntKind} {v v' : Value} {f : Nat → Nat} {x : Nat} {o : Obj} (h : Jo w B T K v n f) (hB : B ≤ w.heap.size)
    (hown : w2.ownsRow B T 1 v' (n + 1) ((jrow K n f).toList ++ [.int K (x : Int)])) (hg : (w.alloc o).grownBy w2 v.ownBlock) : Jo w2 B T K v' (n + 1) (fun i => if i = n then x else f i) ∧ Below B w w2 := by
  refine ⟨?_, ?_⟩
  · unfold Jo
    rw [← jrow_push]
    exact hown
  · have h1 : Below B w (w.alloc o) := (jlow w o).mono hB
    exact h1.trans (jbelow hg (by have := (jlow w o).size; omega) (fun g hg' => (h.base hg').1))
set_option maxRecDepth 20000 in
set_option maxHeartbeats 1000000 in
theorem rlist_ok (s : Nat) (w : World) (hs : s < 18446744073709551616) :
    Calls Try.prog 8 #[.int .u64 (s : Int)] w fun e w' => ∃ v, e = .returned v ∧ Jo w' w.heap.size 3 .i64 v (cn s 64) (lf s 64) ∧ Below w.heap.size w w' := by
  obtain ⟨i0, hi0, hz0, hz1, hz2⟩ := info_parts ji64
  have HN : Hid (Jo w w.heap.size 3 .i64 (.slice none 0 0) 0 (lf s 0)) := Jo.nil _ _ _ _ _
  go_enter Try.func8, Try.ntmps8
  go_wp2
  go_loopw [3, 4] (fun v vi wr => ∃ i : Nat, i ≤ 64 ∧ vi = .int .i64 (i : Int) ∧ Jo wr w.heap.size 3 .i64 v (cn s i) (lf s i) ∧ Below w.heap.size w wr) (fun _ vi _ => 64 - (intOf vi).toNat)
  case atStart => exact ⟨0, by omega, rfl, HN.out, Below.refl _ _⟩
  case round =>
    obtain ⟨i, hi, rfl, I, hb⟩ := hrel
    obtain ⟨ps, pd, rfl, hpn⟩ := I.form
    have HI : Hid (Jo wr w.heap.size 3 .i64 (.slice ps (cn s i) pd) (cn s i) (lf s i)) := I
    have HB : Hid (Below w.heap.size w wr) := hb
    have hcn := cn_le i s
    obtain ⟨t, HT⟩ : ∃ t, Hid (cn s i = t) := ⟨_, rfl⟩
    rw [HT.out] at HI hcn hpn I ⊢
    clear I hb HN
    by_cases hlt : i < 64
    · by_cases hbit : bt s i = 1
      · have hdb : decide (bt s i = 1) = true := decide_eq_true hbit
        have hml2 : t + 1 ≤ maxLen := by unfold maxLen; omega
        have hwsz := HB.out.size
        have HC : Hid (cn s (i + 1) = t + 1) := by show _ = _; rw [cn_top, hbit, HT.out]
        have HL : Hid (∀ k, k < t + 1 → (if k = t then i else lf s i k) = lf s (i + 1) k) := fun k _ => by rw [lf_in hbit, HT.out]
        clear hbit
        go_wp2_with (first
          | (go_at_call 7; refine (jrhas_ok s i _ hs hlt).mono ?_; rintro e w' ⟨rfl, rfl⟩; rw [hdb])
          | (at_builtin; refine wpList_append_own _ rfl _ _ 30 rfl w.heap.size 3 i0 (.int .i64 0) 1 8 Try.underlying30 hi0 hz0 hz1 hz2 rfl (by decide) _ t _ rfl (World.ownsRow.alloc HI.out _) ⟨wr.heap.size, 0, none⟩ 1 1 [.int .i64 (i : Int)] rfl rfl (jone_new _ _ _ _) (jone_one _ _) hml2 (by omega) (by simp; omega) ?_; intro v' w6 hown' hgrow' _; have HO6 := HI.out.push HB.out.size hown' hgrow'; clear hown' hgrow'))
        exact ⟨⟨i + 1, by omega, by go_num, by rw [HC.out]; exact HO6.1.congr HL.out, HB.out.trans HO6.2⟩, by simp [intOf]; omega⟩
      · have hdb : decide (bt s i = 1) = false := decide_eq_false hbit
        have hb0 : bt s i = 0 := by have := bt_lt s i; omega
        have HC : Hid (cn s (i + 1) = t) := by show _ = _; rw [cn_top, hb0, HT.out]; rfl
        have HL : Hid (∀ k, k < t → lf s i k = lf s (i + 1) k) := fun k _ => (lf_out hb0 k).symm
        clear hbit hb0
        go_wp2_with (go_at_call 7; refine (jrhas_ok s i _ hs hlt).mono ?_; rintro e w' ⟨rfl, rfl⟩; rw [hdb])
        exact ⟨⟨i + 1, by omega, by go_num, by rw [HC.out]; exact HI.out.congr HL.out, HB.out⟩, by simp [intOf]; omega⟩
    · obtain rfl : i = 64 := by omega
      go_wp2
      go_ret
      exact ⟨_, rfl, by rw [HT.out]; exact HI.out, HB.out⟩
end Go.Proofs.Ytfajmoiffjbcbab
