/-
  Contract of the reference's Next.
-/
import Derived.Test.YtblagbghpfopcaaGreatQffsh00
import Derived.Test.YtblagbghpfopcaaGreatQffsh19
set_option maxRecDepth 100000
set_option maxHeartbeats 16000000
namespace Go.Proofs.YtblagbghpfopcaaGreat
open Go.RowKit
theorem Jo.set {w : World} {B n d g : Nat} {T : TypeId} {K : IntKind} {f : Nat → Nat} (h : Jo w B T K (.slice (some ⟨g, 0, none⟩) n d) n f) (j v : Nat) : Jo (w.setCell ⟨g, j, none⟩ (.int K (v : Int))) B T K (.slice (some ⟨g, 0, none⟩) n d) n (fun i => if i = j then v else f i) := by
 have := (World.ownsRow.stored h j (.int K (v : Int))).1
 unfold Jo
 rw [← qj4, Array.toList_setIfInBounds]
 exact this
/-- The list of the next set, halfway: up to place k. -/
def nxk (f : Nat → Nat) (i k t : Nat) : Nat := if t < k then nxt f i t else f t
theorem qn6 (f : Nat → Nat) (i t : Nat) : (if t = i then f i + 1 else f t) = nxk f i (i + 1) t := by
 unfold nxk nxt
 by_cases h : t = i
 ·subst h
  rw [if_pos rfl, if_pos (by omega), if_neg (by omega)]
  omega
 ·rw [if_neg h]
  by_cases h2 : t < i + 1
  ·rw [if_pos h2, if_pos (by omega)]
  ·rw [if_neg h2]
theorem nxk_step {f : Nat → Nat} {i k : Nat} (hk : i < k) (t : Nat) : (if t = k then nxk f i k (k - 1) + 1 else nxk f i k t) = nxk f i (k + 1) t := by
 unfold nxk nxt
 by_cases h : t = k
 ·subst h
  rw [if_pos rfl, if_pos (by omega), if_neg (by omega), if_pos (by omega), if_neg (by omega)]
  omega
 ·rw [if_neg h]
  by_cases h2 : t < k
  ·rw [if_pos h2, if_pos (show t < k + 1 by omega)]
  ·rw [if_neg h2, if_neg (show ¬ t < k + 1 by omega)]
theorem qjk (n s : Nat) (w : World) (hn : n ≤ 64) (hs : s < 2 ^ n) :
    Calls Tryz.prog 48 #[.int .i64 (n : Int), .int .u64 (s : Int)] w fun e w' => e = .returned (.tuple (nxa (nx s n))) ∧ Below w.heap.size w w' := by
  have hs6 := qca hn hs
  obtain ⟨A, HA⟩ : ∃ A : Nat, Hid ((2 ^ n - 1 : Nat) = A) := ⟨_, rfl⟩
  obtain ⟨z, hz1, hz2⟩ := qj9 hs6 hn HA.out
  have han : bits .andNot .u64 (s : Int) (A : Int) = 0 := by rw [hz1, hz2.2 hs]; rfl
  obtain ⟨f, K, hK, HSt, HStay, HRise, HEnd, hf, HL⟩ : ∃ (f : Nat → Nat) (K : Nat), K ≤ n ∧ Hid (RnI s n K) ∧
      Hid (∀ i, i < K → RnI s n (i + 1) → ¬ f i + (K - i) < n → RnI s n i) ∧
      Hid (∀ i, i < K → RnI s n (i + 1) → f i + (K - i) < n → ∃ R, nx s n = some R ∧ ofs (nxt f i) K = R ∧ ∀ t, t < K → nxt f i t < 64) ∧
      Hid (RnI s n 0 → nx s n = none) ∧ Hid (∀ i, i < K → f i < 64) ∧
      Hid (∀ w' : World, Calls Tryz.prog 21 #[.int .u64 (s : Int)] w' fun e w'' => ∃ x d, e = .returned (.slice x K d) ∧ Jo w'' w'.heap.size 3 .i64 (.slice x K d) K f ∧ Below w'.heap.size w' w'') := by
    refine ⟨lf s n, cn s n, qb8 n s, RnI.start s n, fun i hi I h => I.stay hi h, fun i hi I h => ⟨_, I.rise hi h, rfl, fun t ht => Nat.lt_of_lt_of_le (nxt_lt hi h ht) hn⟩, RnI.none, fun i hi => Nat.lt_of_lt_of_le (qaj hi).1 hn, fun w' => (qgk s w' hs6).mono (fun e w'' h => ?_)⟩
    obtain ⟨v, he, ho, hb⟩ := h
    rw [qdw hn hs] at ho
    obtain ⟨x, d, rfl, _⟩ := ho.form
    exact ⟨x, d, he, ho.congr (fun t _ => qh6 hn hs t), hb⟩
  obtain ⟨o, HO⟩ : ∃ o, Hid (nx s n = o) := ⟨_, rfl⟩
  rw [HO.out]
  clear hz1 hz2 hs hs6
  go_enter Tryz.func48, Tryz.ntmps48
  go_wp2_with (first
   | (go_at_call 67; refine (qec n _ hn).mono ?_; rintro e w' ⟨rfl, rfl⟩; rw [HA.out])
   | (go_at_call 21; refine (HL.out _).mono ?_; rintro e w1 ⟨xs, d1, rfl, hj, hb⟩; have HJ : Hid (Jo w1 w.heap.size 3 .i64 (.slice xs K d1) K f) := hj; have HB : Hid (Below w.heap.size w w1) := hb; clear hj hb))
  clear HL HA han
  go_loop [9] (fun vi => ∃ j : Nat, j ≤ K ∧ vi = .int .i64 ((j : Int) - 1) ∧ Hid (RnI s n j)) (fun vi => (intOf vi + 1).toNat)
  case atStart => exact ⟨K, Nat.le_refl _, by go_num, HSt⟩
  case round =>
    clear HSt
    obtain ⟨j, hj, rfl, HI⟩ := hrel
    cases j with
    | zero =>
      have HR : Hid (o = none) := by rw [← HO.out]; exact HEnd.out HI.out
      clear HI HO HStay HRise HEnd hf HJ
      go_wp2
      go_ret2
      exact ⟨by rw [HR.out]; rfl, HB.out⟩
    | succ i =>
      obtain ⟨g, rfl, hg1, hg2⟩ := HJ.out.addr (by omega)
      have hc := HJ.out.cell i (by omega)
      have hfr := HJ.out.free i
      have hx6 := hf.out i (by omega)
      obtain ⟨x, HX⟩ : ∃ x, Hid (f i = x) := ⟨_, rfl⟩
      rw [HX.out] at hc hx6
      obtain ⟨D, hD⟩ : ∃ D, n - K = D := ⟨_, rfl⟩
      have e0 : ((i + 1 : Nat) : Int) - 1 = (i : Int) := by omega
      rw [e0]
      have e1 : (n : Int) - (K : Int) = (D : Int) := by omega
      have p0 : (0 : Int) ≤ (i : Int) := by omega
      have p1 : (i : Int) < (K : Int) := by omega
      by_cases hr : x + (K - i) < n
      · obtain ⟨R, hR1, hR2, hR3⟩ := HRise.out i (by omega) HI.out (by rw [HX.out]; exact hr)
        have HR : Hid (o = some R) := by rw [← HO.out]; exact hR1
        have HR2 : Hid (ofs (nxt f i) K = R) := hR2
        have HR3 : Hid (∀ t, t < K → nxt f i t < 64) := hR3
        have c1 : decide ((x : Int) < (D : Int) + (i : Int)) = true := decide_eq_true (by omega)
        have HJ2 : Hid (Jo (w1.setCell ⟨g, i, none⟩ (.int .i64 ((x + 1 : Nat) : Int))) w.heap.size 3 .i64 (.slice (some ⟨g, 0, none⟩) K d1) K (nxk f i (i + 1))) := (HJ.out.set i (x + 1)).congr (fun t _ => by rw [← HX.out]; exact qn6 f i t)
        have HB2 : Hid (Below w.heap.size w (w1.setCell ⟨g, i, none⟩ (.int .i64 ((x + 1 : Nat) : Int)))) := HB.out.setCell hg1 _
        obtain ⟨x', hx'⟩ : ∃ x', x + 1 = x' := ⟨_, rfl⟩
        have e2 : (x : Int) + 1 = (x' : Int) := by omega
        rw [hx'] at HJ2 HB2
        clear HI HO HStay HRise HEnd HJ HB HX hR1 hR2 hR3 hx' hf
        go_wp2
        go_loopw [10] (fun vk wr => ∃ k : Nat, i < k ∧ k ≤ K ∧ vk = .int .i64 (k : Int) ∧ Jo wr w.heap.size 3 .i64 (.slice (some ⟨g, 0, none⟩) K d1) K (nxk f i k) ∧ Below w.heap.size w wr) (fun vk _ => K - (intOf vk).toNat)
        case atStart => exact ⟨i + 1, by omega, by omega, by go_num, HJ2.out, HB2.out⟩
        case round =>
          clear HJ2 HB2 hc hfr
          obtain ⟨k, hik, hkK, rfl, I, hb⟩ := hrel
          have HJk : Hid (Jo wr w.heap.size 3 .i64 (.slice (some ⟨g, 0, none⟩) K d1) K (nxk f i k)) := I
          have HBk : Hid (Below w.heap.size w wr) := hb
          clear I hb
          by_cases hlt : k < K
          · obtain ⟨k', rfl⟩ : ∃ k', k = k' + 1 := ⟨k - 1, by omega⟩
            have hck := HJk.out.cell (k' + 1) hlt
            have hck2 := HJk.out.cell k' (by omega)
            have hfk := HJk.out.free (k' + 1)
            obtain ⟨y, HY⟩ : ∃ y, Hid (nxk f i (k' + 1) k' = y) := ⟨_, rfl⟩
            obtain ⟨v, hv⟩ : ∃ v, y + 1 = v := ⟨_, rfl⟩
            rw [HY.out] at hck2
            have hy6 : y < 64 := by
              rw [← HY.out]
              unfold nxk
              rw [if_pos (by omega)]
              exact HR3.out k' (by omega)
            obtain ⟨u, HU⟩ : ∃ u, Hid (nxk f i (k' + 1) (k' + 1) = u) := ⟨_, rfl⟩
            rw [HU.out] at hck
            have HJ3 : Hid (Jo (wr.setCell ⟨g, k' + 1, none⟩ (.int .i64 (v : Int))) w.heap.size 3 .i64 (.slice (some ⟨g, 0, none⟩) K d1) K (nxk f i (k' + 1 + 1))) := (HJk.out.set (k' + 1) v).congr (fun t _ => by
              rw [← hv, ← HY.out]
              exact nxk_step hik t)
            have HB3 : Hid (Below w.heap.size w (wr.setCell ⟨g, k' + 1, none⟩ (.int .i64 (v : Int)))) := HBk.out.setCell hg1 _
            have e3 : (y : Int) + 1 = (v : Int) := by omega
            have q0 : (0 : Int) ≤ (k' : Int) := by omega
            have q1 : (k' : Int) < (K : Int) := by omega
            have q2 : ((k' + 1 : Nat) : Int) < (K : Int) := by omega
            have q3 : (k' : Int) + 1 < (K : Int) := by omega
            clear HY HU HJk HBk hv
            go_wp2
            exact ⟨⟨k' + 1 + 1, by omega, by omega, by go_num, HJ3.out, HB3.out⟩, by simp [intOf]; omega⟩
          · obtain rfl : k = K := by omega
            have HJL : Hid (Jl wr (some ⟨g, 0, none⟩) .i64 k (fun t => (nxt f i t : Int))) := (HJk.out.congr (fun t ht => if_pos ht)).jl
            go_wp2_with (go_at_call 80; refine (rof_low _ k d1 _ (nxt f i) R (by omega) HJL.out HR3.out HR2).mono ?_; rintro e w' ⟨rfl, rfl⟩)
            go_ret2
            exact ⟨by rw [HR.out]; rfl, HBk.out⟩
      · have c1 : decide ((x : Int) < (D : Int) + (i : Int)) = false := decide_eq_false (by omega)
        have HI2 : Hid (RnI s n i) := HStay.out i (by omega) HI.out (by rw [HX.out]; exact hr)
        clear HI HO HStay HRise HEnd HX hf HJ
        go_wp2
        exact ⟨⟨i, by omega, by go_num, HI2⟩, by simp [intOf]⟩
end Go.Proofs.YtblagbghpfopcaaGreat
