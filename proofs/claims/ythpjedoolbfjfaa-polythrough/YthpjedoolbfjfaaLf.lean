/-
  Contracts of the reference's Dot, Scale, Mac.
-/
import Derived.Test.YthpjedoolbfjfaaLe
import Derived.Deep.QuietTactic
import Derived.BigQuiet
import Derived.Deep.RegionHeld3
import Derived.Deep.AppendLies
namespace Go.Proofs.Ythpjedoolbfjfaa
open Go.RowKit
theorem row_snoc (k : Nat) (f : Nat → Nat) : (row k f).toList ++ [.int .u8 (f k : Nat)] = (row (k + 1) f).toList := by
  simp [row, List.range_succ]
theorem row_empty (f : Nat → Nat) : (row 0 f).toList = [] := by simp [row]
theorem own_base {w : World} {base : Nat} {e : TypeId} {s : Nat} {v : Value} {n : Nat} {xs : List Value} (h : w.ownsRow base e s v n xs) : ∀ k, v.ownBlock = some k → base ≤ k := by
  intro k hk
  rcases h.2 with ⟨rfl, _⟩ | ⟨g, cap, cur, rfl, hb, _⟩
  · simp [Value.ownBlock] at hk
  · simp [Value.ownBlock] at hk; omega
theorem one_new (w : World) (t : TypeId) (x : Nat) : ∀ j u, [Value.int .u8 (x : Int)][j]? = some u → (w.alloc (.cells #[.int .u8 (x : Int)] t)).cell? ((⟨w.heap.size, 0, none⟩ : Addr).add j) = some u := by
  intro j u hj
  match j, hj with
  | 0, hj => simp at hj; subst hj; simp [Addr.add]
theorem one_one (x : Nat) : ∀ u ∈ [Value.int .u8 (x : Int)], u.oneCell' = true := by intro u hu; simp at hu; subst hu; rfl
theorem rmul_at (a b : Nat) (w : World) (ha : a < 256) (hb : b < 256) : Calls Try.prog 35 #[.int .u8 (a : Int), .int .u8 (b : Int)] w fun e w' => e = .returned (.int .u8 (fm a b : Nat)) ∧ w = w' :=
  (rmul_nat a b w ha hb).mono fun _ _ h => ⟨h.1, h.2.symm⟩
theorem grow_step {w wr w3 : World} {o : Obj} {base : Nat} {e : TypeId} {s n : Nat} {v : Value} {xs : List Value} (hb : Below w.heap.size w wr) (ho : wr.ownsRow w.heap.size e s v n xs) (hg : (wr.alloc o).grownBy w3 v.ownBlock) (_h : base = 0) : Below w.heap.size w w3 :=
  (hb.alloc hb.size o).grown hg (by have := hb.size; simp; omega) (own_base ho)
set_option maxHeartbeats 400000 in
theorem rscale_any (w : World) (a : Option Addr) (n c ca : Nat) (h : Nat → Nat) (hc : c < 256) (ha : Sl w a n h) (hn : n ≤ 140737488351232) :
    Calls Try.prog 43 #[.int .u8 (c : Int), .slice a n ca] w fun e w' => ∃ v, e = .returned v ∧ w'.ownsRow w.heap.size 5 1 v n (row n (fun i => fm c (h i))).toList ∧ Below w.heap.size w w' := by
  obtain ⟨i0, hi, hz0, hz1, hz2⟩ := info_parts info8
  have HA : Hid (Sl w a n h) := ha
  clear ha
  obtain ⟨p, HP⟩ : ∃ p : Nat → Nat, Hid ((fun i => fm c (h i)) = p) := ⟨_, rfl⟩
  rw [HP.out]
  go_enter Try.func43, Try.ntmps43
  go_wp2
  go_loopw [5, 6] (fun v i wr => ∃ k : Nat, k ≤ n ∧ i = .int .i64 (k : Int) ∧ wr.ownsRow w.heap.size 5 1 v k (row k p).toList ∧ Below w.heap.size w wr) (fun _ i _ => n - (intOf i).toNat)
  case atStart => exact ⟨0, by omega, rfl, by rw [row_empty]; exact World.ownsRow_nil _ _ _ _, Below.refl _ _⟩
  case round =>
    obtain ⟨k, hk, rfl, hown, hbr⟩ := hrel
    by_cases hlt : k < n
    · obtain ⟨ba, oa, ea, hca⟩ := (HA.out.later hbr).2 k hlt
      have hx := HA.out.1 k hlt
      have HPk : Hid (fm c (h k) = p k) := congrFun HP.out k
      have HO : Hid (wr.ownsRow w.heap.size 5 1 u5 k (row k p).toList) := hown
      have HB : Hid (Below w.heap.size w wr) := hbr
      have hsz := hbr.size
      have hml : k + 1 ≤ maxLen := by unfold maxLen; omega
      have HMul : Hid (∀ w, Calls Try.prog 35 #[.int .u8 (c : Int), .int .u8 (h k : Int)] w fun e w' => e = .returned (.int .u8 (p k : Int)) ∧ w = w') := by rw [← HPk.out]; exact fun w => rmul_at c (h k) w hc hx
      clear HA hown hbr
      subst ea
      go_wp2_with (first
        | (go_at_call 35; refine (HMul.out _).mono ?_; rintro e w' ⟨rfl, rfl⟩)
        | (at_builtin; refine wpList_append_own _ rfl _ _ 22 rfl w.heap.size 5 i0 (.int .u8 0) 1 1 Try.underlying22 hi hz0 hz1 hz2 rfl (by decide) _ k _ rfl (HO.out.alloc _) ⟨wr.heap.size, 0, none⟩ 1 1 [.int .u8 (p k : Nat)] rfl rfl (one_new _ _ _) (one_one _) hml (by omega) (by simp; omega) ?_; intro v' w3 hown' hgrow' _; have HO3 : Hid _ := hown'; have HB3 : Hid _ := grow_step HB.out HO.out hgrow' rfl; clear hown' hgrow'))
      exact ⟨⟨k + 1, by omega, by go_num, by rw [← row_snoc]; exact HO3.out, HB3.out⟩, by simp [intOf]; omega⟩
    · obtain rfl : k = n := by omega
      go_wp2
      go_ret
      exact ⟨_, rfl, hown, hbr⟩
end Go.Proofs.Ythpjedoolbfjfaa
