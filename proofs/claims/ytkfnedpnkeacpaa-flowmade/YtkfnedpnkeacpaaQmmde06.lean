/-
  Contracts of Scale, Mac.
  Contracts of the reference's Dot, Scale, Mac.
-/
import Derived.Test.YtkfnedpnkeacpaaQmmde00
import Derived.Test.YtkfnedpnkeacpaaQmmde05
import Derived.Deep.QuietTactic
import Derived.BigQuiet
import Derived.Deep.RegionHeld3
import Derived.Deep.AppendLies
set_option maxRecDepth 100000
set_option maxHeartbeats 16000000
namespace Go.Proofs.Ytkfnedpnkeacpaa
open Go.RowKit
theorem below_grown {w w1 w2 : World} (h1 : Below w.heap.size w w1) (h2 : w1.grownBy w2 (some w.heap.size)) : Below w.heap.size w w2 :=
 h1.grown h2 h1.size (fun k hk => by cases hk; exact Nat.le_refl _)
theorem qeo (w : World) (a : Option Addr) (n c ca : Nat) (h : Nat → Nat) (hc : c < 256) (ha : Sl w a n h) (hn : n ≤ 140737488351232) :
  Calls Try.prog 60 #[.int .u8 (c : Int), .slice a n ca] w fun e w' => e = .returned (.slice (some ⟨w.heap.size, 0, none⟩) n n) ∧ RowAt w' w.heap.size 5 n (fun i => fm c (h i)) ∧ Below w.heap.size w w' := by
 obtain ⟨i0, hi, hz0, hz1, hz2⟩ := info_parts qbu
 have hml : n ≤ maxLen := by unfold maxLen; omega
 have HA : Hid (Sl w a n h) := ha
 clear ha
 go_enter Try.func60, Try.ntmps60
 go_wp2_with (first
  | (at_make; refine wpList_make_full _ rfl _ _ 22 rfl w.heap.size 5 i0 (.int .u8 0) 1 Try.underlying22 hi hz0 hz1 .i64 .i64 _ _ n rfl rfl rfl rfl (by rw [hz2]; omega) hml (Nat.le_refl _) ?_; intro w1 hown hgrow; have HR : Hid _ := qem hown; have HB : Hid _ := qa7.mp hgrow; clear hown hgrow)
  | (go_at_call 61; refine (addp_any _ w.heap.size n n c ca a (fun _ => 0) h hc HR.out (fun _ _ => by decide) (HA.out.later HB.out) (qbt HA.out (Nat.le_refl _)) hn).mono ?_; rintro e w2 ⟨rfl, hr2, hg2⟩))
 go_ret
 exact ⟨rfl, RowAt.congr (by assumption) (fun i _ => Nat.zero_xor _), below_grown HB.out (by assumption)⟩
open Go.RowKit
theorem row_snoc (k : Nat) (f : Nat → Nat) : (row k f).toList ++ [.int .u8 (f k : Nat)] = (row (k + 1) f).toList := by
 simp [row, List.range_succ]
theorem qay (f : Nat → Nat) : (row 0 f).toList = [] := by simp [row]
theorem qa6 {w : World} {base : Nat} {e : TypeId} {s : Nat} {v : Value} {n : Nat} {xs : List Value} (h : w.ownsRow base e s v n xs) : ∀ k, v.ownBlock = some k → base ≤ k := by
 intro k hk
 rcases h.2 with ⟨rfl, _⟩ | ⟨g, cap, cur, rfl, hb, _⟩
 ·simp [Value.ownBlock] at hk
 ·simp [Value.ownBlock] at hk; omega
theorem one_new (w : World) (t : TypeId) (x : Nat) : ∀ j u, [Value.int .u8 (x : Int)][j]? = some u → (w.alloc (.cells #[.int .u8 (x : Int)] t)).cell? ((⟨w.heap.size, 0, none⟩ : Addr).add j) = some u := by
 intro j u hj
 match j, hj with
 | 0, hj => simp at hj; subst hj; simp [Addr.add]
theorem one_one (x : Nat) : ∀ u ∈ [Value.int .u8 (x : Int)], u.oneCell' = true := by intro u hu; simp at hu; subst hu; rfl
theorem rmul_at (a b : Nat) (w : World) (ha : a < 256) (hb : b < 256) : Calls Try.prog 55 #[.int .u8 (a : Int), .int .u8 (b : Int)] w fun e w' => e = .returned (.int .u8 (fm a b : Nat)) ∧ w = w' :=
 (rmul_nat a b w ha hb).mono fun _ _ h => ⟨h.1, h.2.symm⟩
end Go.Proofs.Ytkfnedpnkeacpaa
