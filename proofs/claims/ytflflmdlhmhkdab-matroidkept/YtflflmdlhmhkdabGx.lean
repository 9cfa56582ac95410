/-
  For what stays: a copy; two lists or matrices that are alike.
-/
import Derived.Test.YtflflmdlhmhkdabGw
import Derived.Test.YtflflmdlhmhkdabGs
import Derived.Test.YtflflmdlhmhkdabGb
namespace Go.Proofs.Ytflflmdlhmhkdab
open Go.RowKit
theorem same7 (w : World) (a b : Option Addr) (n k d : Nat) (f : Nat → Nat) (ha : Mt w a n k f) (hb : Mt w b n d f) : Calls Try.prog 20 #[.slice a n k, .slice b n d] w fun e w' => e = .returned (.bool true) ∧ Below w.heap.size w w' :=
  (same_true w a b n k d f ha.sl hb.sl).mono (fun _ _ h => ⟨h.1, by rw [h.2]; exact Below.refl _ _⟩)
theorem like7 (w : World) (r c : Int) (a b : Option Addr) (n k d : Nat) (f : Nat → Nat) (ha : Mt w a n k f) (hb : Mt w b n d f) : Calls Try.prog 19 #[mv r c a n k, mv r c b n d] w fun e w' => e = .returned (.bool true) ∧ Below w.heap.size w w' := by
  have := like_exact w r c r c a b n n k d f f ha.sl hb.sl
  rw [likeB_true (fun _ _ => rfl)] at this
  exact this
theorem own_mt7 {w : World} {base n d : Nat} {s : Option Addr} {f : Nat → Nat} (h : w.ownsRow base 5 1 (.slice s n d) n (row n f).toList) (hf : ∀ i, i < n → f i < 256) : Mt w s n d f := by
  refine ⟨own_sl2 h hf, ?_, own_none h⟩
  rcases h.2 with ⟨e, h0⟩ | ⟨g, cap, cur, e, _, _, hc, _⟩
  · cases e; omega
  · cases e; omega
theorem cp7 (w : World) (r c : Int) (n k : Nat) (a : Option Addr) (F : Nat → Nat) (ha : Mt w a n k F) (hn : n ≤ 140737488351232) :
    Calls Try.prog 16 #[mv r c a n k] w fun e w' => ∃ s d, e = .returned (mv r c s n d) ∧ Mt w' s n d F ∧ Below w.heap.size w w' :=
  (rcopy3_any w r c n k a F ha.sl hn ha.nil).mono fun _ _ ⟨s, d, he, ho, hb⟩ => ⟨s, d, he, own_mt7 ho ha.sl.1, hb⟩
/-- Some answer of Needed, and of Circuit. -/
theorem need_some (w : World) (r c : Int) (n k s : Nat) (a : Option Addr) (F : Nat → Nat) (ha : Mt w a n k F) (hs6 : s < 18446744073709551616) : ∃ (u v : Int), ∀ w' : World, Below w.heap.size w w' → Calls Try.prog 14 #[mv r c a n k, .int .u64 (s : Int)] w' fun e w'' => e = .returned (.tuple #[.int .u64 u, .int .i64 v]) ∧ Below w'.heap.size w' w'' := by
  rcases bad_or r c n s with ⟨E, h⟩ | ⟨r, c, rfl, rfl, R, hs⟩
  · exact ⟨_, E, fun w' _ => tNeed_bad w' r c E n k s a hs6 h⟩
  · obtain ⟨p, hp⟩ : ∃ p, NeS (m2 F r c) r s p := bld_ex _ r
    exact ⟨p, 0, need_num ha R hs hp⟩
theorem circ_some (w : World) (r c b : Int) (n k s : Nat) (a : Option Addr) (F : Nat → Nat) (ha : Mt w a n k F) (hs6 : s < 18446744073709551616) : ∃ (u : Int) (q : Bool) (v : Int), ∀ w' : World, Below w.heap.size w w' → Calls Try.prog 9 #[mv r c a n k, .int .i64 b, .int .u64 (s : Int)] w' fun e w'' => e = .returned (.tuple #[.int .u64 u, .bool q, .int .i64 v]) ∧ Below w'.heap.size w' w'' := by
  rcases bad_or r c n s with ⟨E, h⟩ | ⟨r, c, rfl, rfl, R, hs⟩
  · exact ⟨_, _, E, fun w' _ => tCirc_bad w' r c E b n k s a hs6 h⟩
  · by_cases h : b < 0 ∨ r ≤ b ∨ bt s b.toNat = 1 ∨ ¬ FreeS (m2 F r c) r s
    · exact ⟨_, _, _, fun w' hb => tCirc_arg w' r c n k s b a F (ha.later hb) R hs h⟩
    · obtain ⟨b, rfl⟩ := Int.eq_ofNat_of_zero_le (show 0 ≤ b by omega)
      have hb1 : b < r := by omega
      have hb2 : ¬ bt s b = 1 := fun h' => h (.inr (.inr (.inl h')))
      have hb3 : FreeS (m2 F r c) r s := Classical.byContradiction fun h' => h (.inr (.inr (.inr h')))
      obtain ⟨x, o, hx⟩ := cira_ex (m2 F r c) r b s
      refine ⟨x, o, 0, fun w' hb => (tCirc_ok w' r c n k s b a F (ha.later hb) R hs hb1 hb2 hb3).mono (fun e w'' h => ?_)⟩
      obtain ⟨x', o', he, ht', hbb⟩ := h
      obtain ⟨rfl, rfl⟩ := ht'.one hx
      exact ⟨he, hbb⟩
end Go.Proofs.Ytflflmdlhmhkdab
