/-
  Lists of numbers in memory, of any kind of number; what stays.
  Contracts of the sets' plain calls: Has, first, Full, isSetOf, portion.
-/
import Derived.Test.YtblagbghpfopcaaQffst00
import Derived.Test.YtblagbghpfopcaaQffst13
import Derived.Test.YtblagbghpfopcaaRows
import Derived.WalkKit
import Derived.WalkSpells
import Derived.WalkLawsBesides
import Derived.ProofKit
import Derived.OwnWalk
import Derived.Deep.QuietTactic
import Derived.BigQuiet
import Derived.RegionTactic
import Derived.Lib.MinMax
set_option maxRecDepth 100000
set_option maxHeartbeats 16000000
namespace Go.Proofs.Ytblagbghpfopcaa
open Go.RowKit
theorem ji64 : (Try.prog.info? 3).map (fun i => (i.zero, i.size, i.bytes)) = some (some (.int .i64 0), 1, 8) := by kernel_rfl
theorem jcell_lt {w : World} {b o : Nat} {v : Value} (h : w.cell? ⟨b, o, none⟩ = some v) : b < w.heap.size := by
 by_cases hb : b < w.heap.size
 ·exact hb
 ·simp [World.cell?, hb] at h
theorem jtwo {w w1 w2 : World} (h1 : Below w.heap.size w w1) (h2 : Below w1.heap.size w1 w2) : Below w.heap.size w w2 := h1.trans (h2.mono h1.size)
theorem jlow (w : World) (o : Obj) : Below w.heap.size w (w.alloc o) := (Below.refl _ _).alloc (Nat.le_refl _) _
theorem jgrown {w w' : World} : w.grownBy w' none ↔ Below w.heap.size w w' :=
 ⟨fun h => ⟨h.os, h.tape, h.output, h.size, fun k hk => h.block k hk (by simp)⟩, fun h => ⟨h.os, h.tape, h.output, h.size, fun k hk _ => h.block k hk⟩⟩
theorem jbelow {w w' : World} {B : Nat} {row : Option Nat} (h : w.grownBy w' row) (hB : B ≤ w.heap.size) (hr : ∀ g, row = some g → B ≤ g) : Below B w w' :=
 ⟨h.os, h.tape, h.output, h.size, fun k hk => h.block k (by omega) (fun e => by have := hr k e.symm; omega)⟩
/-- The cells of a list of n numbers of a kind. -/
def jrow (K : IntKind) (n : Nat) (f : Nat → Nat) : Array Value := (Array.range n).map fun i => .int K (f i : Nat)
theorem qe2 (K : IntKind) (n : Nat) (f : Nat → Nat) : (jrow K n f).size = n := by simp [jrow]
theorem qde (K : IntKind) (n : Nat) (f : Nat → Nat) (i : Nat) (h : i < n) : (jrow K n f)[i]? = some (.int K (f i : Nat)) := by simp [jrow, h]
theorem jrow_set (K : IntKind) (n : Nat) (f : Nat → Nat) (i v : Nat) : (jrow K n f).setIfInBounds i (.int K (v : Int)) = jrow K n (fun j => if j = i then v else f j) := by
 apply Array.ext
 ·simp [jrow]
 ·intro j h1 h2
  by_cases e : i = j
  ·subst e; simp [jrow]
  ·rw [Array.getElem_setIfInBounds_ne (by simpa using h1) e]; simp [jrow, Ne.symm e]
theorem qih (K : IntKind) (n : Nat) (f f' : Nat → Nat) (h : ∀ i, i < n → f i = f' i) : jrow K n f = jrow K n f' := by
 apply Array.ext
 ·simp [jrow]
 ·intro j h1 h2
  simp [qe2] at h1
  simp [jrow, h j h1]
theorem qka (K : IntKind) (n : Nat) (f : Nat → Nat) (v : Nat) : (jrow K n f).toList ++ [.int K (v : Int)] = (jrow K (n + 1) (fun i => if i = n then v else f i)).toList := by
 apply List.ext_getElem?
 intro i
 have hl : (jrow K n f).toList.length = n := by simp [qe2]
 by_cases h1 : i < n
 ·rw [List.getElem?_append_left (by omega), Array.getElem?_toList, Array.getElem?_toList, qde K n f i h1, qde K (n + 1) _ i (by omega), if_neg (by omega)]
 ·rw [List.getElem?_append_right (by omega), hl]
  by_cases h2 : i = n
  ·subst h2
   have e2 : (jrow K (i + 1) (fun t => if t = i then v else f t)).toList[i]? = some (.int K (v : Int)) := by rw [Array.getElem?_toList, qde K (i + 1) _ i (by omega), if_pos rfl]
   rw [Nat.sub_self, e2]; rfl
  ·have l2 : (jrow K (n + 1) (fun i => if i = n then v else f i)).toList.length = n + 1 := by simp [qe2]
   rw [List.getElem?_eq_none (by simp; omega), List.getElem?_eq_none (by omega)]
/-- Numbers of the call's own. -/
def Jo (w : World) (B : Nat) (T : TypeId) (K : IntKind) (v : Value) (n : Nat) (f : Nat → Nat) : Prop := w.ownsRow B T 1 v n (jrow K n f).toList
theorem Jo.nil (w : World) (B : Nat) (T : TypeId) (K : IntKind) (f : Nat → Nat) : Jo w B T K (.slice none 0 0) 0 f := by
 unfold Jo
 have : (jrow K 0 f).toList = [] := by simp [jrow]
 rw [this]
 exact World.ownsRow_nil _ _ _ _
theorem Jo.kept {w w' : World} {B n : Nat} {T : TypeId} {K : IntKind} {v : Value} {f : Nat → Nat} {row : Option Nat} (h : Jo w B T K v n f) (hg : w.grownBy w' row) (hne : v.ownBlock = none ∨ v.ownBlock ≠ row) : Jo w' B T K v n f := World.ownsRow.kept h hg hne
theorem Jo.later {w w' : World} {B n : Nat} {T : TypeId} {K : IntKind} {v : Value} {f : Nat → Nat} (h : Jo w B T K v n f) (hb : Below w.heap.size w w') : Jo w' B T K v n f := h.kept (jgrown.mpr hb) (by cases hv : v.ownBlock <;> simp)
theorem Jo.form {w : World} {B n : Nat} {T : TypeId} {K : IntKind} {v : Value} {f : Nat → Nat} (h : Jo w B T K v n f) : ∃ s d, v = .slice s n d ∧ (s = none → n = 0 ∧ d = 0) := by
 rcases h.2 with ⟨e, h0⟩ | ⟨g, cap, cur, e, _⟩
 ·exact ⟨none, 0, by rw [e, h0], fun _ => ⟨h0, rfl⟩⟩
 ·exact ⟨_, _, e, fun x => by cases x⟩
theorem Jo.base {w : World} {B n : Nat} {T : TypeId} {K : IntKind} {v : Value} {f : Nat → Nat} (h : Jo w B T K v n f) {g : Nat} (hg : v.ownBlock = some g) : B ≤ g ∧ g < w.heap.size := by
 rcases h.2 with ⟨e, _⟩ | ⟨g', cap, cur, e, hB, hb, _⟩
 ·rw [e] at hg; simp [Value.ownBlock] at hg
 ·rw [e] at hg; simp [Value.ownBlock] at hg; subst hg; exact ⟨hB, lt_of_block hb⟩
theorem Jo.addr {w : World} {B n d : Nat} {T : TypeId} {K : IntKind} {s : Option Addr} {f : Nat → Nat} (h : Jo w B T K (.slice s n d) n f) (hn : 0 < n) : ∃ g, s = some ⟨g, 0, none⟩ ∧ B ≤ g ∧ g < w.heap.size := by
 rcases h.2 with ⟨_, h0⟩ | ⟨g, cap, cur, e, hB, hg, hc, _, hs, ht⟩
 ·omega
 ·cases e
  exact ⟨g, rfl, hB, lt_of_block hg⟩
theorem Jo.cell {w : World} {B n d g : Nat} {T : TypeId} {K : IntKind} {f : Nat → Nat} (h : Jo w B T K (.slice (some ⟨g, 0, none⟩) n d) n f) (i : Nat) (hi : i < n) : w.cell? ⟨g, i, none⟩ = some (.int K (f i : Nat)) := by
 rcases h.2 with ⟨_, h0⟩ | ⟨g, cap, cur, e, _, hg, hc, _, hs, ht⟩
 ·omega
 ·cases e
  rw [cell_of_row w g i _ _ _ hg]
  have e1 : (cur.toList.take (n * 1))[i]? = some (.int K (f i : Nat)) := by rw [ht, Array.getElem?_toList, qde K n f i hi]
  rw [List.getElem?_take, if_pos (by omega), Array.getElem?_toList] at e1
  exact e1
theorem Jo.free {w : World} {B n d g : Nat} {T : TypeId} {K : IntKind} {f : Nat → Nat} (h : Jo w B T K (.slice (some ⟨g, 0, none⟩) n d) n f) (i : Nat) : w.frozen? ⟨g, i, none⟩ = false := World.ownsRow.frozenAt h i
theorem Jo.congr {w : World} {B n : Nat} {T : TypeId} {K : IntKind} {v : Value} {f f' : Nat → Nat} (h : Jo w B T K v n f) (e : ∀ i, i < n → f i = f' i) : Jo w B T K v n f' := by
 unfold Jo at *
 rw [← qih K n f f' e]; exact h
theorem Jo.mono {w : World} {B B' n : Nat} {T : TypeId} {K : IntKind} {v : Value} {f : Nat → Nat} (h : Jo w B T K v n f) (hB : B' ≤ B) : Jo w B' T K v n f := by
 refine ⟨h.1, ?_⟩
 rcases h.2 with h' | ⟨g, cap, cur, e, hb, r⟩
 ·exact .inl h'
 ·exact .inr ⟨g, cap, cur, e, by omega, r⟩
theorem qhb (K : IntKind) (w : World) (t : TypeId) (x : Nat) : ∀ j u, [Value.int K (x : Int)][j]? = some u → (w.alloc (.cells #[.int K (x : Int)] t)).cell? ((⟨w.heap.size, 0, none⟩ : Addr).add j) = some u := by
 intro j u hj
 match j, hj with
 | 0, hj => simp at hj; subst hj; simp [Addr.add]
theorem qhc (K : IntKind) (x : Nat) : ∀ u ∈ [Value.int K (x : Int)], u.oneCell' = true := by intro u hu; simp at hu; subst hu; rfl
/-- A slice reads as q 0, q 1, .. -/
def Jl (w : World) (b : Option Addr) (K : IntKind) (m : Nat) (q : Nat → Int) : Prop := ∀ i, i < m → ∃ x o, b = some ⟨x, o, none⟩ ∧ w.cell? ⟨x, o + i, none⟩ = some (.int K (q i))
theorem Jl.later {w w' : World} {b : Option Addr} {K : IntKind} {m : Nat} {q : Nat → Int} (h : Jl w b K m q) (hb : Below w.heap.size w w') : Jl w' b K m q := fun i hi => by
 obtain ⟨x, o, e, hc⟩ := h i hi
 exact ⟨x, o, e, by rw [hb.cell (p := ⟨x, o + i, none⟩) (jcell_lt hc)]; exact hc⟩
theorem Jo.jl {w : World} {B n d : Nat} {T : TypeId} {K : IntKind} {s : Option Addr} {f : Nat → Nat} (h : Jo w B T K (.slice s n d) n f) : Jl w s K n (fun i => (f i : Int)) := fun i hi => by
 obtain ⟨g, rfl, _⟩ := h.addr (by omega)
 exact ⟨g, 0, rfl, by rw [Nat.zero_add]; exact h.cell i hi⟩
open Go.RowKit
theorem qhd (s i : Nat) : (s : Int) / 2 ^ i = ((s / 2 ^ i : Nat) : Int) := by simp
theorem j_shr (s i : Nat) (hs : s < 18446744073709551616) : (s : Int) / 2 ^ min i 64 = ((s / 2 ^ i : Nat) : Int) := by
 rw [qhd]
 by_cases h : i ≤ 64
 ·rw [Nat.min_eq_left h]
 ·rw [Nat.min_eq_right (by omega), Nat.div_eq_of_lt (show s < 2 ^ 64 from hs), Nat.div_eq_of_lt (Nat.lt_of_lt_of_le (show s < 2 ^ 64 from hs) (Nat.pow_le_pow_right (by decide) (by omega)))]
theorem qhe (s i : Nat) (hs : s < 18446744073709551616) : s / 2 ^ i < 18446744073709551616 := Nat.lt_of_le_of_lt (Nat.div_le_self _ _) hs
theorem j_bit (s i : Nat) (hs : s < 18446744073709551616) : bits .and .u64 ((s / 2 ^ i : Nat) : Int) 1 = ((bt s i : Nat) : Int) := by
 have h := u64_and_nat (s / 2 ^ i) 1 (qhe s i hs) (by decide)
 rw [Nat.and_one_is_mod] at h
 exact h
theorem j_bit' (s i : Nat) (hs : s < 18446744073709551616) : bits .and .u64 ((s : Int) / 2 ^ i) 1 = ((bt s i : Nat) : Int) := by rw [qhd, j_bit s i hs]
theorem qbb {i : Nat} (h : i < 64) : 2 ^ i < 18446744073709551616 := Nat.pow_lt_pow_right (a := 2) (by decide) h
theorem qf6 (i : Nat) (h : i < 64) : IntKind.u64.wrap (2 ^ i) = ((2 ^ i : Nat) : Int) := by
 have h1 := qbb h
 have e : ((2 : Int) ^ i) = ((2 ^ i : Nat) : Int) := by simp
 rw [e, IntKind.wrap_u64]
 generalize 2 ^ i = z at h1 ⊢
 omega
theorem j_first (i : Nat) (h : i ≤ 64) : IntKind.u64.wrap (IntKind.u64.wrap (2 ^ i) - 1) = ((2 ^ i - 1 : Nat) : Int) := by
 by_cases h1 : i < 64
 ·have h2 := qbb h1
  have h3 := Nat.two_pow_pos i
  rw [qf6 i h1, IntKind.wrap_u64]
  generalize 2 ^ i = z at h2 h3
  omega
 ·obtain rfl : i = 64 := by omega
  decide
theorem j_bool {n : Nat} : ((n : Int) == 1) = decide (n = 1) := by
 by_cases h : n = 1
 ·subst h; rfl
 ·rw [decide_eq_false h]
  simp only [beq_eq_false_iff_ne, ne_eq]
  omega
theorem qge (s i : Nat) (w : World) (hs : s < 18446744073709551616) :
  Calls Try.prog 89 #[.int .u64 (s : Int), .int .i64 (i : Int)] w fun e w' => e = .returned (.bool (decide (bt s i = 1))) ∧ w = w' := by
 have h1 : (s : Int) / 2 ^ min i 64 = (s : Int) / 2 ^ i := by rw [j_shr s i hs, qhd]
 have h2 := j_bit' s i hs
 go_enter Try.func89, Try.ntmps89
 go_wp2
 go_ret
 exact ⟨by rw [← j_bool]; rfl, rfl⟩
theorem qf7 (s i : Nat) (w : World) (hs : s < 18446744073709551616) (hi : i < 64) :
  Calls Try.prog 10 #[.int .u64 (s : Int), .int .i64 (i : Int)] w fun e w' => e = .returned (.bool (decide (bt s i = 1))) ∧ w = w' := by
 have h2 := j_bit' s i hs
 go_enter Try.func10, Try.ntmps10
 go_wp2
 go_ret
 exact ⟨by rw [← j_bool]; rfl, rfl⟩
theorem qe3 (k : Nat) (w : World) (hk : k ≤ 64) :
  Calls Try.prog 56 #[.int .i64 (k : Int)] w fun e w' => e = .returned (.int .u64 ((2 ^ k - 1 : Nat) : Int)) ∧ w = w' := by
 have h1 := j_first k hk
 go_enter Try.func56, Try.ntmps56
 go_wp2
 go_ret
 exact ⟨rfl, rfl⟩
theorem qct (n : Nat) (w : World) (hn : n ≤ 64) :
  Calls Try.prog 55 #[.int .i64 (n : Int)] w fun e w' => e = .returned (.bool true) ∧ w = w' := by
 have h2 : decide ((n : Int) ≤ 64) = true := decide_eq_true (by omega)
 go_enter Try.func55, Try.ntmps55
 go_wp2
 go_ret
 exact ⟨rfl, rfl⟩
theorem jset_ok (s n : Nat) (w : World) (hn : n ≤ 64) :
  Calls Try.prog 88 #[.int .i64 (n : Int), .int .u64 (s : Int)] w fun e w' => e = .returned (.bool (decide (s < 2 ^ n))) ∧ w = w' := by
 go_enter Try.func88, Try.ntmps88
 go_wp2
 go_ret
 refine ⟨?_, rfl⟩
 show Ending.returned (.bool ((s : Int) / 2 ^ n == 0)) = _
 rw [qhd]
 congr 2
 by_cases h : s < 2 ^ n
 ·rw [decide_eq_true h, Nat.div_eq_of_lt h]; rfl
 ·have h2 := Nat.div_pos (Nat.le_of_not_lt h) (Nat.two_pow_pos n)
  rw [decide_eq_false h]
  simp only [beq_eq_false_iff_ne, ne_eq]
  omega
theorem jfull_ok (k : Nat) (w : World) (hk : k ≤ 64) :
  Calls Try.prog 35 #[.int .i64 (k : Int)] w fun e w' => e = .returned (.tuple #[.int .u64 ((2 ^ k - 1 : Nat) : Int), .int .i64 0]) ∧ w = w' := by
 obtain ⟨z, HZ⟩ : ∃ z : Nat, Hid ((2 ^ k - 1 : Nat) = z) := ⟨_, rfl⟩
 rw [HZ.out]
 go_enter Try.func35, Try.ntmps35
 go_wp2_with (first
  | (go_at_call 55; refine (qct _ _ hk).mono ?_; rintro e w' ⟨rfl, rfl⟩)
  | (go_at_call 56; refine (qe3 _ _ hk).mono ?_; rintro e w' ⟨rfl, rfl⟩; rw [HZ.out]))
 go_ret2
 exact ⟨rfl, rfl⟩
theorem qkb {a b c r : Nat} (ha : a ≤ 1832624140942590534) (hb : b ≤ 64) (hc : c ≤ 65) (hc0 : 0 < c) (hr : r ≤ 1832624140942590534) (h : a * b = r * c) :
  wrap64 (wrap64 (wrap64 ((a : Int) / (c : Int)) * (b : Int)) + wrap64 ((wrap64 ((a : Int) % (c : Int) * (b : Int))).tdiv (c : Int))) = (r : Int) := by
 have h1 := qig hc0 h
 have h2 : a / c ≤ a := Nat.div_le_self _ _
 have h3 : a % c < c := Nat.mod_lt _ hc0
 have h4 : a % c * b ≤ 65 * 64 := Nat.mul_le_mul (by omega) hb
 have e1 : (a : Int) / (c : Int) = ((a / c : Nat) : Int) := by simp
 have e2 : (a : Int) % (c : Int) = ((a % c : Nat) : Int) := by simp
 rw [e1, e2]
 generalize a / c = q at *
 generalize a % c = m at *
 have w1 : wrap64 (q : Int) = (q : Int) := IntWalk.wrap64_in _ (by omega)
 have e3 : (m : Int) * (b : Int) = ((m * b : Nat) : Int) := rfl
 have e4 : (q : Int) * (b : Int) = ((q * b : Nat) : Int) := rfl
 rw [w1, e3, e4]
 clear e1 e2 e3 e4 w1 h2 h3 h
 generalize m * b = x at *
 generalize q * b = y at *
 have w2 : wrap64 (x : Int) = (x : Int) := IntWalk.wrap64_in _ (by omega)
 have e5 : (x : Int).tdiv (c : Int) = ((x / c : Nat) : Int) := rfl
 rw [w2, e5]
 clear w2 e5
 generalize x / c = z at *
 have w3 : wrap64 (y : Int) = (y : Int) := IntWalk.wrap64_in _ (by omega)
 have w4 : wrap64 (z : Int) = (z : Int) := IntWalk.wrap64_in _ (by omega)
 rw [w3, w4, IntWalk.wrap64_in _ (by omega)]
 omega
theorem qe4 (a b c r : Nat) (w : World) (ha : a ≤ 1832624140942590534) (hb : b ≤ 64) (hc : c ≤ 65) (hc0 : 0 < c) (hr : r ≤ 1832624140942590534) (h : a * b = r * c) :
  Calls Try.prog 98 #[.int .i64 (a : Int), .int .i64 (b : Int), .int .i64 (c : Int)] w fun e w' => e = .returned (.int .i64 (r : Int)) ∧ Below w.heap.size w w' := by
 have hc1 : ¬ (c : Int) = 0 := by omega
 have hc2 : ((c : Int) == 0) = false := by simp; omega
 go_enter Try.func98, Try.ntmps98
 go_wp2
 go_quiet (fail)
 go_wp2
 go_ret
 exact ⟨congrArg (fun z => Ending.returned (.int .i64 z)) (qkb ha hb hc hc0 hr h), below_drewN (Below.refl _ _) _⟩
end Go.Proofs.Ytblagbghpfopcaa
