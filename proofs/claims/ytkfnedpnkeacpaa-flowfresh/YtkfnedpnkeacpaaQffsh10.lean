/-
  Contracts of the matrices' reference: Same, Copy.
  What the laws about matrices ask: two answers, matrix and error, are alike.
  The laws' parameters in the contracts' words: slices of ints; a place where a list of ints leaves its bounds.
  Contracts of the program's matrices: isSide, hasRow, Right, noughts, piece, rowOf.
  Matrices that come in; pieces of lists; copy into a list of the call's own; rowOf.
-/
import Derived.Test.YtkfnedpnkeacpaaQffsh00
import Derived.Test.YtkfnedpnkeacpaaQffsh09
import Derived.Test.YtkfnedpnkeacpaaQffsh06
import Derived.Laws.CopyOwn
set_option maxRecDepth 100000
set_option maxHeartbeats 16000000
namespace Go.Proofs.Ytkfnedpnkeacpaa
open Go.RowKit
theorem qed {r c : Int} {n : Nat} {f h : Nat → Nat} (e : ∀ i, i < n → f i = h i) : likeB r c r c n n f h = true := by
 unfold likeB sameB
 simp
 exact e
open Go.RowKit
theorem qee (w : World) (r c i : Int) (a : Option Addr) (n k : Nat) (h : 0 ≤ i ∧ i < r) :
  Calls Try.prog 47 #[mv r c a n k, .int .i64 i] w fun e w' => e = .returned (.bool true) ∧ Below w.heap.size w w' := by
 have g1 : decide (0 ≤ i) = true := by simpa using h.1
 have g2 : decide (i < r) = true := by simpa using h.2
 clear h
 go_enter Try.func47, Try.ntmps47
 go_wp2
 go_ret
 exact ⟨rfl, qa4 _ _⟩
theorem qbg (w : World) (r c : Int) (a : Option Addr) (n k : Nat) (h : RightP r c n) :
  Calls Try.prog 29 #[mv r c a n k] w fun e w' => e = .returned (.bool true) ∧ Below w.heap.size w w' := by
 obtain ⟨h1, h2, h3, h4, h5⟩ := h
 have hm := qct h1 h2 h3 h4
 have hw : IntKind.i64.wrap (r * c) = r * c := by rw [IntKind.wrap_i64]; omega
 have g1 : decide (0 ≤ r) = true := by simpa using h1
 have g2 : decide (r ≤ 64) = true := by simpa using h2
 have g3 : decide (0 ≤ c) = true := by simpa using h3
 have g4 : decide (c ≤ 64) = true := by simpa using h4
 have g5 : ((n : Int) == r * c) = true := by simpa using h5
 clear h5 hm
 go_enter Try.func29, Try.ntmps29
 go_wp2
 go_ret
 exact ⟨rfl, qa4 _ _⟩
theorem qf4 (w : World) (r c : Int) (a : Option Addr) (n k : Nat) (h : ¬ RightP r c n) :
  Calls Try.prog 29 #[mv r c a n k] w fun e w' => e = .returned (.bool false) ∧ Below w.heap.size w w' := by
 by_cases h1 : 0 ≤ r
 ·by_cases h2 : r ≤ 64
  ·by_cases h3 : 0 ≤ c
   ·by_cases h4 : c ≤ 64
    ·have h5 : ¬ ((n : Int) = r * c) := fun e => h ⟨h1, h2, h3, h4, e⟩
     have hm := qct h1 h2 h3 h4
     have hw : IntKind.i64.wrap (r * c) = r * c := by rw [IntKind.wrap_i64]; omega
     have g1 : decide (0 ≤ r) = true := by simpa using h1
     have g2 : decide (r ≤ 64) = true := by simpa using h2
     have g3 : decide (0 ≤ c) = true := by simpa using h3
     have g4 : decide (c ≤ 64) = true := by simpa using h4
     have g5 : ((n : Int) == r * c) = false := by simpa using h5
     clear h h5 hm
     go_enter Try.func29, Try.ntmps29
     go_wp2
     go_ret
     exact ⟨rfl, qa4 _ _⟩
    ·have g4 : decide (c ≤ 64) = false := by simpa using h4
     clear h
     go_enter Try.func29, Try.ntmps29
     go_wp2
     go_ret
     exact ⟨rfl, qa4 _ _⟩
   ·have g3 : decide (0 ≤ c) = false := by simpa using h3
    clear h
    go_enter Try.func29, Try.ntmps29
    go_wp2
    go_ret
    exact ⟨rfl, qa4 _ _⟩
  ·have g2 : decide (r ≤ 64) = false := by simpa using h2
   clear h
   go_enter Try.func29, Try.ntmps29
   go_wp2
   go_ret
   exact ⟨rfl, qa4 _ _⟩
 ·have g1 : decide (0 ≤ r) = false := by simpa using h1
  clear h
  go_enter Try.func29, Try.ntmps29
  go_wp2
  go_ret
  exact ⟨rfl, qa4 _ _⟩
/-- Where a piece of c elements begins that starts at place p. -/
def pc (a : Option Addr) (p c : Nat) : Option Addr := if c = 0 then a else a.map fun x => x.add p
theorem qf5 (w : World) (a : Option Addr) (n k c i p : Nat) (h0 : a = none → k = 0) (hk : n ≤ k) (hfit : p + c ≤ n) (hn : n ≤ 4096) (hi : i ≤ 4096) (HP : Hid (i * c = p)) (s : Option Addr) (HS : Hid (pc a p c = s)) :
  Calls Try.prog 57 #[.slice a n k, .int .i64 (c : Int), .int .i64 (i : Int)] w fun e w' => e = .returned (.slice s c c) ∧ w = w' := by
 have e1 : ((i : Int) * (c : Int)) = (p : Int) := by rw [← HP.out]; simp
 have e2 : (((i : Int) + 1) * (c : Int)) = ((p + c : Nat) : Int) := by rw [Int.add_mul, e1]; simp
 have w1 : IntKind.i64.wrap (p : Int) = (p : Int) := by rw [IntKind.wrap_i64]; omega
 have w3 : IntKind.i64.wrap ((i : Int) + 1) = (i : Int) + 1 := by rw [IntKind.wrap_i64]; omega
 obtain ⟨q, HQ⟩ : ∃ q, Hid (p + c = q) := ⟨_, rfl⟩
 rw [HQ.out] at e2
 have w2 : IntKind.i64.wrap (q : Int) = (q : Int) := by rw [IntKind.wrap_i64]; have := HQ.out; omega
 by_cases hc0 : c = 0
 ·subst hc0
  obtain rfl : p = q := by have := HQ.out; omega
  obtain rfl : a = s := by have := HS.out; simpa [pc] using this
  clear HS HQ
  go_enter Try.func57, Try.ntmps57
  go_wp2
  go_ret
  exact ⟨by simp, rfl⟩
 ·cases a with
  | none => have := h0 rfl; omega
  | some x =>
   obtain rfl : some (x.add p) = s := by have := HS.out; rw [← this]; unfold pc; rw [if_neg hc0]; rfl
   have hq := HQ.out
   have hpq : p < q := by omega
   have hqn : q ≤ k := by omega
   have hcq : q - p = c := by omega
   clear HS HQ h0
   go_enter Try.func57, Try.ntmps57
   go_wp2
   go_ret
   exact ⟨by simp, rfl⟩
open Go.RowKit
/-- A list of elements with room. -/
structure Mt (w : World) (a : Option Addr) (n k : Nat) (F : Nat → Nat) : Prop where
 sl : Sl w a n F
 room : n ≤ k
 nil : a = none → n = 0 ∧ k = 0
theorem Mt.later {w w' : World} {a : Option Addr} {n k : Nat} {F : Nat → Nat} (h : Mt w a n k F) (hb : Below w.heap.size w w') : Mt w' a n k F := ⟨h.sl.later hb, h.room, h.nil⟩
theorem Mt.kept {w w' : World} {a : Option Addr} {n k g : Nat} {F : Nat → Nat} (h : Mt w a n k F) (hg : w.grownBy w' (some g)) (ho : 0 < n → Off g a) : Mt w' a n k F := ⟨h.sl.beside hg ho, h.room, h.nil⟩
theorem RowAt.mt {w : World} {g : Nat} {t : TypeId} {n : Nat} {f : Nat → Nat} (h : RowAt w g t n f) (hf : ∀ i, i < n → f i < 256) : Mt w (some ⟨g, 0, none⟩) n n f := ⟨h.sl hf, Nat.le_refl _, fun e => by cases e⟩
theorem Mt.none (w : World) (F : Nat → Nat) : Mt w none 0 0 F := ⟨Sl.nil _ _ _, Nat.le_refl _, fun _ => ⟨rfl, rfl⟩⟩
theorem qf6 (w : World) (a : Option Addr) (len cap : Nat) (zs : List Int)
  (h : (a = none ∧ len = 0 ∧ cap = 0 ∧ zs = []) ∨ ∃ x, a = some x ∧ len ≤ cap ∧ cap ≤ 140737488351232 ∧ zs.length = cap ∧ (∀ i, i < zs.length → w.cell? (x.add i) = some (.int .u8 (zs.getD i 0))) ∧ ∀ n ∈ zs, (Lit.int .u8 n).wf = true) :
  ∃ f : Nat → Nat, Mt w a len cap f ∧ len ≤ 140737488351232 := by
 obtain ⟨f, h1, h2, h3⟩ := qcs w a len cap zs h
 refine ⟨f, ⟨h1, ?_, h3⟩, h2⟩
 rcases h with ⟨_, rfl, rfl, _⟩ | ⟨x, _, hl, _⟩ <;> omega
theorem add_plain (b o i : Nat) : (⟨b, o, none⟩ : Addr).add i = ⟨b, o + i, none⟩ := by unfold Addr.add; split <;> simp_all
theorem Sl.piece {w : World} {a : Option Addr} {n : Nat} {F : Nat → Nat} (h : Sl w a n F) {p c : Nat} (hf : p + c ≤ n) : Sl w (pc a p c) c (fun j => F (p + j)) := by
 refine ⟨fun i hi => h.1 _ (by omega), fun i hi => ?_⟩
 obtain ⟨b, o, e, hc⟩ := h.2 (p + i) (by omega)
 subst e
 refine ⟨b, o + p, ?_, by rw [Nat.add_assoc]; exact hc⟩
 unfold pc
 rw [if_neg (by omega)]
 show some (Addr.add _ _) = _
 rw [add_plain]
theorem Mt.piece {w : World} {a : Option Addr} {n k : Nat} {F : Nat → Nat} (h : Mt w a n k F) {p c : Nat} (hf : p + c ≤ n) : Sl w (pc a p c) c (fun j => F (p + j)) := h.sl.piece hf
theorem Rt.fit {r c n i : Nat} (h : Rt r c n) (hi : i < r) : i * c + c ≤ n := by
 rw [← h.len]
 exact Nat.le_trans (Nat.le_of_eq (show i * c + c = (i + 1) * c by rw [Nat.add_mul, Nat.one_mul])) (Nat.mul_le_mul_right c hi)
/-- A list with h laid over it from place p on. -/
def cpf (f h : Nat → Nat) (p c q : Nat) : Nat := if p ≤ q ∧ q < p + c then h (q - p) else f q
theorem cpf_row (n p c : Nat) (f h : Nat → Nat) (hp : p + c ≤ n) : ((row n f).toList.take p ++ ((row c h).toList ++ (row n f).toList.drop (p + c))).toArray = row n (cpf f h p c) := by
 have hl : ((row n f).toList.take p).length = p := by simp [qa6]; omega
 have hc : (row c h).toList.length = c := by simp [qa6]
 apply Array.ext
 ·simp [qa6]; omega
 ·intro i h1 h2
  have hi : i < n := by simpa [qa6] using h2
  have e2 : (row n (cpf f h p c))[i] = .int .u8 (cpf f h p c i : Nat) := by simp [row]
  rw [e2]
  simp only [mz1]
  unfold cpf
  by_cases ha : i < p
  ·rw [List.getElem_append_left (by omega), if_neg (by omega)]
   simp [row]
  ·rw [List.getElem_append_right (by omega)]
   by_cases hb : i < p + c
   ·rw [List.getElem_append_left (by omega), if_pos ⟨by omega, hb⟩]
    simp [row, Nat.min_eq_left (show p ≤ n by omega)]
   ·rw [List.getElem_append_right (by omega), if_neg (by omega)]
    simp [row]
    congr 1
    congr 1
    omega
theorem qaz (w : World) (g : Nat) (cs : Array Value) : w.grownBy (w.setRow g cs) (some g) := ⟨rfl, rfl, rfl, by simp [World.setRow], fun k _ hne => setRow_other w g k cs (fun e => hne (by rw [e]))⟩
theorem qef (w : World) (row : Option Nat) : w.grownBy w row := ⟨rfl, rfl, rfl, Nat.le_refl _, fun _ _ _ => rfl⟩
theorem size8 : (Try.prog.info? 5).map (·.size) = some 1 := by kernel_rfl
theorem qeg {op : Oper} {a : Act} {w : World} {K : Act → World → Prop} {Q : Exit → Act → World → Prop} (d s : Operand) (ho : op.op = .call { callee := .builtin .copy, args := #[d, s], argTypes := #[22, 22] })
  (g p n c dc sc : Nat) (dp sp : Option Addr) (f h : Nat → Nat) (hd : a.eval d = .slice dp c dc) (hs : a.eval s = .slice sp c sc) (hr : RowAt w g 5 n f) (hdp : 0 < c → dp = some ⟨g, p, none⟩) (hsl : Sl w sp c h) (hfit : p + c ≤ n)
  (k : ∀ w', Hid (RowAt w' g 5 n (cpf f h p c)) → Hid (w.grownBy w' (some g)) → K (a.put op.dst (goInt c)) w') : Oper.wp Try.prog op a w K Q := by
 by_cases h0 : c = 0
 ·subst h0
  have hrun := run_copy_none (P := Try.prog) w 22 22 op.type 5 dp sp 0 dc 0 sc Try.underlying22 size8 rfl
  unfold Oper.wp
  simp [execOp, ho, resolve, invoke, builtin, hd, hs, hrun, Result.andThen]
  exact k w (hr.congr (fun q _ => by unfold cpf; rw [if_neg (by omega)])) (qef _ _)
 ·have hdp' := hdp (by omega)
  subst hdp'
  obtain ⟨b, o, e, _⟩ := hsl.2 0 (by omega)
  subst e
  have hsrc : ∀ j v, (row c h).toList[j]? = some v → w.cell? ((⟨b, o, none⟩ : Addr).add j) = some v := qbz hsl (Below.refl _ _)
  have hrun := run_copy_row (P := Try.prog) w 22 22 op.type 5 g p c dc ⟨b, o, none⟩ c sc (row n f) 5 (row c h).toList Try.underlying22 size8 hr (by simp [qa6]) hsrc (by simp [qa6]; exact hfit) (qc0 c h)
  have hlen : (row c h).toList.length = c := by simp [qa6]
  rw [hlen, List.append_assoc, cpf_row n p c f h hfit] at hrun
  unfold Oper.wp
  simp [execOp, ho, resolve, invoke, builtin, hd, hs, hrun, Result.andThen]
  exact k _ (setRow_heap w g _ _ _ _ hr) (qaz _ _ _)
theorem qcu {ops : Array Oper} {op : Oper} {a : Act} {w : World} {K : Act → World → Prop} {Q : Exit → Act → World → Prop} {E : Prop} (hgd : op.guard = none) (d s : Operand) (ho : op.op = .call { callee := .builtin .copy, args := #[d, s], argTypes := #[22, 22] })
  (g p n c dc sc : Nat) (dp sp : Option Addr) (f h : Nat → Nat) (hd : a.eval d = .slice dp c dc) (hs : a.eval s = .slice sp c sc) (hr : RowAt w g 5 n f) (hdp : 0 < c → dp = some ⟨g, p, none⟩) (hsl : Sl w sp c h) (hfit : p + c ≤ n)
  (k : ∀ w', Hid (RowAt w' g 5 n (cpf f h p c)) → Hid (w.grownBy w' (some g)) → K (a.put op.dst (goInt c)) w') : if Region.wanted op (yielded ops a.tmps) = true then Oper.wp Try.prog op a w K Q else E := by
 have hw : Region.wanted op (yielded ops a.tmps) = true := by simp [Region.wanted, hgd]
 rw [if_pos hw]
 exact qeg d s ho g p n c dc sc dp sp f h hd hs hr hdp hsl hfit k
theorem qf7 (w : World) (r : Int) (c n k i p : Nat) (a s : Option Addr) (h0 : a = none → n = 0 ∧ k = 0) (hk : n ≤ k) (hfit : p + c ≤ n) (hn : n ≤ 4096) (hi : i ≤ 4096) (HP : Hid (i * c = p)) (HS : Hid (pc a p c = s)) :
  Calls Try.prog 49 #[mv r c a n k, .int .i64 (i : Int)] w fun e w' => e = .returned (.slice s c c) ∧ Below w.heap.size w w' := by
 have H0 : Hid (a = none → k = 0) := fun e => (h0 e).2
 clear h0
 go_enter Try.func49, Try.ntmps49
 go_wp2_with (first
  | (go_at_call 57; refine (qf5 _ a n k c i p H0.out hk hfit hn hi HP s HS).mono ?_; rintro e w' ⟨rfl, rfl⟩))
 go_ret
 exact ⟨rfl, qa4 _ _⟩
end Go.Proofs.Ytkfnedpnkeacpaa
