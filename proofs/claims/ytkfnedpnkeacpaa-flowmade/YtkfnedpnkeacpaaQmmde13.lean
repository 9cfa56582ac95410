/-
  Matrices that come in; pieces of lists; copy into a list of the call's own; rowOf.
-/
import Derived.Test.YtkfnedpnkeacpaaQmmde00
import Derived.Test.YtkfnedpnkeacpaaQmmde12
import Derived.Laws.CopyOwn
set_option maxRecDepth 100000
set_option maxHeartbeats 16000000
namespace Go.Proofs.Ytkfnedpnkeacpaa
open Go.RowKit
/-- A list of elements with room. -/
structure Mt (w : World) (a : Option Addr) (n k : Nat) (F : Nat → Nat) : Prop where
 sl : Sl w a n F
 room : n ≤ k
 nil : a = none → n = 0 ∧ k = 0
theorem Mt.later {w w' : World} {a : Option Addr} {n k : Nat} {F : Nat → Nat} (h : Mt w a n k F) (hb : Below w.heap.size w w') : Mt w' a n k F := ⟨h.sl.later hb, h.room, h.nil⟩
theorem Mt.kept {w w' : World} {a : Option Addr} {n k g : Nat} {F : Nat → Nat} (h : Mt w a n k F) (hg : w.grownBy w' (some g)) (ho : 0 < n → Off g a) : Mt w' a n k F := ⟨h.sl.beside hg ho, h.room, h.nil⟩
theorem RowAt.mt {w : World} {g : Nat} {t : TypeId} {n : Nat} {f : Nat → Nat} (h : RowAt w g t n f) (hf : ∀ i, i < n → f i < 256) : Mt w (some ⟨g, 0, none⟩) n n f := ⟨h.sl hf, Nat.le_refl _, fun e => by cases e⟩
theorem Mt.none (w : World) (F : Nat → Nat) : Mt w none 0 0 F := ⟨Sl.nil _ _ _, Nat.le_refl _, fun _ => ⟨rfl, rfl⟩⟩
theorem qex (w : World) (a : Option Addr) (len cap : Nat) (zs : List Int)
  (h : (a = none ∧ len = 0 ∧ cap = 0 ∧ zs = []) ∨ ∃ x, a = some x ∧ len ≤ cap ∧ cap ≤ 140737488351232 ∧ zs.length = cap ∧ (∀ i, i < zs.length → w.cell? (x.add i) = some (.int .u8 (zs.getD i 0))) ∧ ∀ n ∈ zs, (Lit.int .u8 n).wf = true) :
  ∃ f : Nat → Nat, Mt w a len cap f ∧ len ≤ 140737488351232 := by
 obtain ⟨f, h1, h2, h3⟩ := qep w a len cap zs h
 refine ⟨f, ⟨h1, ?_, h3⟩, h2⟩
 rcases h with ⟨_, rfl, rfl, _⟩ | ⟨x, _, hl, _⟩ <;> omega
theorem add_plain (b o i : Nat) : (⟨b, o, none⟩ : Addr).add i = ⟨b, o + i, none⟩ := by unfold Addr.add; split <;> simp_all
theorem pc_row (g p c : Nat) (h : 0 < c) : pc (some ⟨g, 0, none⟩) p c = some ⟨g, p, none⟩ := by
 unfold pc
 rw [if_neg (by omega)]
 show some (Addr.add _ _) = _
 rw [add_plain, Nat.zero_add]
theorem Sl.piece {w : World} {a : Option Addr} {n : Nat} {F : Nat → Nat} (h : Sl w a n F) {p c : Nat} (hf : p + c ≤ n) : Sl w (pc a p c) c (fun j => F (p + j)) := by
 refine ⟨fun i hi => h.1 _ (by omega), fun i hi => ?_⟩
 obtain ⟨b, o, e, hc⟩ := h.2 (p + i) (by omega)
 subst e
 refine ⟨b, o + p, ?_, by rw [Nat.add_assoc]; exact hc⟩
 unfold pc
 rw [if_neg (by omega)]
 show some (Addr.add _ _) = _
 rw [add_plain]
theorem Mt.piece {w : World} {a : Option Addr} {n k : Nat} {F : Nat → Nat} (h : Mt w a n k F) {p c : Nat} (hf : p + c ≤ n) : Sl w (pc a p c) c (fun j => F (p + j)) := h.sl.piece hf
theorem Rt.fit {r c n i : Nat} (h : Rt r c n) (hi : i < r) : i * c + c ≤ n := by
 rw [← h.len]
 exact Nat.le_trans (Nat.le_of_eq (show i * c + c = (i + 1) * c by rw [Nat.add_mul, Nat.one_mul])) (Nat.mul_le_mul_right c hi)
/-- A list with h laid over it from place p on. -/
def cpf (f h : Nat → Nat) (p c q : Nat) : Nat := if p ≤ q ∧ q < p + c then h (q - p) else f q
theorem qey (n p c : Nat) (f h : Nat → Nat) (hp : p + c ≤ n) : ((row n f).toList.take p ++ ((row c h).toList ++ (row n f).toList.drop (p + c))).toArray = row n (cpf f h p c) := by
 have hl : ((row n f).toList.take p).length = p := by simp [qa3]; omega
 have hc : (row c h).toList.length = c := by simp [qa3]
 apply Array.ext
 ·simp [qa3]; omega
 ·intro i h1 h2
  have hi : i < n := by simpa [qa3] using h2
  have e2 : (row n (cpf f h p c))[i] = .int .u8 (cpf f h p c i : Nat) := by simp [row]
  rw [e2]
  simp only [mz1]
  unfold cpf
  by_cases ha : i < p
  ·rw [List.getElem_append_left (by omega), if_neg (by omega)]
   simp [row]
  ·rw [List.getElem_append_right (by omega)]
   by_cases hb : i < p + c
   ·rw [List.getElem_append_left (by omega), if_pos ⟨by omega, hb⟩]
    simp [row, Nat.min_eq_left (show p ≤ n by omega)]
   ·rw [List.getElem_append_right (by omega), if_neg (by omega)]
    simp [row]
    congr 1
    congr 1
    omega
theorem qb0 (w : World) (g : Nat) (cs : Array Value) : w.grownBy (w.setRow g cs) (some g) := ⟨rfl, rfl, rfl, by simp [World.setRow], fun k _ hne => setRow_other w g k cs (fun e => hne (by rw [e]))⟩
theorem qbg (w : World) (row : Option Nat) : w.grownBy w row := ⟨rfl, rfl, rfl, Nat.le_refl _, fun _ _ _ => rfl⟩
theorem size8 : (Try.prog.info? 5).map (·.size) = some 1 := by kernel_rfl
theorem qe6 {op : Oper} {a : Act} {w : World} {K : Act → World → Prop} {Q : Exit → Act → World → Prop} (d s : Operand) (ho : op.op = .call { callee := .builtin .copy, args := #[d, s], argTypes := #[22, 22] })
  (g p n c dc sc : Nat) (dp sp : Option Addr) (f h : Nat → Nat) (hd : a.eval d = .slice dp c dc) (hs : a.eval s = .slice sp c sc) (hr : RowAt w g 5 n f) (hdp : 0 < c → dp = some ⟨g, p, none⟩) (hsl : Sl w sp c h) (hfit : p + c ≤ n)
  (k : ∀ w', Hid (RowAt w' g 5 n (cpf f h p c)) → Hid (w.grownBy w' (some g)) → K (a.put op.dst (goInt c)) w') : Oper.wp Try.prog op a w K Q := by
 by_cases h0 : c = 0
 ·subst h0
  have hrun := run_copy_none (P := Try.prog) w 22 22 op.type 5 dp sp 0 dc 0 sc Try.underlying22 size8 rfl
  unfold Oper.wp
  simp [execOp, ho, resolve, invoke, builtin, hd, hs, hrun, Result.andThen]
  exact k w (hr.congr (fun q _ => by unfold cpf; rw [if_neg (by omega)])) (qbg _ _)
 ·have hdp' := hdp (by omega)
  subst hdp'
  obtain ⟨b, o, e, _⟩ := hsl.2 0 (by omega)
  subst e
  have hsrc : ∀ j v, (row c h).toList[j]? = some v → w.cell? ((⟨b, o, none⟩ : Addr).add j) = some v := qba hsl (Below.refl _ _)
  have hrun := run_copy_row (P := Try.prog) w 22 22 op.type 5 g p c dc ⟨b, o, none⟩ c sc (row n f) 5 (row c h).toList Try.underlying22 size8 hr (by simp [qa3]) hsrc (by simp [qa3]; exact hfit) (qaz c h)
  have hlen : (row c h).toList.length = c := by simp [qa3]
  rw [hlen, List.append_assoc, qey n p c f h hfit] at hrun
  unfold Oper.wp
  simp [execOp, ho, resolve, invoke, builtin, hd, hs, hrun, Result.andThen]
  exact k _ (setRow_heap w g _ _ _ _ hr) (qb0 _ _ _)
theorem qcr {ops : Array Oper} {op : Oper} {a : Act} {w : World} {K : Act → World → Prop} {Q : Exit → Act → World → Prop} {E : Prop} (hgd : op.guard = none) (d s : Operand) (ho : op.op = .call { callee := .builtin .copy, args := #[d, s], argTypes := #[22, 22] })
  (g p n c dc sc : Nat) (dp sp : Option Addr) (f h : Nat → Nat) (hd : a.eval d = .slice dp c dc) (hs : a.eval s = .slice sp c sc) (hr : RowAt w g 5 n f) (hdp : 0 < c → dp = some ⟨g, p, none⟩) (hsl : Sl w sp c h) (hfit : p + c ≤ n)
  (k : ∀ w', Hid (RowAt w' g 5 n (cpf f h p c)) → Hid (w.grownBy w' (some g)) → K (a.put op.dst (goInt c)) w') : if Region.wanted op (yielded ops a.tmps) = true then Oper.wp Try.prog op a w K Q else E := by
 have hw : Region.wanted op (yielded ops a.tmps) = true := by simp [Region.wanted, hgd]
 rw [if_pos hw]
 exact qe6 d s ho g p n c dc sc dp sp f h hd hs hr hdp hsl hfit k
theorem qcs (w : World) (r : Int) (c n k i p : Nat) (a s : Option Addr) (h0 : a = none → n = 0 ∧ k = 0) (hk : n ≤ k) (hfit : p + c ≤ n) (hn : n ≤ 4096) (hi : i ≤ 4096) (HP : Hid (i * c = p)) (HS : Hid (pc a p c = s)) :
  Calls Try.prog 49 #[mv r c a n k, .int .i64 (i : Int)] w fun e w' => e = .returned (.slice s c c) ∧ Below w.heap.size w w' := by
 have H0 : Hid (a = none → k = 0) := fun e => (h0 e).2
 clear h0
 go_enter Try.func49, Try.ntmps49
 go_wp2_with (first
  | (go_at_call 57; refine (qew _ a n k c i p H0.out hk hfit hn hi HP s HS).mono ?_; rintro e w' ⟨rfl, rfl⟩))
 go_ret
 exact ⟨rfl, qa2 _ _⟩
end Go.Proofs.Ytkfnedpnkeacpaa
