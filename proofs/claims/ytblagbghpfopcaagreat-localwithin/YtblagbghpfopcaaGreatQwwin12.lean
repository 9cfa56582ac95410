/-
  Contracts of the program's matrices: isSide, hasRow, Right, noughts, piece, rowOf.
  Matrices that come in; pieces of lists; copy into a list of the call's own; rowOf.
-/
import Derived.Test.YtblagbghpfopcaaGreatQwwin00
import Derived.Test.YtblagbghpfopcaaGreatQwwin11
import Derived.Laws.CopyOwn
set_option maxRecDepth 100000
set_option maxHeartbeats 16000000
namespace Go.Proofs.YtblagbghpfopcaaGreat
open Go.RowKit
theorem side_yes (w : World) (n : Int) (h : 0 ≤ n ∧ n ≤ 64) :
  Calls Tryz.prog 62 #[.int .i64 n] w fun e w' => e = .returned (.bool true) ∧ w = w' := by
 have g1 : decide (0 ≤ n) = true := by simpa using h.1
 have g2 : decide (n ≤ 64) = true := by simpa using h.2
 clear h
 go_enter Tryz.func62, Tryz.ntmps62
 go_wp2
 go_ret
 exact ⟨rfl, rfl⟩
theorem qdi (w : World) (r c i : Int) (a : Option Addr) (n k : Nat) (h : 0 ≤ i ∧ i < r) :
  Calls Tryz.prog 61 #[mv r c a n k, .int .i64 i] w fun e w' => e = .returned (.bool true) ∧ Below w.heap.size w w' := by
 have g1 : decide (0 ≤ i) = true := by simpa using h.1
 have g2 : decide (i < r) = true := by simpa using h.2
 clear h
 go_enter Tryz.func61, Tryz.ntmps61
 go_wp2
 go_ret
 exact ⟨rfl, qa1 _ _⟩
theorem ql8 (w : World) (r c i : Int) (a : Option Addr) (n k : Nat) (h : ¬ (0 ≤ i ∧ i < r)) :
  Calls Tryz.prog 61 #[mv r c a n k, .int .i64 i] w fun e w' => e = .returned (.bool false) ∧ Below w.heap.size w w' := by
 by_cases h1 : 0 ≤ i
 ·have g1 : decide (0 ≤ i) = true := by simpa using h1
  have g2 : decide (i < r) = false := by simp; omega
  clear h
  go_enter Tryz.func61, Tryz.ntmps61
  go_wp2
  go_ret
  exact ⟨rfl, qa1 _ _⟩
 ·have g1 : decide (0 ≤ i) = false := by simpa using h1
  clear h
  go_enter Tryz.func61, Tryz.ntmps61
  go_wp2
  go_ret
  exact ⟨rfl, qa1 _ _⟩
theorem qaj (w : World) (r c : Int) (a : Option Addr) (n k : Nat) (h : RightP r c n) :
  Calls Tryz.prog 60 #[mv r c a n k] w fun e w' => e = .returned (.bool true) ∧ Below w.heap.size w w' := by
 obtain ⟨h1, h2, h3, h4, h5⟩ := h
 have hm := qd3 h1 h2 h3 h4
 have hw : IntKind.i64.wrap (r * c) = r * c := by rw [IntKind.wrap_i64]; omega
 have g1 : decide (0 ≤ r) = true := by simpa using h1
 have g2 : decide (r ≤ 64) = true := by simpa using h2
 have g3 : decide (0 ≤ c) = true := by simpa using h3
 have g4 : decide (c ≤ 64) = true := by simpa using h4
 have g5 : ((n : Int) == r * c) = true := by simpa using h5
 clear h5 hm
 go_enter Tryz.func60, Tryz.ntmps60
 go_wp2
 go_ret
 exact ⟨rfl, qa1 _ _⟩
theorem qgp (w : World) (r c : Int) (a : Option Addr) (n k : Nat) (h : ¬ RightP r c n) :
  Calls Tryz.prog 60 #[mv r c a n k] w fun e w' => e = .returned (.bool false) ∧ Below w.heap.size w w' := by
 by_cases h1 : 0 ≤ r
 ·by_cases h2 : r ≤ 64
  ·by_cases h3 : 0 ≤ c
   ·by_cases h4 : c ≤ 64
    ·have h5 : ¬ ((n : Int) = r * c) := fun e => h ⟨h1, h2, h3, h4, e⟩
     have hm := qd3 h1 h2 h3 h4
     have hw : IntKind.i64.wrap (r * c) = r * c := by rw [IntKind.wrap_i64]; omega
     have g1 : decide (0 ≤ r) = true := by simpa using h1
     have g2 : decide (r ≤ 64) = true := by simpa using h2
     have g3 : decide (0 ≤ c) = true := by simpa using h3
     have g4 : decide (c ≤ 64) = true := by simpa using h4
     have g5 : ((n : Int) == r * c) = false := by simpa using h5
     clear h h5 hm
     go_enter Tryz.func60, Tryz.ntmps60
     go_wp2
     go_ret
     exact ⟨rfl, qa1 _ _⟩
    ·have g4 : decide (c ≤ 64) = false := by simpa using h4
     clear h
     go_enter Tryz.func60, Tryz.ntmps60
     go_wp2
     go_ret
     exact ⟨rfl, qa1 _ _⟩
   ·have g3 : decide (0 ≤ c) = false := by simpa using h3
    clear h
    go_enter Tryz.func60, Tryz.ntmps60
    go_wp2
    go_ret
    exact ⟨rfl, qa1 _ _⟩
  ·have g2 : decide (r ≤ 64) = false := by simpa using h2
   clear h
   go_enter Tryz.func60, Tryz.ntmps60
   go_wp2
   go_ret
   exact ⟨rfl, qa1 _ _⟩
 ·have g1 : decide (0 ≤ r) = false := by simpa using h1
  clear h
  go_enter Tryz.func60, Tryz.ntmps60
  go_wp2
  go_ret
  exact ⟨rfl, qa1 _ _⟩
theorem qfb (w : World) (r c n : Nat) (hr : r ≤ 64) (hc : c ≤ 64) (HN : Hid (r * c = n)) :
  Calls Tryz.prog 63 #[.int .i64 (r : Int), .int .i64 (c : Int)] w fun e w' => ∃ g, e = .returned (mv r c (some ⟨g, 0, none⟩) n n) ∧ RowAt w' g 5 n (fun _ => 0) ∧ w.heap.size ≤ g ∧ Below w.heap.size w w' := by
 obtain ⟨i0, hi, hz0, hz1, hz2⟩ := info_parts qee
 have hn : n ≤ 4096 := by rw [← HN.out]; exact Nat.mul_le_mul hr hc
 have e1 : ((r : Int) * (c : Int)) = (n : Int) := by rw [← HN.out]; simp
 have hw : IntKind.i64.wrap (n : Int) = (n : Int) := by rw [IntKind.wrap_i64]; omega
 have hml : n ≤ maxLen := by unfold maxLen; omega
 go_enter Tryz.func63, Tryz.ntmps63
 go_wp2_with (first
  | (at_make; refine wpList_make_full _ rfl _ _ 22 rfl (w.heap.size + 1) 5 i0 (.int .u8 0) 1 Tryz.underlying22 hi hz0 hz1 .i64 .i64 _ _ n rfl rfl rfl rfl (by rw [hz2]; omega) hml (by simp) ?_; intro w1 hown hgrow; have HR : Hid (RowAt w1 (w.heap.size + 1) 5 n (fun _ => 0)) := by { show RowAt _ _ _ _ _; have := qct hown; simpa using this }; have HB : Hid (Below w.heap.size w w1) := qa0 (qa1 _ _) (qa8.mp hgrow); have HV : Hid (Vr w1 w.heap.size (.int .i64 0) (.int .i64 0) (.slice none 0 0)) := (Vr.new w _ _ _).later (qa8.mp hgrow); clear hown hgrow)
  | (refine qa6 rfl _ _ rfl w.heap.size _ _ _ (.int .i64 (r : Int)) (.int .i64 (c : Int)) (.slice (some ⟨w.heap.size + 1, 0, none⟩) n n) rfl rfl HV.out rfl rfl rfl ?_; intro w2 HV2 HG2))
 have c0 := HV2.out.c0
 have c1 := HV2.out.c1
 have c2 := HV2.out.c2
 refine bodyPost_ret (v := mv r c (some ⟨w.heap.size + 1, 0, none⟩) n n) (by simp [results, Tryz.results63, go_sem, c0, c1, c2, mv]) rfl ?_
 exact ⟨_, rfl, HR.out.kept HG2.out (by omega), by omega, qa9 HB.out HG2.out (Nat.le_refl _)⟩
/-- Where a piece of c elements begins that starts at place p. -/
def pc (a : Option Addr) (p c : Nat) : Option Addr := if c = 0 then a else a.map fun x => x.add p
theorem ql9 (w : World) (a : Option Addr) (n k c i p : Nat) (h0 : a = none → k = 0) (hk : n ≤ k) (hfit : p + c ≤ n) (hn : n ≤ 4096) (hi : i ≤ 4096) (HP : Hid (i * c = p)) (s : Option Addr) (HS : Hid (pc a p c = s)) :
  Calls Tryz.prog 90 #[.slice a n k, .int .i64 (c : Int), .int .i64 (i : Int)] w fun e w' => e = .returned (.slice s c c) ∧ w = w' := by
 have e1 : ((i : Int) * (c : Int)) = (p : Int) := by rw [← HP.out]; simp
 have e2 : (((i : Int) + 1) * (c : Int)) = ((p + c : Nat) : Int) := by rw [Int.add_mul, e1]; simp
 have w1 : IntKind.i64.wrap (p : Int) = (p : Int) := by rw [IntKind.wrap_i64]; omega
 have w3 : IntKind.i64.wrap ((i : Int) + 1) = (i : Int) + 1 := by rw [IntKind.wrap_i64]; omega
 obtain ⟨q, HQ⟩ : ∃ q, Hid (p + c = q) := ⟨_, rfl⟩
 rw [HQ.out] at e2
 have w2 : IntKind.i64.wrap (q : Int) = (q : Int) := by rw [IntKind.wrap_i64]; have := HQ.out; omega
 by_cases hc0 : c = 0
 ·subst hc0
  obtain rfl : p = q := by have := HQ.out; omega
  obtain rfl : a = s := by have := HS.out; simpa [pc] using this
  clear HS HQ
  go_enter Tryz.func90, Tryz.ntmps90
  go_wp2
  go_ret
  exact ⟨by simp, rfl⟩
 ·cases a with
  | none => have := h0 rfl; omega
  | some x =>
   obtain rfl : some (x.add p) = s := by have := HS.out; rw [← this]; unfold pc; rw [if_neg hc0]; rfl
   have hq := HQ.out
   have hpq : p < q := by omega
   have hqn : q ≤ k := by omega
   have hcq : q - p = c := by omega
   clear HS HQ h0
   go_enter Tryz.func90, Tryz.ntmps90
   go_wp2
   go_ret
   exact ⟨by simp, rfl⟩
open Go.RowKit
/-- A list of elements with room. -/
structure Mt (w : World) (a : Option Addr) (n k : Nat) (F : Nat → Nat) : Prop where
 sl : Sl w a n F
 room : n ≤ k
 nil : a = none → n = 0 ∧ k = 0
theorem Mt.later {w w' : World} {a : Option Addr} {n k : Nat} {F : Nat → Nat} (h : Mt w a n k F) (hb : Below w.heap.size w w') : Mt w' a n k F := ⟨h.sl.later hb, h.room, h.nil⟩
theorem Mt.kept {w w' : World} {a : Option Addr} {n k g : Nat} {F : Nat → Nat} (h : Mt w a n k F) (hg : w.grownBy w' (some g)) (ho : 0 < n → Off g a) : Mt w' a n k F := ⟨h.sl.beside hg ho, h.room, h.nil⟩
theorem RowAt.mt {w : World} {g : Nat} {t : TypeId} {n : Nat} {f : Nat → Nat} (h : RowAt w g t n f) (hf : ∀ i, i < n → f i < 256) : Mt w (some ⟨g, 0, none⟩) n n f := ⟨h.sl hf, Nat.le_refl _, fun e => by cases e⟩
theorem Mt.none (w : World) (F : Nat → Nat) : Mt w none 0 0 F := ⟨Sl.nil _ _ _, Nat.le_refl _, fun _ => ⟨rfl, rfl⟩⟩
theorem qla (w : World) (a : Option Addr) (len cap : Nat) (zs : List Int)
  (h : (a = none ∧ len = 0 ∧ cap = 0 ∧ zs = []) ∨ ∃ x, a = some x ∧ len ≤ cap ∧ cap ≤ 140737488351232 ∧ zs.length = cap ∧ (∀ i, i < zs.length → w.cell? (x.add i) = some (.int .u8 (zs.getD i 0))) ∧ ∀ n ∈ zs, (Lit.int .u8 n).wf = true) :
  ∃ f : Nat → Nat, Mt w a len cap f ∧ len ≤ 140737488351232 := by
 obtain ⟨f, h1, h2, h3⟩ := ql2 w a len cap zs h
 refine ⟨f, ⟨h1, ?_, h3⟩, h2⟩
 rcases h with ⟨_, rfl, rfl, _⟩ | ⟨x, _, hl, _⟩ <;> omega
theorem add_plain (b o i : Nat) : (⟨b, o, none⟩ : Addr).add i = ⟨b, o + i, none⟩ := by unfold Addr.add; split <;> simp_all
theorem qia (g p c : Nat) (h : 0 < c) : pc (some ⟨g, 0, none⟩) p c = some ⟨g, p, none⟩ := by
 unfold pc
 rw [if_neg (by omega)]
 show some (Addr.add _ _) = _
 rw [add_plain, Nat.zero_add]
theorem Sl.piece {w : World} {a : Option Addr} {n : Nat} {F : Nat → Nat} (h : Sl w a n F) {p c : Nat} (hf : p + c ≤ n) : Sl w (pc a p c) c (fun j => F (p + j)) := by
 refine ⟨fun i hi => h.1 _ (by omega), fun i hi => ?_⟩
 obtain ⟨b, o, e, hc⟩ := h.2 (p + i) (by omega)
 subst e
 refine ⟨b, o + p, ?_, by rw [Nat.add_assoc]; exact hc⟩
 unfold pc
 rw [if_neg (by omega)]
 show some (Addr.add _ _) = _
 rw [add_plain]
theorem Mt.piece {w : World} {a : Option Addr} {n k : Nat} {F : Nat → Nat} (h : Mt w a n k F) {p c : Nat} (hf : p + c ≤ n) : Sl w (pc a p c) c (fun j => F (p + j)) := h.sl.piece hf
theorem Rt.fit {r c n i : Nat} (h : Rt r c n) (hi : i < r) : i * c + c ≤ n := by
 rw [← h.len]
 exact Nat.le_trans (Nat.le_of_eq (show i * c + c = (i + 1) * c by rw [Nat.add_mul, Nat.one_mul])) (Nat.mul_le_mul_right c hi)
/-- A list with h laid over it from place p on. -/
def cpf (f h : Nat → Nat) (p c q : Nat) : Nat := if p ≤ q ∧ q < p + c then h (q - p) else f q
theorem qhd (n p c : Nat) (f h : Nat → Nat) (hp : p + c ≤ n) : ((row n f).toList.take p ++ ((row c h).toList ++ (row n f).toList.drop (p + c))).toArray = row n (cpf f h p c) := by
 have hl : ((row n f).toList.take p).length = p := by simp [qa5]; omega
 have hc : (row c h).toList.length = c := by simp [qa5]
 apply Array.ext
 ·simp [qa5]; omega
 ·intro i h1 h2
  have hi : i < n := by simpa [qa5] using h2
  have e2 : (row n (cpf f h p c))[i] = .int .u8 (cpf f h p c i : Nat) := by simp [row]
  rw [e2]
  simp only [mz1]
  unfold cpf
  by_cases ha : i < p
  ·rw [List.getElem_append_left (by omega), if_neg (by omega)]
   simp [row]
  ·rw [List.getElem_append_right (by omega)]
   by_cases hb : i < p + c
   ·rw [List.getElem_append_left (by omega), if_pos ⟨by omega, hb⟩]
    simp [row, Nat.min_eq_left (show p ≤ n by omega)]
   ·rw [List.getElem_append_right (by omega), if_neg (by omega)]
    simp [row]
    congr 1
    congr 1
    omega
theorem qcc (w : World) (g : Nat) (cs : Array Value) : w.grownBy (w.setRow g cs) (some g) := ⟨rfl, rfl, rfl, by simp [World.setRow], fun k _ hne => setRow_other w g k cs (fun e => hne (by rw [e]))⟩
theorem qjh (w : World) (row : Option Nat) : w.grownBy w row := ⟨rfl, rfl, rfl, Nat.le_refl _, fun _ _ _ => rfl⟩
theorem size8 : (Tryz.prog.info? 5).map (·.size) = some 1 := by kernel_rfl
theorem qji {op : Oper} {a : Act} {w : World} {K : Act → World → Prop} {Q : Exit → Act → World → Prop} (d s : Operand) (ho : op.op = .call { callee := .builtin .copy, args := #[d, s], argTypes := #[22, 22] })
  (g p n c dc sc : Nat) (dp sp : Option Addr) (f h : Nat → Nat) (hd : a.eval d = .slice dp c dc) (hs : a.eval s = .slice sp c sc) (hr : RowAt w g 5 n f) (hdp : 0 < c → dp = some ⟨g, p, none⟩) (hsl : Sl w sp c h) (hfit : p + c ≤ n)
  (k : ∀ w', Hid (RowAt w' g 5 n (cpf f h p c)) → Hid (w.grownBy w' (some g)) → K (a.put op.dst (goInt c)) w') : Oper.wp Tryz.prog op a w K Q := by
 by_cases h0 : c = 0
 ·subst h0
  have hrun := run_copy_none (P := Tryz.prog) w 22 22 op.type 5 dp sp 0 dc 0 sc Tryz.underlying22 size8 rfl
  unfold Oper.wp
  simp [execOp, ho, resolve, invoke, builtin, hd, hs, hrun, Result.andThen]
  exact k w (hr.congr (fun q _ => by unfold cpf; rw [if_neg (by omega)])) (qjh _ _)
 ·have hdp' := hdp (by omega)
  subst hdp'
  obtain ⟨b, o, e, _⟩ := hsl.2 0 (by omega)
  subst e
  have hsrc : ∀ j v, (row c h).toList[j]? = some v → w.cell? ((⟨b, o, none⟩ : Addr).add j) = some v := qca hsl (Below.refl _ _)
  have hrun := run_copy_row (P := Tryz.prog) w 22 22 op.type 5 g p c dc ⟨b, o, none⟩ c sc (row n f) 5 (row c h).toList Tryz.underlying22 size8 hr (by simp [qa5]) hsrc (by simp [qa5]; exact hfit) (qcb c h)
  have hlen : (row c h).toList.length = c := by simp [qa5]
  rw [hlen, List.append_assoc, qhd n p c f h hfit] at hrun
  unfold Oper.wp
  simp [execOp, ho, resolve, invoke, builtin, hd, hs, hrun, Result.andThen]
  exact k _ (setRow_heap w g _ _ _ _ hr) (qcc _ _ _)
theorem qgq {ops : Array Oper} {op : Oper} {a : Act} {w : World} {K : Act → World → Prop} {Q : Exit → Act → World → Prop} {E : Prop} (hgd : op.guard = none) (d s : Operand) (ho : op.op = .call { callee := .builtin .copy, args := #[d, s], argTypes := #[22, 22] })
  (g p n c dc sc : Nat) (dp sp : Option Addr) (f h : Nat → Nat) (hd : a.eval d = .slice dp c dc) (hs : a.eval s = .slice sp c sc) (hr : RowAt w g 5 n f) (hdp : 0 < c → dp = some ⟨g, p, none⟩) (hsl : Sl w sp c h) (hfit : p + c ≤ n)
  (k : ∀ w', Hid (RowAt w' g 5 n (cpf f h p c)) → Hid (w.grownBy w' (some g)) → K (a.put op.dst (goInt c)) w') : if Region.wanted op (yielded ops a.tmps) = true then Oper.wp Tryz.prog op a w K Q else E := by
 have hw : Region.wanted op (yielded ops a.tmps) = true := by simp [Region.wanted, hgd]
 rw [if_pos hw]
 exact qji d s ho g p n c dc sc dp sp f h hd hs hr hdp hsl hfit k
theorem qcd (w : World) (r : Int) (c n k i p : Nat) (a s : Option Addr) (h0 : a = none → n = 0 ∧ k = 0) (hk : n ≤ k) (hfit : p + c ≤ n) (hn : n ≤ 4096) (hi : i ≤ 4096) (HP : Hid (i * c = p)) (HS : Hid (pc a p c = s)) :
  Calls Tryz.prog 64 #[mv r c a n k, .int .i64 (i : Int)] w fun e w' => e = .returned (.slice s c c) ∧ Below w.heap.size w w' := by
 have H0 : Hid (a = none → k = 0) := fun e => (h0 e).2
 clear h0
 go_enter Tryz.func64, Tryz.ntmps64
 go_wp2_with (first
  | (go_at_call 90; refine (ql9 _ a n k c i p H0.out hk hfit hn hi HP s HS).mono ?_; rintro e w' ⟨rfl, rfl⟩))
 go_ret
 exact ⟨rfl, qa1 _ _⟩
end Go.Proofs.YtblagbghpfopcaaGreat
