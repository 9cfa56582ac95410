/-
  Contracts of the program's matrices: isSide, hasRow, Right, noughts, piece, rowOf.
  Matrices that come in; pieces of lists; copy into a list of the call's own; rowOf.
  Contracts of the program's matrices: allRight, Make, Identity.
  Contracts of the program's matrices: Make, Identity, Row, Same.
  Contracts of the program's matrices: Row, Same.
  Contracts of the program's matrices: combination, Mul.
  Contracts of the program's matrices: Mul's errors, Apply, Transpose.
  Contracts of the program's matrices: Transpose.
  Contracts of the program's matrices: Pick.
  Contracts of the program's matrices: ofRows, Of.
  Contracts of the program's matrices: Of.
  Contracts of the program's matrices: rowsOf.
  Contracts of the program's matrices: Stack.
  Contracts of the program's matrices: fillMultiples, Kron.
  The program's answers and the reference's, told alike: for each function what both answer.
  One product that the document fixes; what follows for products of matrices (grouped, transposed, applied, laid together); the program's answers by cases.
-/
import Derived.Test.YtflflmdlhmhkdabGb
import Derived.Laws.CopyOwn
import Derived.Laws.OwnMore
import Derived.Deep.RegionHeld3
namespace Go.Proofs.Ytflflmdlhmhkdab
open Go.RowKit
set_option maxHeartbeats 400000 in
theorem side_yes (w : World) (n : Int) (h : 0 ≤ n ∧ n ≤ 64) :
    Calls Try.prog 63 #[.int .i64 n] w fun e w' => e = .returned (.bool true) ∧ w = w' := by
  have g1 : decide (0 ≤ n) = true := by simpa using h.1
  have g2 : decide (n ≤ 64) = true := by simpa using h.2
  clear h
  go_enter Try.func63, Try.ntmps63
  go_wp2
  go_ret
  exact ⟨rfl, rfl⟩
set_option maxHeartbeats 400000 in
theorem side_no (w : World) (n : Int) (h : ¬ (0 ≤ n ∧ n ≤ 64)) :
    Calls Try.prog 63 #[.int .i64 n] w fun e w' => e = .returned (.bool false) ∧ w = w' := by
  by_cases h1 : 0 ≤ n
  · have g1 : decide (0 ≤ n) = true := by simpa using h1
    have g2 : decide (n ≤ 64) = false := by simp; omega
    clear h
    go_enter Try.func63, Try.ntmps63
    go_wp2
    go_ret
    exact ⟨rfl, rfl⟩
  · have g1 : decide (0 ≤ n) = false := by simpa using h1
    clear h
    go_enter Try.func63, Try.ntmps63
    go_wp2
    go_ret
    exact ⟨rfl, rfl⟩
set_option maxHeartbeats 400000 in
theorem hasrow_yes (w : World) (r c i : Int) (a : Option Addr) (n k : Nat) (h : 0 ≤ i ∧ i < r) :
    Calls Try.prog 44 #[mv r c a n k, .int .i64 i] w fun e w' => e = .returned (.bool true) ∧ Below w.heap.size w w' := by
  have g1 : decide (0 ≤ i) = true := by simpa using h.1
  have g2 : decide (i < r) = true := by simpa using h.2
  clear h
  go_enter Try.func44, Try.ntmps44
  go_wp2
  go_ret
  exact ⟨rfl, alloc_low _ _⟩
set_option maxHeartbeats 400000 in
theorem hasrow_no (w : World) (r c i : Int) (a : Option Addr) (n k : Nat) (h : ¬ (0 ≤ i ∧ i < r)) :
    Calls Try.prog 44 #[mv r c a n k, .int .i64 i] w fun e w' => e = .returned (.bool false) ∧ Below w.heap.size w w' := by
  by_cases h1 : 0 ≤ i
  · have g1 : decide (0 ≤ i) = true := by simpa using h1
    have g2 : decide (i < r) = false := by simp; omega
    clear h
    go_enter Try.func44, Try.ntmps44
    go_wp2
    go_ret
    exact ⟨rfl, alloc_low _ _⟩
  · have g1 : decide (0 ≤ i) = false := by simpa using h1
    clear h
    go_enter Try.func44, Try.ntmps44
    go_wp2
    go_ret
    exact ⟨rfl, alloc_low _ _⟩
set_option maxHeartbeats 400000 in
theorem mright_yes (w : World) (r c : Int) (a : Option Addr) (n k : Nat) (h : RightP r c n) :
    Calls Try.prog 43 #[mv r c a n k] w fun e w' => e = .returned (.bool true) ∧ Below w.heap.size w w' := by
  obtain ⟨h1, h2, h3, h4, h5⟩ := h
  have hm := mul_small h1 h2 h3 h4
  have hw : IntKind.i64.wrap (r * c) = r * c := by rw [IntKind.wrap_i64]; omega
  have g1 : decide (0 ≤ r) = true := by simpa using h1
  have g2 : decide (r ≤ 64) = true := by simpa using h2
  have g3 : decide (0 ≤ c) = true := by simpa using h3
  have g4 : decide (c ≤ 64) = true := by simpa using h4
  have g5 : ((n : Int) == r * c) = true := by simpa using h5
  clear h5 hm
  go_enter Try.func43, Try.ntmps43
  go_wp2
  go_ret
  exact ⟨rfl, alloc_low _ _⟩
set_option maxHeartbeats 1000000 in
theorem mright_no (w : World) (r c : Int) (a : Option Addr) (n k : Nat) (h : ¬ RightP r c n) :
    Calls Try.prog 43 #[mv r c a n k] w fun e w' => e = .returned (.bool false) ∧ Below w.heap.size w w' := by
  by_cases h1 : 0 ≤ r
  · by_cases h2 : r ≤ 64
    · by_cases h3 : 0 ≤ c
      · by_cases h4 : c ≤ 64
        · have h5 : ¬ ((n : Int) = r * c) := fun e => h ⟨h1, h2, h3, h4, e⟩
          have hm := mul_small h1 h2 h3 h4
          have hw : IntKind.i64.wrap (r * c) = r * c := by rw [IntKind.wrap_i64]; omega
          have g1 : decide (0 ≤ r) = true := by simpa using h1
          have g2 : decide (r ≤ 64) = true := by simpa using h2
          have g3 : decide (0 ≤ c) = true := by simpa using h3
          have g4 : decide (c ≤ 64) = true := by simpa using h4
          have g5 : ((n : Int) == r * c) = false := by simpa using h5
          clear h h5 hm
          go_enter Try.func43, Try.ntmps43
          go_wp2
          go_ret
          exact ⟨rfl, alloc_low _ _⟩
        · have g4 : decide (c ≤ 64) = false := by simpa using h4
          clear h
          go_enter Try.func43, Try.ntmps43
          go_wp2
          go_ret
          exact ⟨rfl, alloc_low _ _⟩
      · have g3 : decide (0 ≤ c) = false := by simpa using h3
        clear h
        go_enter Try.func43, Try.ntmps43
        go_wp2
        go_ret
        exact ⟨rfl, alloc_low _ _⟩
    · have g2 : decide (r ≤ 64) = false := by simpa using h2
      clear h
      go_enter Try.func43, Try.ntmps43
      go_wp2
      go_ret
      exact ⟨rfl, alloc_low _ _⟩
  · have g1 : decide (0 ≤ r) = false := by simpa using h1
    clear h
    go_enter Try.func43, Try.ntmps43
    go_wp2
    go_ret
    exact ⟨rfl, alloc_low _ _⟩
set_option maxHeartbeats 400000 in
theorem nought_any (w : World) (r c n : Nat) (hr : r ≤ 64) (hc : c ≤ 64) (HN : Hid (r * c = n)) :
    Calls Try.prog 50 #[.int .i64 (r : Int), .int .i64 (c : Int)] w fun e w' => ∃ g, e = .returned (mv r c (some ⟨g, 0, none⟩) n n) ∧ RowAt w' g 5 n (fun _ => 0) ∧ w.heap.size ≤ g ∧ Below w.heap.size w w' := by
  obtain ⟨i0, hi, hz0, hz1, hz2⟩ := info_parts info8
  have hn : n ≤ 4096 := by rw [← HN.out]; exact Nat.mul_le_mul hr hc
  have e1 : ((r : Int) * (c : Int)) = (n : Int) := by rw [← HN.out]; simp
  have hw : IntKind.i64.wrap (n : Int) = (n : Int) := by rw [IntKind.wrap_i64]; omega
  have hml : n ≤ maxLen := by unfold maxLen; omega
  go_enter Try.func50, Try.ntmps50
  go_wp2_with (first
    | (at_make; refine wpList_make_full _ rfl _ _ 22 rfl (w.heap.size + 1) 5 i0 (.int .u8 0) 1 Try.underlying22 hi hz0 hz1 .i64 .i64 _ _ n rfl rfl rfl rfl (by rw [hz2]; omega) hml (by simp) ?_; intro w1 hown hgrow; have HR : Hid (RowAt w1 (w.heap.size + 1) 5 n (fun _ => 0)) := by { show RowAt _ _ _ _ _; have := made_at hown; simpa using this }; have HB : Hid (Below w.heap.size w w1) := two_below (alloc_low _ _) (grown_none.mp hgrow); have HV : Hid (Vr w1 w.heap.size (.int .i64 0) (.int .i64 0) (.slice none 0 0)) := (Vr.new w _ _ _).later (grown_none.mp hgrow); clear hown hgrow)
    | (refine wpList_store_var rfl _ _ rfl w.heap.size _ _ _ (.int .i64 (r : Int)) (.int .i64 (c : Int)) (.slice (some ⟨w.heap.size + 1, 0, none⟩) n n) rfl rfl HV.out rfl rfl rfl ?_; intro w2 HV2 HG2))
  have c0 := HV2.out.c0
  have c1 := HV2.out.c1
  have c2 := HV2.out.c2
  refine bodyPost_ret (v := mv r c (some ⟨w.heap.size + 1, 0, none⟩) n n) (by simp [results, Try.results50, go_sem, c0, c1, c2, mv]) rfl ?_
  exact ⟨_, rfl, HR.out.kept HG2.out (by omega), by omega, below_row HB.out HG2.out (Nat.le_refl _)⟩
/-- Where a piece of c elements begins that starts at place p. -/
def pc (a : Option Addr) (p c : Nat) : Option Addr := if c = 0 then a else a.map fun x => x.add p
set_option maxHeartbeats 1000000 in
theorem piece_any (w : World) (a : Option Addr) (n k c i p : Nat) (h0 : a = none → k = 0) (hk : n ≤ k) (hfit : p + c ≤ n) (hn : n ≤ 4096) (hi : i ≤ 4096) (HP : Hid (i * c = p)) (s : Option Addr) (HS : Hid (pc a p c = s)) :
    Calls Try.prog 64 #[.slice a n k, .int .i64 (c : Int), .int .i64 (i : Int)] w fun e w' => e = .returned (.slice s c c) ∧ w = w' := by
  have e1 : ((i : Int) * (c : Int)) = (p : Int) := by rw [← HP.out]; simp
  have e2 : (((i : Int) + 1) * (c : Int)) = ((p + c : Nat) : Int) := by rw [Int.add_mul, e1]; simp
  have w1 : IntKind.i64.wrap (p : Int) = (p : Int) := by rw [IntKind.wrap_i64]; omega
  have w3 : IntKind.i64.wrap ((i : Int) + 1) = (i : Int) + 1 := by rw [IntKind.wrap_i64]; omega
  obtain ⟨q, HQ⟩ : ∃ q, Hid (p + c = q) := ⟨_, rfl⟩
  rw [HQ.out] at e2
  have w2 : IntKind.i64.wrap (q : Int) = (q : Int) := by rw [IntKind.wrap_i64]; have := HQ.out; omega
  by_cases hc0 : c = 0
  · subst hc0
    obtain rfl : p = q := by have := HQ.out; omega
    obtain rfl : a = s := by have := HS.out; simpa [pc] using this
    clear HS HQ
    go_enter Try.func64, Try.ntmps64
    go_wp2
    go_ret
    exact ⟨by simp, rfl⟩
  · cases a with
    | none => have := h0 rfl; omega
    | some x =>
      obtain rfl : some (x.add p) = s := by have := HS.out; rw [← this]; unfold pc; rw [if_neg hc0]; rfl
      have hq := HQ.out
      have hpq : p < q := by omega
      have hqn : q ≤ k := by omega
      have hcq : q - p = c := by omega
      clear HS HQ h0
      go_enter Try.func64, Try.ntmps64
      go_wp2
      go_ret
      exact ⟨by simp, rfl⟩
end Go.Proofs.Ytflflmdlhmhkdab

namespace Go.Proofs.Ytflflmdlhmhkdab
open Go.RowKit
/-- A list of elements with room. -/
structure Mt (w : World) (a : Option Addr) (n k : Nat) (F : Nat → Nat) : Prop where
  sl : Sl w a n F
  room : n ≤ k
  nil : a = none → n = 0 ∧ k = 0
theorem Mt.later {w w' : World} {a : Option Addr} {n k : Nat} {F : Nat → Nat} (h : Mt w a n k F) (hb : Below w.heap.size w w') : Mt w' a n k F := ⟨h.sl.later hb, h.room, h.nil⟩
theorem Mt.kept {w w' : World} {a : Option Addr} {n k g : Nat} {F : Nat → Nat} (h : Mt w a n k F) (hg : w.grownBy w' (some g)) (ho : 0 < n → Off g a) : Mt w' a n k F := ⟨h.sl.beside hg ho, h.room, h.nil⟩
theorem RowAt.mt {w : World} {g : Nat} {t : TypeId} {n : Nat} {f : Nat → Nat} (h : RowAt w g t n f) (hf : ∀ i, i < n → f i < 256) : Mt w (some ⟨g, 0, none⟩) n n f := ⟨h.sl hf, Nat.le_refl _, fun e => by cases e⟩
theorem Mt.none (w : World) (F : Nat → Nat) : Mt w none 0 0 F := ⟨Sl.nil _ _ _, Nat.le_refl _, fun _ => ⟨rfl, rfl⟩⟩
theorem mt_of_row (w : World) (a : Option Addr) (len cap : Nat) (zs : List Int)
    (h : (a = none ∧ len = 0 ∧ cap = 0 ∧ zs = []) ∨ ∃ x, a = some x ∧ len ≤ cap ∧ cap ≤ 140737488351232 ∧ zs.length = cap ∧ (∀ i, i < zs.length → w.cell? (x.add i) = some (.int .u8 (zs.getD i 0))) ∧ ∀ n ∈ zs, (Lit.int .u8 n).wf = true) :
    ∃ f : Nat → Nat, Mt w a len cap f ∧ len ≤ 140737488351232 := by
  obtain ⟨f, h1, h2, h3⟩ := sl_of_row w a len cap zs h
  refine ⟨f, ⟨h1, ?_, h3⟩, h2⟩
  rcases h with ⟨_, rfl, rfl, _⟩ | ⟨x, _, hl, _⟩ <;> omega
theorem add_plain (b o i : Nat) : (⟨b, o, none⟩ : Addr).add i = ⟨b, o + i, none⟩ := by unfold Addr.add; split <;> simp_all
theorem pc_zero (a : Option Addr) (p : Nat) : pc a p 0 = a := rfl
theorem pc_row (g p c : Nat) (h : 0 < c) : pc (some ⟨g, 0, none⟩) p c = some ⟨g, p, none⟩ := by
  unfold pc
  rw [if_neg (by omega)]
  show some (Addr.add _ _) = _
  rw [add_plain, Nat.zero_add]
theorem Sl.piece {w : World} {a : Option Addr} {n : Nat} {F : Nat → Nat} (h : Sl w a n F) {p c : Nat} (hf : p + c ≤ n) : Sl w (pc a p c) c (fun j => F (p + j)) := by
  refine ⟨fun i hi => h.1 _ (by omega), fun i hi => ?_⟩
  obtain ⟨b, o, e, hc⟩ := h.2 (p + i) (by omega)
  subst e
  refine ⟨b, o + p, ?_, by rw [Nat.add_assoc]; exact hc⟩
  unfold pc
  rw [if_neg (by omega)]
  show some (Addr.add _ _) = _
  rw [add_plain]
theorem Mt.piece {w : World} {a : Option Addr} {n k : Nat} {F : Nat → Nat} (h : Mt w a n k F) {p c : Nat} (hf : p + c ≤ n) : Sl w (pc a p c) c (fun j => F (p + j)) := h.sl.piece hf
theorem Rt.fit {r c n i : Nat} (h : Rt r c n) (hi : i < r) : i * c + c ≤ n := by
  rw [← h.len]
  exact Nat.le_trans (Nat.le_of_eq (show i * c + c = (i + 1) * c by rw [Nat.add_mul, Nat.one_mul])) (Nat.mul_le_mul_right c hi)
/-- A list with h laid over it from place p on. -/
def cpf (f h : Nat → Nat) (p c q : Nat) : Nat := if p ≤ q ∧ q < p + c then h (q - p) else f q
theorem cpf_row (n p c : Nat) (f h : Nat → Nat) (hp : p + c ≤ n) : ((row n f).toList.take p ++ ((row c h).toList ++ (row n f).toList.drop (p + c))).toArray = row n (cpf f h p c) := by
  have hl : ((row n f).toList.take p).length = p := by simp [row_size]; omega
  have hc : (row c h).toList.length = c := by simp [row_size]
  apply Array.ext
  · simp [row_size]; omega
  · intro i h1 h2
    have hi : i < n := by simpa [row_size] using h2
    have e2 : (row n (cpf f h p c))[i] = .int .u8 (cpf f h p c i : Nat) := by simp [row]
    rw [e2]
    simp only [List.getElem_toArray]
    unfold cpf
    by_cases ha : i < p
    · rw [List.getElem_append_left (by omega), if_neg (by omega)]
      simp [row]
    · rw [List.getElem_append_right (by omega)]
      by_cases hb : i < p + c
      · rw [List.getElem_append_left (by omega), if_pos ⟨by omega, hb⟩]
        simp [row, Nat.min_eq_left (show p ≤ n by omega)]
      · rw [List.getElem_append_right (by omega), if_neg (by omega)]
        simp [row]
        congr 1
        congr 1
        omega
theorem grown_setRow (w : World) (g : Nat) (cs : Array Value) : w.grownBy (w.setRow g cs) (some g) := ⟨rfl, rfl, rfl, by simp [World.setRow], fun k _ hne => setRow_other w g k cs (fun e => hne (by rw [e]))⟩
theorem grown_self (w : World) (row : Option Nat) : w.grownBy w row := ⟨rfl, rfl, rfl, Nat.le_refl _, fun _ _ _ => rfl⟩
theorem size8 : (Try.prog.info? 5).map (·.size) = some 1 := by kernel_rfl
theorem wp_copy_in {op : Oper} {a : Act} {w : World} {K : Act → World → Prop} {Q : Exit → Act → World → Prop} (d s : Operand) (ho : op.op = .call { callee := .builtin .copy, args := #[d, s], argTypes := #[22, 22] })
    (g p n c dc sc : Nat) (dp sp : Option Addr) (f h : Nat → Nat) (hd : a.eval d = .slice dp c dc) (hs : a.eval s = .slice sp c sc) (hr : RowAt w g 5 n f) (hdp : 0 < c → dp = some ⟨g, p, none⟩) (hsl : Sl w sp c h) (hfit : p + c ≤ n)
    (k : ∀ w', Hid (RowAt w' g 5 n (cpf f h p c)) → Hid (w.grownBy w' (some g)) → K (a.put op.dst (goInt c)) w') : Oper.wp Try.prog op a w K Q := by
  by_cases h0 : c = 0
  · subst h0
    have hrun := run_copy_none (P := Try.prog) w 22 22 op.type 5 dp sp 0 dc 0 sc Try.underlying22 size8 rfl
    unfold Oper.wp
    simp [execOp, ho, resolve, invoke, builtin, hd, hs, hrun, Result.andThen]
    exact k w (hr.congr (fun q _ => by unfold cpf; rw [if_neg (by omega)])) (grown_self _ _)
  · have hdp' := hdp (by omega)
    subst hdp'
    obtain ⟨b, o, e, _⟩ := hsl.2 0 (by omega)
    subst e
    have hsrc : ∀ j v, (row c h).toList[j]? = some v → w.cell? ((⟨b, o, none⟩ : Addr).add j) = some v := copy_news hsl (Below.refl _ _)
    have hrun := run_copy_row (P := Try.prog) w 22 22 op.type 5 g p c dc ⟨b, o, none⟩ c sc (row n f) 5 (row c h).toList Try.underlying22 size8 hr (by simp [row_size]) hsrc (by simp [row_size]; exact hfit) (row_cells c h)
    have hlen : (row c h).toList.length = c := by simp [row_size]
    rw [hlen, List.append_assoc, cpf_row n p c f h hfit] at hrun
    unfold Oper.wp
    simp [execOp, ho, resolve, invoke, builtin, hd, hs, hrun, Result.andThen]
    exact k _ (setRow_heap w g _ _ _ _ hr) (grown_setRow _ _ _)
theorem wpList_copy_in {ops : Array Oper} {rest : List Oper} {op : Oper} {a : Act} {w : World} {Q : Exit → Act → World → Prop} (hgd : op.guard = none) (d s : Operand) (ho : op.op = .call { callee := .builtin .copy, args := #[d, s], argTypes := #[22, 22] })
    (g p n c dc sc : Nat) (dp sp : Option Addr) (f h : Nat → Nat) (hd : a.eval d = .slice dp c dc) (hs : a.eval s = .slice sp c sc) (hr : RowAt w g 5 n f) (hdp : 0 < c → dp = some ⟨g, p, none⟩) (hsl : Sl w sp c h) (hfit : p + c ≤ n)
    (k : ∀ w', Hid (RowAt w' g 5 n (cpf f h p c)) → Hid (w.grownBy w' (some g)) → wpList Try.prog ops Q rest (a.put op.dst (goInt c)) w') : wpList Try.prog ops Q (op :: rest) a w :=
  wpList_plain hgd fun _ hK => wp_copy_in d s ho g p n c dc sc dp sp f h hd hs hr hdp hsl hfit (fun w' h1 h2 => hK _ _ (k w' h1 h2))
theorem step_copy_in {ops : Array Oper} {op : Oper} {a : Act} {w : World} {K : Act → World → Prop} {Q : Exit → Act → World → Prop} {E : Prop} (hgd : op.guard = none) (d s : Operand) (ho : op.op = .call { callee := .builtin .copy, args := #[d, s], argTypes := #[22, 22] })
    (g p n c dc sc : Nat) (dp sp : Option Addr) (f h : Nat → Nat) (hd : a.eval d = .slice dp c dc) (hs : a.eval s = .slice sp c sc) (hr : RowAt w g 5 n f) (hdp : 0 < c → dp = some ⟨g, p, none⟩) (hsl : Sl w sp c h) (hfit : p + c ≤ n)
    (k : ∀ w', Hid (RowAt w' g 5 n (cpf f h p c)) → Hid (w.grownBy w' (some g)) → K (a.put op.dst (goInt c)) w') : if Region.wanted op (yielded ops a.tmps) = true then Oper.wp Try.prog op a w K Q else E := by
  have hw : Region.wanted op (yielded ops a.tmps) = true := by simp [Region.wanted, hgd]
  rw [if_pos hw]
  exact wp_copy_in d s ho g p n c dc sc dp sp f h hd hs hr hdp hsl hfit k
set_option maxHeartbeats 400000 in
theorem rowof_any (w : World) (r : Int) (c n k i p : Nat) (a s : Option Addr) (h0 : a = none → n = 0 ∧ k = 0) (hk : n ≤ k) (hfit : p + c ≤ n) (hn : n ≤ 4096) (hi : i ≤ 4096) (HP : Hid (i * c = p)) (HS : Hid (pc a p c = s)) :
    Calls Try.prog 46 #[mv r c a n k, .int .i64 (i : Int)] w fun e w' => e = .returned (.slice s c c) ∧ Below w.heap.size w w' := by
  have H0 : Hid (a = none → k = 0) := fun e => (h0 e).2
  clear h0
  go_enter Try.func46, Try.ntmps46
  go_wp2_with (first
    | (go_at_call 64; refine (piece_any _ a n k c i p H0.out hk hfit hn hi HP s HS).mono ?_; rintro e w' ⟨rfl, rfl⟩))
  go_ret
  exact ⟨rfl, alloc_low _ _⟩
end Go.Proofs.Ytflflmdlhmhkdab

namespace Go.Proofs.Ytflflmdlhmhkdab
open Go.RowKit
/-- Two matrices in a row. -/
def Two (w : World) (g : Nat) (r c : Int) (a : Option Addr) (n k : Nat) (r' c' : Int) (b : Option Addr) (m d : Nat) : Prop := w.heap[g]? = some (.cells #[.int .i64 r, .int .i64 c, .slice a n k, .int .i64 r', .int .i64 c', .slice b m d] 24 (0, 0))
theorem Two.lt {w : World} {g : Nat} {r c : Int} {a : Option Addr} {n k : Nat} {r' c' : Int} {b : Option Addr} {m d : Nat} (h : Two w g r c a n k r' c' b m d) : g < w.heap.size := lt_of_block h
theorem Two.later {w w' : World} {g : Nat} {r c : Int} {a : Option Addr} {n k : Nat} {r' c' : Int} {b : Option Addr} {m d : Nat} (h : Two w g r c a n k r' c' b m d) (hb : Below w.heap.size w w') : Two w' g r c a n k r' c' b m d := by unfold Two; rw [hb.block g h.lt]; exact h
theorem Two.c0 {w : World} {g : Nat} {r c : Int} {a : Option Addr} {n k : Nat} {r' c' : Int} {b : Option Addr} {m d : Nat} (h : Two w g r c a n k r' c' b m d) : w.cell? ⟨g, 0, none⟩ = some (.int .i64 r) := by rw [cell_of_row w g 0 _ _ _ h]; rfl
theorem Two.c1 {w : World} {g : Nat} {r c : Int} {a : Option Addr} {n k : Nat} {r' c' : Int} {b : Option Addr} {m d : Nat} (h : Two w g r c a n k r' c' b m d) : w.cell? ⟨g, 1, none⟩ = some (.int .i64 c) := by rw [cell_of_row w g 1 _ _ _ h]; rfl
theorem Two.c2 {w : World} {g : Nat} {r c : Int} {a : Option Addr} {n k : Nat} {r' c' : Int} {b : Option Addr} {m d : Nat} (h : Two w g r c a n k r' c' b m d) : w.cell? ⟨g, 2, none⟩ = some (.slice a n k) := by rw [cell_of_row w g 2 _ _ _ h]; rfl
theorem Two.c3 {w : World} {g : Nat} {r c : Int} {a : Option Addr} {n k : Nat} {r' c' : Int} {b : Option Addr} {m d : Nat} (h : Two w g r c a n k r' c' b m d) : w.cell? ⟨g, 3, none⟩ = some (.int .i64 r') := by rw [cell_of_row w g 3 _ _ _ h]; rfl
theorem Two.c4 {w : World} {g : Nat} {r c : Int} {a : Option Addr} {n k : Nat} {r' c' : Int} {b : Option Addr} {m d : Nat} (h : Two w g r c a n k r' c' b m d) : w.cell? ⟨g, 4, none⟩ = some (.int .i64 c') := by rw [cell_of_row w g 4 _ _ _ h]; rfl
theorem Two.c5 {w : World} {g : Nat} {r c : Int} {a : Option Addr} {n k : Nat} {r' c' : Int} {b : Option Addr} {m d : Nat} (h : Two w g r c a n k r' c' b m d) : w.cell? ⟨g, 5, none⟩ = some (.slice b m d) := by rw [cell_of_row w g 5 _ _ _ h]; rfl
set_option maxRecDepth 20000 in
set_option maxHeartbeats 1000000 in
theorem all_yes (w : World) (g : Nat) (r c : Int) (a : Option Addr) (n k : Nat) (r' c' : Int) (b : Option Addr) (m d : Nat) (ht : Two w g r c a n k r' c' b m d) (h1 : RightP r c n) (h2 : RightP r' c' m) :
    Calls Try.prog 55 #[.slice (some ⟨g, 0, none⟩) 2 2] w fun e w' => e = .returned (.bool true) ∧ Below w.heap.size w w' := by
  have HT : Hid (Two w g r c a n k r' c' b m d) := ht
  have H1 : Hid (RightP r c n) := h1
  have H2 : Hid (RightP r' c' m) := h2
  clear ht h1 h2
  go_enter Try.func55, Try.ntmps55
  go_wp2
  go_loopw [7] (fun i wr => ∃ q : Nat, q ≤ 2 ∧ i = .int .i64 (q : Int) ∧ Below w.heap.size w wr) (fun i _ => 2 - (intOf i).toNat)
  case atStart => exact ⟨0, by omega, rfl, Below.refl _ _⟩
  case round =>
    obtain ⟨q, hq, rfl, hb⟩ := hrel
    have HB : Hid (Below w.heap.size w wr) := hb
    have t0 := (HT.out.later hb).c0
    have t1 := (HT.out.later hb).c1
    have t2 := (HT.out.later hb).c2
    have t3 := (HT.out.later hb).c3
    have t4 := (HT.out.later hb).c4
    have t5 := (HT.out.later hb).c5
    clear hb
    rcases (by omega : q = 0 ∨ q = 1 ∨ q = 2) with rfl | rfl | rfl
    · go_wp2_with (go_at_call 43; refine (mright_yes _ _ _ _ _ _ H1.out).mono ?_; rintro e w1 ⟨rfl, hb1⟩; have HB1 : Hid (Below w.heap.size w w1) := two_below (two_below HB.out (alloc_low _ _)) hb1; clear hb1)
      exact ⟨⟨1, by omega, by go_num, HB1.out⟩, by simp [intOf]⟩
    · go_wp2_with (go_at_call 43; refine (mright_yes _ _ _ _ _ _ H2.out).mono ?_; rintro e w1 ⟨rfl, hb1⟩; have HB1 : Hid (Below w.heap.size w w1) := two_below (two_below HB.out (alloc_low _ _)) hb1; clear hb1)
      exact ⟨⟨2, by omega, by go_num, HB1.out⟩, by simp [intOf]⟩
    · go_wp2
      go_ret
      exact ⟨rfl, HB.out⟩
set_option maxRecDepth 20000 in
set_option maxHeartbeats 1000000 in
theorem all_no (w : World) (g : Nat) (r c : Int) (a : Option Addr) (n k : Nat) (r' c' : Int) (b : Option Addr) (m d : Nat) (ht : Two w g r c a n k r' c' b m d) (h : ¬ (RightP r c n ∧ RightP r' c' m)) :
    Calls Try.prog 55 #[.slice (some ⟨g, 0, none⟩) 2 2] w fun e w' => e = .returned (.bool false) ∧ Below w.heap.size w w' := by
  have HT : Hid (Two w g r c a n k r' c' b m d) := ht
  by_cases h1 : RightP r c n
  · have H1 : Hid (RightP r c n) := h1
    have H2 : Hid (¬ RightP r' c' m) := fun h2 => h ⟨h1, h2⟩
    clear ht h1 h
    go_enter Try.func55, Try.ntmps55
    go_wp2
    go_loopw [7] (fun i wr => ∃ q : Nat, q ≤ 1 ∧ i = .int .i64 (q : Int) ∧ Below w.heap.size w wr) (fun i _ => 2 - (intOf i).toNat)
    case atStart => exact ⟨0, by omega, rfl, Below.refl _ _⟩
    case round =>
      obtain ⟨q, hq, rfl, hb⟩ := hrel
      have HB : Hid (Below w.heap.size w wr) := hb
      have t0 := (HT.out.later hb).c0
      have t1 := (HT.out.later hb).c1
      have t2 := (HT.out.later hb).c2
      have t3 := (HT.out.later hb).c3
      have t4 := (HT.out.later hb).c4
      have t5 := (HT.out.later hb).c5
      clear hb
      rcases (by omega : q = 0 ∨ q = 1) with rfl | rfl
      · go_wp2_with (go_at_call 43; refine (mright_yes _ _ _ _ _ _ H1.out).mono ?_; rintro e w1 ⟨rfl, hb1⟩; have HB1 : Hid (Below w.heap.size w w1) := two_below (two_below HB.out (alloc_low _ _)) hb1; clear hb1)
        exact ⟨⟨1, by omega, by go_num, HB1.out⟩, by simp [intOf]⟩
      · go_wp2_with (go_at_call 43; refine (mright_no _ _ _ _ _ _ H2.out).mono ?_; rintro e w1 ⟨rfl, hb1⟩; have HB1 : Hid (Below w.heap.size w w1) := two_below (two_below HB.out (alloc_low _ _)) hb1; clear hb1)
        go_ret
        exact ⟨rfl, HB1.out⟩
  · have H1 : Hid (¬ RightP r c n) := h1
    clear ht h1 h
    go_enter Try.func55, Try.ntmps55
    go_wp2
    go_loopw [7] (fun i wr => i = .int .i64 0 ∧ Below w.heap.size w wr) (fun i _ => 0)
    case atStart => exact ⟨rfl, Below.refl _ _⟩
    case round =>
      obtain ⟨rfl, hb⟩ := hrel
      have HB : Hid (Below w.heap.size w wr) := hb
      have t0 := (HT.out.later hb).c0
      have t1 := (HT.out.later hb).c1
      have t2 := (HT.out.later hb).c2
      clear hb
      go_wp2_with (go_at_call 43; refine (mright_no _ _ _ _ _ _ H1.out).mono ?_; rintro e w1 ⟨rfl, hb1⟩; have HB1 : Hid (Below w.heap.size w w1) := two_below (two_below HB.out (alloc_low _ _)) hb1; clear hb1)
      go_ret
      exact ⟨rfl, HB1.out⟩
end Go.Proofs.Ytflflmdlhmhkdab

namespace Go.Proofs.Ytflflmdlhmhkdab
open Go.RowKit
theorem bad_side' {r c : Int} (h : ¬ SideP r c) : ¬ (0 ≤ r ∧ r ≤ 64) ∨ ((0 ≤ r ∧ r ≤ 64) ∧ ¬ (0 ≤ c ∧ c ≤ 64)) := by
  unfold SideP at h
  omega
end Go.Proofs.Ytflflmdlhmhkdab

namespace Go.Proofs.Ytflflmdlhmhkdab
open Go.RowKit
set_option maxHeartbeats 400000 in
theorem clone_any (w : World) (s : Option Addr) (c d : Nat) (f : Nat → Nat) (hs : Sl w s c f) (hc : c ≤ 4096) (h0 : s = none → c = 0 ∧ d = 0) :
    Calls Try.prog 45 #[.slice s c d] w fun e w' => ∃ v, e = .returned v ∧ w'.ownsRow w.heap.size 5 1 v c (row c f).toList ∧ Below w.heap.size w w' := by
  cases s with
  | none =>
    obtain ⟨rfl, rfl⟩ := h0 rfl
    have hnil : (binOp .eql 22 (.slice none 0 0) (.slice none 0 0)).run Try.prog w = .ok (.bool true) w := Go.Lib.run_eql_slice_nil w 22 5 none 0 0 0 0 Try.underlying22
    clear hs h0
    go_enter Try.func45, Try.ntmps45
    go_wp2
    go_ret
    exact ⟨_, rfl, by rw [row_empty]; exact World.ownsRow_nil _ _ _ _, Below.refl _ _⟩
  | some x =>
    have HS : Hid (Sl w (some x) c f) := hs
    have HO : Hid ((w.alloc (.cells #[] 5)).ownsRow w.heap.size 5 1 (.slice (some ⟨w.heap.size, 0, none⟩) 0 0) 0 []) := World.ownsRow_lit w #[] 0 (Nat.le_refl _) (by decide) rfl
    have hnil : (binOp .eql 22 (.slice (some x) c d) (.slice none 0 0)).run Try.prog w = .ok (.bool false) w := Go.Lib.run_eql_slice_nil w 22 5 (some x) c d 0 0 Try.underlying22
    clear hs h0
    go_enter Try.func45, Try.ntmps45
    go_wp2_with (first
      | (at_builtin; refine wpList_append_list rfl _ _ rfl w.heap.size 0 (.slice (some ⟨w.heap.size, 0, none⟩) 0 0) [] rfl HO.out (some x) c d f rfl (HS.out.later (alloc_low _ _)) (fun e => by cases e) (by omega) (by simp) ?_; intro v w2 ho2 hg2; have HO2 : Hid (w2.ownsRow w.heap.size 5 1 v c (row c f).toList) := by { show World.ownsRow _ _ _ _ _ _ _; simpa using ho2 }; have HB2 : Hid (Below w.heap.size w w2) := below_row (alloc_low _ _) hg2 (Nat.le_refl _); clear ho2 hg2))
    go_ret
    exact ⟨_, rfl, HO2.out, HB2.out⟩
theorem pc_none {a : Option Addr} {n k p c : Nat} (h0 : a = none → n = 0 ∧ k = 0) (hf : p + c ≤ n) : pc a p c = none → c = 0 := by
  intro e
  unfold pc at e
  by_cases hc : c = 0
  · exact hc
  · rw [if_neg hc] at e
    cases a with
    | none => have := h0 rfl; omega
    | some x => cases e
set_option maxHeartbeats 1000000 in
theorem mrow_ok (w : World) (r c n k i : Nat) (a : Option Addr) (F : Nat → Nat) (ha : Mt w a n k F) (R : Rt r c n) (hi : i < r) :
    Calls Try.prog 25 #[mv r c a n k, .int .i64 (i : Int)] w fun e w' => ∃ v, e = .returned (.tuple #[v, .int .i64 0]) ∧ w'.ownsRow w.heap.size 5 1 v c (row c (fun j => F (i * c + j))).toList ∧ Below w.heap.size w w' := by
  have HRt : Hid (Rt r c n) := R
  have hc := R.c64
  have hn := R.le
  have hr := R.r64
  have HA : Hid (Mt w a n k F) := ha
  obtain ⟨p, HP⟩ : ∃ p, Hid (i * c = p) := ⟨_, rfl⟩
  rw [HP.out]
  obtain ⟨s, HS⟩ : ∃ s, Hid (pc a p c = s) := ⟨_, rfl⟩
  have HF : Hid (p + c ≤ n) := by have := R.fit hi; rw [HP.out] at this; exact this
  have HSl : Hid (Sl w s c (fun j => F (p + j))) := by have := ha.piece HF.out; rw [HS.out] at this; exact this
  have H0 : Hid (s = none → c = 0 ∧ c = 0) := fun e => by have := pc_none ha.nil HF.out (by rw [HS.out]; exact e); exact ⟨this, this⟩
  obtain ⟨G, HG⟩ : ∃ G : Nat → Nat, Hid ((fun j => F (p + j)) = G) := ⟨_, rfl⟩
  rw [HG.out]
  rw [HG.out] at HSl
  obtain ⟨wb, HW⟩ : ∃ wb, Hid (wb = w.alloc (.cells #[.int .i64 (r : Int), .int .i64 (c : Int), .slice a n k] 24)) := ⟨_, rfl⟩
  have HV0 : Hid (Vr wb w.heap.size (.int .i64 (r : Int)) (.int .i64 (c : Int)) (.slice a n k)) := by rw [HW.out]; exact Vr.new w _ _ _
  have HB0 : Hid (Below w.heap.size w wb) := by rw [HW.out]; exact alloc_low _ _
  clear ha R
  go_enter Try.func25, Try.ntmps25
  go_wp2_with (first
    | (go_at_call 43; rw [← HW.out]; refine (mright_yes _ _ _ _ _ _ HRt.out.p).mono ?_; rintro e w1 ⟨rfl, hb1⟩; have HB1 : Hid (Below wb.heap.size wb w1) := hb1; have c0 := (HV0.out.later hb1).c0; have c1 := (HV0.out.later hb1).c1; have c2 := (HV0.out.later hb1).c2; clear hb1)
    | (go_at_call 44; refine (hasrow_yes _ _ _ _ _ _ _ ⟨by omega, by omega⟩).mono ?_; rintro e w2 ⟨rfl, hb2⟩; have HB2 : Hid (Below wb.heap.size wb w2) := two_below HB1.out hb2; have d0 := (HV0.out.later HB2.out).c0; have d1 := (HV0.out.later HB2.out).c1; have d2 := (HV0.out.later HB2.out).c2; clear hb2)
    | (go_at_call 46; refine (rowof_any _ _ c n k i p a s HA.out.nil HA.out.room HF.out hn (by omega) HP HS).mono ?_; rintro e w3 ⟨rfl, hb3⟩; have HB3 : Hid (Below w.heap.size w w3) := two_below (two_below HB0.out HB2.out) hb3; clear hb3)
    | (go_at_call 45; refine (clone_any _ s c c G (HSl.out.later HB3.out) (by omega) H0.out).mono ?_; rintro e w4 ⟨v, rfl, ho4, hb4⟩; have HO4 : Hid (w4.ownsRow w3.heap.size 5 1 v c (row c G).toList) := ho4; have HB4 : Hid (Below w3.heap.size w3 w4) := hb4; clear ho4 hb4))
  go_ret2
  exact ⟨v, rfl, own_mono HO4.out HB3.out.size, two_below HB3.out HB4.out⟩
set_option maxHeartbeats 400000 in
theorem mrow_shape (w : World) (r c i : Int) (n k : Nat) (a : Option Addr) (h : ¬ RightP r c n) :
    Calls Try.prog 25 #[mv r c a n k, .int .i64 i] w fun e w' => e = .returned (.tuple #[.slice none 0 0, .int .i64 3]) ∧ Below w.heap.size w w' := by
  have HH : Hid (¬ RightP r c n) := h
  clear h
  go_enter Try.func25, Try.ntmps25
  go_wp2_with (go_at_call 43; refine (mright_no _ _ _ _ _ _ HH.out).mono ?_; rintro e w1 ⟨rfl, hb1⟩; have HB1 : Hid (Below w.heap.size w w1) := two_below (alloc_low _ _) hb1; clear hb1)
  go_ret2
  exact ⟨rfl, HB1.out⟩
set_option maxHeartbeats 1000000 in
theorem mrow_arg (w : World) (r c n k : Nat) (i : Int) (a : Option Addr) (R : Rt r c n) (hi : ¬ (0 ≤ i ∧ i < r)) :
    Calls Try.prog 25 #[mv r c a n k, .int .i64 i] w fun e w' => e = .returned (.tuple #[.slice none 0 0, .int .i64 2]) ∧ Below w.heap.size w w' := by
  have HRt : Hid (Rt r c n) := R
  have HI : Hid (¬ (0 ≤ i ∧ i < r)) := hi
  obtain ⟨wb, HW⟩ : ∃ wb, Hid (wb = w.alloc (.cells #[.int .i64 (r : Int), .int .i64 (c : Int), .slice a n k] 24)) := ⟨_, rfl⟩
  have HV0 : Hid (Vr wb w.heap.size (.int .i64 (r : Int)) (.int .i64 (c : Int)) (.slice a n k)) := by rw [HW.out]; exact Vr.new w _ _ _
  have HB0 : Hid (Below w.heap.size w wb) := by rw [HW.out]; exact alloc_low _ _
  clear R hi
  go_enter Try.func25, Try.ntmps25
  go_wp2_with (first
    | (go_at_call 43; rw [← HW.out]; refine (mright_yes _ _ _ _ _ _ HRt.out.p).mono ?_; rintro e w1 ⟨rfl, hb1⟩; have HB1 : Hid (Below wb.heap.size wb w1) := hb1; have c0 := (HV0.out.later hb1).c0; have c1 := (HV0.out.later hb1).c1; have c2 := (HV0.out.later hb1).c2; clear hb1)
    | (go_at_call 44; refine (hasrow_no _ _ _ _ _ _ _ HI.out).mono ?_; rintro e w2 ⟨rfl, hb2⟩; have HB2 : Hid (Below wb.heap.size wb w2) := two_below HB1.out hb2; clear hb2))
  go_ret2
  exact ⟨rfl, two_below HB0.out HB2.out⟩
/-- The variables of a call with two matrices, and both in a row. -/
structure Box2s (w wb : World) (r c r' c' : Int) (n k m d : Nat) (a b : Option Addr) : Prop where
  va : Vr wb w.heap.size (.int .i64 r) (.int .i64 c) (.slice a n k)
  vb : Vr wb (w.heap.size + 1) (.int .i64 r') (.int .i64 c') (.slice b m d)
  tw : Two wb (w.heap.size + 1 + 1) r c a n k r' c' b m d
  below : Below w.heap.size w wb
theorem box2s (w : World) (r c r' c' : Int) (n k m d : Nat) (a b : Option Addr) : Box2s w (((w.alloc (.cells #[.int .i64 r, .int .i64 c, .slice a n k] 24)).alloc (.cells #[.int .i64 r', .int .i64 c', .slice b m d] 24)).alloc (.cells #[.int .i64 r, .int .i64 c, .slice a n k, .int .i64 r', .int .i64 c', .slice b m d] 24)) r c r' c' n k m d a b := by
  have h := box2m w r c r' c' n k m d a b
  refine ⟨h.va.later (alloc_low _ _), h.vb.later (alloc_low _ _), ?_, two_below h.below (alloc_low _ _)⟩
  have := new_at ((w.alloc (.cells #[.int .i64 r, .int .i64 c, .slice a n k] 24)).alloc (.cells #[.int .i64 r', .int .i64 c', .slice b m d] 24)) (.cells #[.int .i64 r, .int .i64 c, .slice a n k, .int .i64 r', .int .i64 c', .slice b m d] 24)
  unfold Two
  simpa using this
end Go.Proofs.Ytflflmdlhmhkdab

namespace Go.Proofs.Ytflflmdlhmhkdab
open Go.RowKit
/-- The sum of the first t rows, each times its factor, at column j. -/
def cbf (h G : Nat → Nat) (cb t j : Nat) : Nat := xs (fun k => fm (h k) (G (k * cb + j))) t
theorem cbf_succ (h G : Nat → Nat) (cb t j : Nat) : cbf h G cb (t + 1) j = cbf h G cb t j ^^^ fm (h t) (G (t * cb + j)) := rfl
theorem cbf_lt {h : Nat → Nat} {rb : Nat} (hh : ∀ i, i < rb → h i < 256) (G : Nat → Nat) (cb t j : Nat) (ht : t ≤ rb) : cbf h G cb t j < 256 := xs_lt fun k hk => fm_lt _ _ (hh k (by omega))
set_option maxRecDepth 20000 in
set_option maxHeartbeats 2000000 in
theorem comb_any (w : World) (rb cb nb kb d : Nat) (sf b : Option Addr) (h G : Nat → Nat) (hf : Sl w sf rb h) (hb : Mt w b nb kb G) (R : Rt rb cb nb) :
    Calls Try.prog 56 #[.slice sf rb d, mv rb cb b nb kb] w fun e w' => ∃ s k, e = .returned (.slice s cb k) ∧ Sl w' s cb (cbf h G cb rb) ∧ Below w.heap.size w w' := by
  obtain ⟨i0, hi0, hz0, hz1, hz2⟩ := info_parts info8
  have HRt : Hid (Rt rb cb nb) := R
  have hcb := R.c64
  have hnb := R.le
  have hrb := R.r64
  have HF : Hid (Sl w sf rb h) := hf
  have HM : Hid (Mt w b nb kb G) := hb
  have hml : cb ≤ maxLen := by unfold maxLen; omega
  have HV0 : Hid (Vr (w.alloc (.cells #[.int .i64 (rb : Int), .int .i64 (cb : Int), .slice b nb kb] 24)) w.heap.size (.int .i64 (rb : Int)) (.int .i64 (cb : Int)) (.slice b nb kb)) := Vr.new w _ _ _
  clear hf hb R
  go_enter Try.func56, Try.ntmps56
  go_wp2_with (first
    | (at_make; refine wpList_make_full _ rfl _ _ 22 rfl (w.heap.size + 1) 5 i0 (.int .u8 0) 1 Try.underlying22 hi0 hz0 hz1 .i64 .i64 _ _ cb rfl rfl rfl rfl (by rw [hz2]; omega) hml (by simp) ?_; intro w1 hown hgrow; have HR1 : Hid (RowAt w1 (w.heap.size + 1) 5 cb (fun _ => 0)) := by { show RowAt _ _ _ _ _; have := made_at hown; simpa using this }; have HB1 : Hid (Below w.heap.size w w1) := two_below (alloc_low _ _) (grown_none.mp hgrow); have HV1 : Hid (Vr w1 w.heap.size (.int .i64 (rb : Int)) (.int .i64 (cb : Int)) (.slice b nb kb)) := HV0.out.later (grown_none.mp hgrow); have v0 := HV1.out.c0; clear hown hgrow))
  clear v0 HV0
  go_loopw [5, 6, 12] (fun v _ i wr => ∃ (t : Nat) (s : Option Addr) (k : Nat), t ≤ rb ∧ i = .int .i64 (t : Int) ∧ v = .slice s cb k ∧ Sl wr s cb (cbf h G cb t) ∧ Vr wr w.heap.size (.int .i64 (rb : Int)) (.int .i64 (cb : Int)) (.slice b nb kb) ∧ Below w.heap.size w wr) (fun _ _ i _ => rb - (intOf i).toNat)
  case atStart => exact ⟨0, _, _, by omega, rfl, rfl, (HR1.out.sl (fun _ _ => by decide)), HV1.out, HB1.out⟩
  case round =>
    clear HR1 HV1 HB1
    obtain ⟨t, s, k, ht, rfl, rfl, hs, hv, hbr⟩ := hrel
    have HS : Hid (Sl wr s cb (cbf h G cb t)) := hs
    have HV : Hid (Vr wr w.heap.size (.int .i64 (rb : Int)) (.int .i64 (cb : Int)) (.slice b nb kb)) := hv
    have HB : Hid (Below w.heap.size w wr) := hbr
    by_cases hlt : t < rb
    · obtain ⟨bf, of, ef, hcf⟩ := (HF.out.later hbr).2 t hlt
      obtain ⟨x, HX⟩ : ∃ x, Hid (h t = x) := ⟨_, rfl⟩
      rw [HX.out] at hcf
      have hx : x < 256 := by rw [← HX.out]; exact HF.out.1 t hlt
      have t0 : (0 : Int) ≤ (t : Int) := Int.natCast_nonneg _
      have t1 : (t : Int) < (rb : Int) := by omega
      clear hs hv hbr
      subst ef
      by_cases hx0 : x = 0
      · subst hx0
        go_wp2
        exact ⟨⟨t + 1, s, k, by omega, by go_num, rfl, HS.out.congr (fun j _ => by rw [cbf_succ, HX.out, zero_fm]; simp), HV.out, HB.out⟩, by simp [intOf]; omega⟩
      · have gx : ((x : Int) == 0) = false := by simpa using hx0
        obtain ⟨p, HP⟩ : ∃ p, Hid (t * cb = p) := ⟨_, rfl⟩
        obtain ⟨sr, HSr⟩ : ∃ s, Hid (pc b p cb = s) := ⟨_, rfl⟩
        have HFi : Hid (p + cb ≤ nb) := by have := HRt.out.fit hlt; rw [HP.out] at this; exact this
        have HSl : Hid (Sl w sr cb (fun j => G (p + j))) := by have := HM.out.piece HFi.out; rw [HSr.out] at this; exact this
        have v0 := HV.out.c0
        have v1 := HV.out.c1
        have v2 := HV.out.c2
        clear hx0
        go_wp2
        go_region_held3 (fun w' => w'.cell? ⟨bf, of + t, none⟩ = some (.int .u8 (x : Int)) ∧ w'.cell? ⟨w.heap.size, 0, none⟩ = some (.int .i64 (rb : Int)) ∧ w'.cell? ⟨w.heap.size, 1, none⟩ = some (.int .i64 (cb : Int)) ∧ w'.cell? ⟨w.heap.size, 2, none⟩ = some (.slice b nb kb))
          (first
            | exact HK2.out
            | exact HK1.out
            | go_keep)
          (first
            | (go_at_call 46; refine (rowof_any _ _ cb nb kb t p b sr HM.out.nil HM.out.room HFi.out hnb (by omega) HP HSr).mono ?_; rintro e w2 ⟨rfl, hb2⟩; have HB2 : Hid (Below wr.heap.size wr w2) := two_below (Below.refl _ _).drew hb2; have HK1 : Hid (w2.cell? ⟨bf, of + t, none⟩ = some (.int .u8 (x : Int)) ∧ w2.cell? ⟨w.heap.size, 0, none⟩ = some (.int .i64 (rb : Int)) ∧ w2.cell? ⟨w.heap.size, 1, none⟩ = some (.int .i64 (cb : Int)) ∧ w2.cell? ⟨w.heap.size, 2, none⟩ = some (.slice b nb kb)) := ⟨keepc HB2.out hcf, keepc HB2.out v0, keepc HB2.out v1, keepc HB2.out v2⟩; clear hb2)
            | (go_at_call 68; refine (mac_sl _ s sr cb x k cb (cbf h G cb t) (fun j => G (p + j)) hx (HS.out.later HB2.out) (HSl.out.later (two_below HB.out HB2.out)) (by omega)).mono ?_; rintro e w3 ⟨s3, k3, rfl, hs3, hb3⟩; have HB3 : Hid (Below wr.heap.size wr w3) := two_below HB2.out hb3; have HS3 : Hid (Sl w3 s3 cb (cbf h G cb (t + 1))) := hs3.congr (fun j _ => by { rw [cbf_succ, HX.out, HP.out] }); have HK2 : Hid (w3.cell? ⟨bf, of + t, none⟩ = some (.int .u8 (x : Int)) ∧ w3.cell? ⟨w.heap.size, 0, none⟩ = some (.int .i64 (rb : Int)) ∧ w3.cell? ⟨w.heap.size, 1, none⟩ = some (.int .i64 (cb : Int)) ∧ w3.cell? ⟨w.heap.size, 2, none⟩ = some (.slice b nb kb)) := ⟨keepc HB3.out hcf, keepc HB3.out v0, keepc HB3.out v1, keepc HB3.out v2⟩; clear hs3 hb3))
        go_wp2
        exact ⟨⟨t + 1, s3, k3, by omega, by go_num, rfl, HS3.out, HV.out.later HB3.out, two_below HB.out HB3.out⟩, by simp [intOf]; omega⟩
    · obtain rfl : t = rb := by omega
      clear hs hv hbr
      go_wp2
      go_ret
      exact ⟨s, k, rfl, HS.out, HB.out⟩
/-- f up to place q, noughts behind. -/
def upf (f : Nat → Nat) (q p : Nat) : Nat := if p < q then f p else 0
theorem upf_zero (f : Nat → Nat) (p : Nat) : upf f 0 p = 0 := by unfold upf; rw [if_neg (by omega)]
theorem upf_all (f : Nat → Nat) {q n : Nat} (h : n ≤ q) : ∀ p, p < n → upf f q p = f p := fun p hp => by unfold upf; rw [if_pos (by omega)]
theorem cpf_next (f h : Nat → Nat) (q c : Nat) (e : ∀ j, j < c → h j = f (q + j)) (p : Nat) : cpf (upf f q) h q c p = upf f (q + c) p := by
  unfold cpf upf
  by_cases h1 : q ≤ p ∧ p < q + c
  · rw [if_pos h1, if_pos h1.2, e _ (by omega)]
    congr 1
    omega
  · rw [if_neg h1]
    by_cases h2 : p < q
    · rw [if_pos h2, if_pos (by omega)]
    · rw [if_neg h2, if_neg (by omega)]
theorem prk_row (F G : Nat → Nat) (ca cb i j : Nat) (hj : j < cb) : prk F G ca cb ca (i * cb + j) = cbf (fun t => F (i * ca + t)) G cb ca j := by
  have h1 : (i * cb + j) / cb = i := by rw [Nat.mul_comm, Nat.mul_add_div (by omega), Nat.div_eq_of_lt hj, Nat.add_zero]
  have h2 : (i * cb + j) % cb = j := by rw [Nat.mul_comm, Nat.mul_add_mod, Nat.mod_eq_of_lt hj]
  unfold prk cbf
  rw [h1, h2]
theorem MInv.copy {w wr w' : World} {gd g6 ra ca rb cb na nb n ka kb : Nat} {a b : Option Addr} {fn fn' : Nat → Nat} (I : MInv w wr gd g6 ra ca rb cb na nb n ka kb a b fn) (hr : RowAt w' gd 5 n fn') (hg : wr.grownBy w' (some gd)) : MInv w w' gd g6 ra ca rb cb na nb n ka kb a b fn' :=
  have d := I.dlow
  ⟨I.va.kept hg (by omega), I.vb.kept hg (by omega), I.vr.kept hg (by omega), I.vm.kept hg (Ne.symm I.d6), hr, below_row I.below hg (by omega), I.d6, I.dlow⟩
theorem MInv.drew {w wr : World} {gd g6 ra ca rb cb na nb n ka kb : Nat} {a b : Option Addr} {fn : Nat → Nat} (I : MInv w wr gd g6 ra ca rb cb na nb n ka kb a b fn) : MInv w wr.drew gd g6 ra ca rb cb na nb n ka kb a b fn := I.later (Below.refl _ _).drew
/-- The variables of a call with two matrices and an answer, and both matrices in a row. -/
structure Box3s (w wb : World) (r c r' c' : Int) (n k m d : Nat) (a b : Option Addr) : Prop where
  va : Vr wb w.heap.size (.int .i64 r) (.int .i64 c) (.slice a n k)
  vb : Vr wb (w.heap.size + 1) (.int .i64 r') (.int .i64 c') (.slice b m d)
  vr : Vr wb (w.heap.size + 1 + 1) (.int .i64 0) (.int .i64 0) (.slice none 0 0)
  tw : Two wb (w.heap.size + 1 + 1 + 1) r c a n k r' c' b m d
  below : Below w.heap.size w wb
theorem box3s (w : World) (r c r' c' : Int) (n k m d : Nat) (a b : Option Addr) : Box3s w ((((w.alloc (.cells #[.int .i64 r, .int .i64 c, .slice a n k] 24)).alloc (.cells #[.int .i64 r', .int .i64 c', .slice b m d] 24)).alloc (.cells #[.int .i64 0, .int .i64 0, .slice none 0 0] 24)).alloc (.cells #[.int .i64 r, .int .i64 c, .slice a n k, .int .i64 r', .int .i64 c', .slice b m d] 24)) r c r' c' n k m d a b := by
  have h := box3 w r c r' c' n k m d a b
  refine ⟨h.va.later (alloc_low _ _), h.vb.later (alloc_low _ _), h.vr.later (alloc_low _ _), ?_, two_below h.below (alloc_low _ _)⟩
  have := new_at (((w.alloc (.cells #[.int .i64 r, .int .i64 c, .slice a n k] 24)).alloc (.cells #[.int .i64 r', .int .i64 c', .slice b m d] 24)).alloc (.cells #[.int .i64 0, .int .i64 0, .slice none 0 0] 24)) (.cells #[.int .i64 r, .int .i64 c, .slice a n k, .int .i64 r', .int .i64 c', .slice b m d] 24)
  unfold Two
  simpa using this
set_option maxRecDepth 20000 in
set_option maxHeartbeats 4000000 in
theorem mmul_ok (w : World) (ra ca cb na nb n ka kb : Nat) (a b : Option Addr) (F G : Nat → Nat) (ha : Mt w a na ka F) (hb : Mt w b nb kb G) (RA : Rt ra ca na) (RB : Rt ca cb nb) (RC : Rt ra cb n) :
    Calls Try.prog 33 #[mv ra ca a na ka, mv ca cb b nb kb] w fun e w' => ∃ g, e = .returned (.tuple #[mv ra cb (some ⟨g, 0, none⟩) n n, .int .i64 0]) ∧ RowAt w' g 5 n (prk F G ca cb ca) ∧ w.heap.size ≤ g ∧ Below w.heap.size w w' := by
  have HRA : Hid (Rt ra ca na) := RA
  have HRB : Hid (Rt ca cb nb) := RB
  have HRC : Hid (Rt ra cb n) := RC
  have la := RA.le
  have lb := RB.le
  have lc := RC.le
  have ra64 := RA.r64
  have ca64 := RA.c64
  have cb64 := RB.c64
  obtain ⟨wb, HW, HX⟩ : ∃ wb, Hid (wb = (((w.alloc (.cells #[.int .i64 (ra : Int), .int .i64 (ca : Int), .slice a na ka] 24)).alloc (.cells #[.int .i64 (ca : Int), .int .i64 (cb : Int), .slice b nb kb] 24)).alloc (.cells #[.int .i64 0, .int .i64 0, .slice none 0 0] 24)).alloc (.cells #[.int .i64 (ra : Int), .int .i64 (ca : Int), .slice a na ka, .int .i64 (ca : Int), .int .i64 (cb : Int), .slice b nb kb] 24)) ∧ Hid (Box3s w wb ra ca ca cb na ka nb kb a b) := ⟨_, rfl, box3s w ra ca ca cb na ka nb kb a b⟩
  have HA : Hid (Mt w a na ka F) := ha
  have HBm : Hid (Mt w b nb kb G) := hb
  obtain ⟨fn, HFn⟩ : ∃ fn : Nat → Nat, Hid (prk F G ca cb ca = fn) := ⟨_, rfl⟩
  rw [HFn.out]
  clear ha hb RA RB RC
  go_enter Try.func33, Try.ntmps33
  go_wp2_with (first
    | (go_at_call 55; rw [← HW.out]; refine (all_yes _ _ _ _ _ _ _ _ _ _ _ _ HX.out.tw HRA.out.p HRB.out.p).mono ?_; rintro e w2 ⟨rfl, hb2⟩; have HB2 : Hid (Below wb.heap.size wb w2) := hb2; have a1 := (HX.out.va.later HB2.out).c1; have b0 := (HX.out.vb.later HB2.out).c0; have a0 := (HX.out.va.later HB2.out).c0; have b1 := (HX.out.vb.later HB2.out).c1; clear hb2)
    | (go_at_call 50; refine (nought_any _ ra cb n ra64 cb64 HRC.out.len).mono ?_; rintro e w3 ⟨gd, rfl, hr3, hg3, hb3⟩; have HR3 : Hid (RowAt w3 gd 5 n (fun _ => 0)) := hr3; have HB3 : Hid (Below wb.heap.size wb w3) := two_below HB2.out hb3; have l2 := HB2.out.size; have hg4 : w2.heap.size ≤ gd := hg3; have a0' := ((HX.out.va.later HB3.out).later (alloc_low w3 (.cells #[.int .i64 (ra : Int), .int .i64 (cb : Int), .slice (some ⟨gd, 0, none⟩) n n] 24))).c0; clear hr3 hb3 hg3))
  have HI0 : Hid (MInv w (w3.alloc (.cells #[.int .i64 (ra : Int), .int .i64 (cb : Int), .slice (some ⟨gd, 0, none⟩) n n] 24)) gd w3.heap.size ra ca ca cb na nb n ka kb a b (fun _ => 0)) := by
    have l0 := HX.out.vr.lt
    have l3 := HR3.out.lt
    exact ⟨(HX.out.va.later HB3.out).later (alloc_low _ _), (HX.out.vb.later HB3.out).later (alloc_low _ _), (HX.out.vr.later HB3.out).later (alloc_low _ _), Vr.new w3 _ _ _, HR3.out.later (alloc_low _ _), two_below (two_below HX.out.below HB3.out) (alloc_low _ _), by omega, by omega⟩
  clear HW HX HB2 HR3 HB3 a0 a1 b0 b1 a0'
  go_loopw [7, 28] (fun _ i wr => ∃ m : Nat, m ≤ ra ∧ i = .int .i64 (m : Int) ∧ MInv w wr gd w3.heap.size ra ca ca cb na nb n ka kb a b (upf fn (m * cb))) (fun _ i _ => ra - (intOf i).toNat)
  case atStart => exact ⟨0, by omega, rfl, HI0.out.congr (fun p _ => by rw [Nat.zero_mul, upf_zero])⟩
  case round =>
    clear HI0
    obtain ⟨m, hm, rfl, I⟩ := hrel
    have HI : Hid (MInv w wr gd w3.heap.size ra ca ca cb na nb n ka kb a b (upf fn (m * cb))) := I
    clear I
    by_cases hlt : m < ra
    · obtain ⟨p, HP⟩ : ∃ p, Hid (m * cb = p) := ⟨_, rfl⟩
      obtain ⟨pa, HPa⟩ : ∃ p, Hid (m * ca = p) := ⟨_, rfl⟩
      obtain ⟨sp, HSp⟩ : ∃ s, Hid (pc (some ⟨gd, 0, none⟩) p cb = s) := ⟨_, rfl⟩
      obtain ⟨sa, HSa⟩ : ∃ s, Hid (pc a pa ca = s) := ⟨_, rfl⟩
      rw [HP.out] at HI
      have HFi : Hid (p + cb ≤ n) := by have := HRC.out.fit hlt; rw [HP.out] at this; exact this
      have HFa : Hid (pa + ca ≤ na) := by have := HRA.out.fit hlt; rw [HPa.out] at this; exact this
      have HSl : Hid (Sl w sa ca (fun j => F (pa + j))) := by have := HA.out.piece HFa.out; rw [HSa.out] at this; exact this
      have HNext : Hid (∀ q, cpf (upf fn p) (cbf (fun j => F (pa + j)) G cb ca) p cb q = upf fn ((m + 1) * cb) q) := fun q => by
        rw [cpf_next fn _ p cb (fun j hj => by rw [← HFn.out, ← HP.out, prk_row F G ca cb m j hj, HPa.out]) q, ← HP.out, Nat.add_mul, Nat.one_mul]
      obtain ⟨hh, HHh⟩ : ∃ hh : Nat → Nat, Hid (cbf (fun j => F (pa + j)) G cb ca = hh) := ⟨_, rfl⟩
      rw [HHh.out] at HNext
      have HK0 : Hid (wr.cell? ⟨w3.heap.size, 0, none⟩ = some (.int .i64 (ra : Int)) ∧ wr.cell? ⟨w3.heap.size, 1, none⟩ = some (.int .i64 (cb : Int)) ∧ wr.cell? ⟨w3.heap.size, 2, none⟩ = some (.slice (some ⟨gd, 0, none⟩) n n) ∧ wr.cell? ⟨w.heap.size, 0, none⟩ = some (.int .i64 (ra : Int)) ∧ wr.cell? ⟨w.heap.size, 1, none⟩ = some (.int .i64 (ca : Int)) ∧ wr.cell? ⟨w.heap.size, 2, none⟩ = some (.slice a na ka) ∧ wr.cell? ⟨w.heap.size + 1, 0, none⟩ = some (.int .i64 (ca : Int)) ∧ wr.cell? ⟨w.heap.size + 1, 1, none⟩ = some (.int .i64 (cb : Int)) ∧ wr.cell? ⟨w.heap.size + 1, 2, none⟩ = some (.slice b nb kb)) := ⟨HI.out.vm.c0, HI.out.vm.c1, HI.out.vm.c2, HI.out.va.c0, HI.out.va.c1, HI.out.va.c2, HI.out.vb.c0, HI.out.vb.c1, HI.out.vb.c2⟩
      have HD : Hid (wr.drew.cell? ⟨w3.heap.size, 0, none⟩ = some (.int .i64 (ra : Int)) ∧ wr.drew.cell? ⟨w3.heap.size, 1, none⟩ = some (.int .i64 (cb : Int)) ∧ wr.drew.cell? ⟨w3.heap.size, 2, none⟩ = some (.slice (some ⟨gd, 0, none⟩) n n) ∧ wr.drew.cell? ⟨w.heap.size, 0, none⟩ = some (.int .i64 (ra : Int)) ∧ wr.drew.cell? ⟨w.heap.size, 1, none⟩ = some (.int .i64 (ca : Int)) ∧ wr.drew.cell? ⟨w.heap.size, 2, none⟩ = some (.slice a na ka) ∧ wr.drew.cell? ⟨w.heap.size + 1, 0, none⟩ = some (.int .i64 (ca : Int)) ∧ wr.drew.cell? ⟨w.heap.size + 1, 1, none⟩ = some (.int .i64 (cb : Int)) ∧ wr.drew.cell? ⟨w.heap.size + 1, 2, none⟩ = some (.slice b nb kb)) := HK0.out
      have hlow := HI.out.dlow
      have hd6 := HI.out.d6
      go_wp2
      go_region_held3 (fun w' => w'.cell? ⟨w3.heap.size, 0, none⟩ = some (.int .i64 (ra : Int)) ∧ w'.cell? ⟨w3.heap.size, 1, none⟩ = some (.int .i64 (cb : Int)) ∧ w'.cell? ⟨w3.heap.size, 2, none⟩ = some (.slice (some ⟨gd, 0, none⟩) n n) ∧ w'.cell? ⟨w.heap.size, 0, none⟩ = some (.int .i64 (ra : Int)) ∧ w'.cell? ⟨w.heap.size, 1, none⟩ = some (.int .i64 (ca : Int)) ∧ w'.cell? ⟨w.heap.size, 2, none⟩ = some (.slice a na ka) ∧ w'.cell? ⟨w.heap.size + 1, 0, none⟩ = some (.int .i64 (ca : Int)) ∧ w'.cell? ⟨w.heap.size + 1, 1, none⟩ = some (.int .i64 (cb : Int)) ∧ w'.cell? ⟨w.heap.size + 1, 2, none⟩ = some (.slice b nb kb))
        (first
          | exact HK4.out
          | exact HK3.out
          | exact HK2.out
          | exact HK1.out
          | exact HD.out)
        (first
          | (go_at_call 46; have _x := HK1; refine (rowof_any _ _ ca na ka m pa a sa HA.out.nil HA.out.room HFa.out la (by omega) HPa HSa).mono ?_; rintro e w5 ⟨rfl, hb5⟩; have HI5 : Hid (MInv w w5 gd w3.heap.size ra ca ca cb na nb n ka kb a b (upf fn p)) := HI4.out.later hb5; have HK2 : Hid (w5.cell? ⟨w3.heap.size, 0, none⟩ = some (.int .i64 (ra : Int)) ∧ w5.cell? ⟨w3.heap.size, 1, none⟩ = some (.int .i64 (cb : Int)) ∧ w5.cell? ⟨w3.heap.size, 2, none⟩ = some (.slice (some ⟨gd, 0, none⟩) n n) ∧ w5.cell? ⟨w.heap.size, 0, none⟩ = some (.int .i64 (ra : Int)) ∧ w5.cell? ⟨w.heap.size, 1, none⟩ = some (.int .i64 (ca : Int)) ∧ w5.cell? ⟨w.heap.size, 2, none⟩ = some (.slice a na ka) ∧ w5.cell? ⟨w.heap.size + 1, 0, none⟩ = some (.int .i64 (ca : Int)) ∧ w5.cell? ⟨w.heap.size + 1, 1, none⟩ = some (.int .i64 (cb : Int)) ∧ w5.cell? ⟨w.heap.size + 1, 2, none⟩ = some (.slice b nb kb)) := ⟨HI5.out.vm.c0, HI5.out.vm.c1, HI5.out.vm.c2, HI5.out.va.c0, HI5.out.va.c1, HI5.out.va.c2, HI5.out.vb.c0, HI5.out.vb.c1, HI5.out.vb.c2⟩; clear hb5)
          | (go_at_call 46; refine (rowof_any _ _ cb n n m p (some ⟨gd, 0, none⟩) sp (fun e => by cases e) (Nat.le_refl _) HFi.out lc (by omega) HP HSp).mono ?_; rintro e w4 ⟨rfl, hb4⟩; have HI4 : Hid (MInv w w4 gd w3.heap.size ra ca ca cb na nb n ka kb a b (upf fn p)) := (HI.out.drew).later hb4; have HK1 : Hid (w4.cell? ⟨w3.heap.size, 0, none⟩ = some (.int .i64 (ra : Int)) ∧ w4.cell? ⟨w3.heap.size, 1, none⟩ = some (.int .i64 (cb : Int)) ∧ w4.cell? ⟨w3.heap.size, 2, none⟩ = some (.slice (some ⟨gd, 0, none⟩) n n) ∧ w4.cell? ⟨w.heap.size, 0, none⟩ = some (.int .i64 (ra : Int)) ∧ w4.cell? ⟨w.heap.size, 1, none⟩ = some (.int .i64 (ca : Int)) ∧ w4.cell? ⟨w.heap.size, 2, none⟩ = some (.slice a na ka) ∧ w4.cell? ⟨w.heap.size + 1, 0, none⟩ = some (.int .i64 (ca : Int)) ∧ w4.cell? ⟨w.heap.size + 1, 1, none⟩ = some (.int .i64 (cb : Int)) ∧ w4.cell? ⟨w.heap.size + 1, 2, none⟩ = some (.slice b nb kb)) := ⟨HI4.out.vm.c0, HI4.out.vm.c1, HI4.out.vm.c2, HI4.out.va.c0, HI4.out.va.c1, HI4.out.va.c2, HI4.out.vb.c0, HI4.out.vb.c1, HI4.out.vb.c2⟩; clear hb4)
          | (go_at_call 56; refine (comb_any _ ca cb nb kb ca sa b (fun j => F (pa + j)) G (HSl.out.later HI5.out.below) (HBm.out.later HI5.out.below) HRB.out).mono ?_; rw [HHh.out]; rintro e w6 ⟨s6, k6, rfl, hs6, hb6⟩; have HI6 : Hid (MInv w w6 gd w3.heap.size ra ca ca cb na nb n ka kb a b (upf fn p)) := HI5.out.later hb6; have HS6 : Hid (Sl w6 s6 cb hh) := hs6; have HK3 : Hid (w6.cell? ⟨w3.heap.size, 0, none⟩ = some (.int .i64 (ra : Int)) ∧ w6.cell? ⟨w3.heap.size, 1, none⟩ = some (.int .i64 (cb : Int)) ∧ w6.cell? ⟨w3.heap.size, 2, none⟩ = some (.slice (some ⟨gd, 0, none⟩) n n) ∧ w6.cell? ⟨w.heap.size, 0, none⟩ = some (.int .i64 (ra : Int)) ∧ w6.cell? ⟨w.heap.size, 1, none⟩ = some (.int .i64 (ca : Int)) ∧ w6.cell? ⟨w.heap.size, 2, none⟩ = some (.slice a na ka) ∧ w6.cell? ⟨w.heap.size + 1, 0, none⟩ = some (.int .i64 (ca : Int)) ∧ w6.cell? ⟨w.heap.size + 1, 1, none⟩ = some (.int .i64 (cb : Int)) ∧ w6.cell? ⟨w.heap.size + 1, 2, none⟩ = some (.slice b nb kb)) := ⟨HI6.out.vm.c0, HI6.out.vm.c1, HI6.out.vm.c2, HI6.out.va.c0, HI6.out.va.c1, HI6.out.va.c2, HI6.out.vb.c0, HI6.out.vb.c1, HI6.out.vb.c2⟩; clear hs6 hb6)
          | (refine step_copy_in rfl _ _ rfl gd p n cb cb k6 sp s6 (upf fn p) hh rfl rfl HI6.out.data (fun h => by rw [← HSp.out]; exact pc_row gd p cb h) HS6.out HFi.out ?_; intro w7 HR7 HG7; have HI7 : Hid (MInv w w7 gd w3.heap.size ra ca ca cb na nb n ka kb a b (upf fn ((m + 1) * cb))) := (HI6.out.copy HR7.out HG7.out).congr (fun q _ => HNext.out q); have HK4 : Hid (w7.cell? ⟨w3.heap.size, 0, none⟩ = some (.int .i64 (ra : Int)) ∧ w7.cell? ⟨w3.heap.size, 1, none⟩ = some (.int .i64 (cb : Int)) ∧ w7.cell? ⟨w3.heap.size, 2, none⟩ = some (.slice (some ⟨gd, 0, none⟩) n n) ∧ w7.cell? ⟨w.heap.size, 0, none⟩ = some (.int .i64 (ra : Int)) ∧ w7.cell? ⟨w.heap.size, 1, none⟩ = some (.int .i64 (ca : Int)) ∧ w7.cell? ⟨w.heap.size, 2, none⟩ = some (.slice a na ka) ∧ w7.cell? ⟨w.heap.size + 1, 0, none⟩ = some (.int .i64 (ca : Int)) ∧ w7.cell? ⟨w.heap.size + 1, 1, none⟩ = some (.int .i64 (cb : Int)) ∧ w7.cell? ⟨w.heap.size + 1, 2, none⟩ = some (.slice b nb kb)) := ⟨HI7.out.vm.c0, HI7.out.vm.c1, HI7.out.vm.c2, HI7.out.va.c0, HI7.out.va.c1, HI7.out.va.c2, HI7.out.vb.c0, HI7.out.vb.c1, HI7.out.vb.c2⟩; clear HR7 HG7))
      go_wp2
      exact ⟨⟨m + 1, by omega, by go_num, HI7.out⟩, by simp [intOf]; omega⟩
    · obtain rfl : m = ra := by omega
      have HR : Hid (RowAt wr gd 5 n (upf fn (m * cb))) := HI.out.data
      have c0 := HI.out.vm.c0
      have c1 := HI.out.vm.c1
      have c2 := HI.out.vm.c2
      have hlow := HI.out.dlow
      go_wp2_with (refine wpList_store_var rfl _ _ rfl (w.heap.size + 1 + 1) _ _ _ (.int .i64 (m : Int)) (.int .i64 (cb : Int)) (.slice (some ⟨gd, 0, none⟩) n n) rfl rfl HI.out.vr rfl rfl rfl ?_; intro w8 HV8 HG8)
      have d0 := HV8.out.c0
      have d1 := HV8.out.c1
      have d2 := HV8.out.c2
      refine bodyPost_ret (v := .tuple #[mv m cb (some ⟨gd, 0, none⟩) n n, .int .i64 0]) (by simp [results, Try.results33, go_sem, d0, d1, d2, mv]) rfl ?_
      exact ⟨gd, rfl, (HR.out.kept HG8.out (by omega)).congr (upf_all fn (by rw [HRC.out.len]; exact Nat.le_refl _)), by omega, below_row HI.out.below HG8.out (by omega)⟩
end Go.Proofs.Ytflflmdlhmhkdab

namespace Go.Proofs.Ytflflmdlhmhkdab
open Go.RowKit
set_option maxRecDepth 20000 in
set_option maxHeartbeats 2000000 in
theorem mmul_bad (w : World) (r c r' c' : Int) (n k m d : Nat) (a b : Option Addr) (h : ¬ FitP r c n r' c' m) :
    Calls Try.prog 33 #[mv r c a n k, mv r' c' b m d] w fun e w' => e = .returned (.tuple #[mv 0 0 none 0 0, .int .i64 3]) ∧ Below w.heap.size w w' := by
  obtain ⟨wb, HW, HX⟩ : ∃ wb, Hid (wb = (((w.alloc (.cells #[.int .i64 r, .int .i64 c, .slice a n k] 24)).alloc (.cells #[.int .i64 r', .int .i64 c', .slice b m d] 24)).alloc (.cells #[.int .i64 0, .int .i64 0, .slice none 0 0] 24)).alloc (.cells #[.int .i64 r, .int .i64 c, .slice a n k, .int .i64 r', .int .i64 c', .slice b m d] 24)) ∧ Hid (Box3s w wb r c r' c' n k m d a b) := ⟨_, rfl, box3s w r c r' c' n k m d a b⟩
  by_cases h1 : RightP r c n ∧ RightP r' c' m
  · have H1 : Hid (RightP r c n ∧ RightP r' c' m) := h1
    have g1 : (c == r') = false := by simpa using (fun e => h ⟨h1.1, h1.2, e⟩ : ¬ c = r')
    clear h h1
    go_enter Try.func33, Try.ntmps33
    go_wp2_with (first
      | (go_at_call 55; rw [← HW.out]; refine (all_yes _ _ _ _ _ _ _ _ _ _ _ _ HX.out.tw H1.out.1 H1.out.2).mono ?_; rintro e w2 ⟨rfl, hb2⟩; have HB2 : Hid (Below w.heap.size w w2) := two_below HX.out.below hb2; have HV2 : Hid (Vr w2 (w.heap.size + 1 + 1) (.int .i64 0) (.int .i64 0) (.slice none 0 0)) := HX.out.vr.later hb2; have a1 := (HX.out.va.later hb2).c1; have b0 := (HX.out.vb.later hb2).c0; clear hb2)
      | (refine wpList_store_var rfl _ _ rfl (w.heap.size + 1 + 1) _ _ _ (.int .i64 0) (.int .i64 0) (.slice none 0 0) rfl rfl HV2.out rfl rfl rfl ?_; intro w3 HV3 HG3))
    have d0 := HV3.out.c0
    have d1 := HV3.out.c1
    have d2 := HV3.out.c2
    refine bodyPost_ret (v := .tuple #[mv 0 0 none 0 0, .int .i64 3]) (by simp [results, Try.results33, go_sem, d0, d1, d2, mv]) rfl ?_
    exact ⟨rfl, below_row HB2.out HG3.out (by omega)⟩
  · have H1 : Hid (¬ (RightP r c n ∧ RightP r' c' m)) := h1
    clear h h1
    go_enter Try.func33, Try.ntmps33
    go_wp2_with (first
      | (go_at_call 55; rw [← HW.out]; refine (all_no _ _ _ _ _ _ _ _ _ _ _ _ HX.out.tw H1.out).mono ?_; rintro e w2 ⟨rfl, hb2⟩; have HB2 : Hid (Below w.heap.size w w2) := two_below HX.out.below hb2; have HV2 : Hid (Vr w2 (w.heap.size + 1 + 1) (.int .i64 0) (.int .i64 0) (.slice none 0 0)) := HX.out.vr.later hb2; clear hb2)
      | (refine wpList_store_var rfl _ _ rfl (w.heap.size + 1 + 1) _ _ _ (.int .i64 0) (.int .i64 0) (.slice none 0 0) rfl rfl HV2.out rfl rfl rfl ?_; intro w3 HV3 HG3))
    have d0 := HV3.out.c0
    have d1 := HV3.out.c1
    have d2 := HV3.out.c2
    refine bodyPost_ret (v := .tuple #[mv 0 0 none 0 0, .int .i64 3]) (by simp [results, Try.results33, go_sem, d0, d1, d2, mv]) rfl ?_
    exact ⟨rfl, below_row HB2.out HG3.out (by omega)⟩
theorem dot_xs (f h : Nat → Nat) (n : Nat) : dot f h n = xs (fun t => fm (f t) (h t)) n := by
  induction n with
  | zero => rfl
  | succ n ih => show dot f h n ^^^ _ = xs _ n ^^^ _; rw [ih]
end Go.Proofs.Ytflflmdlhmhkdab

namespace Go.Proofs.Ytflflmdlhmhkdab
open Go.RowKit
/-- What the loops of a call with one matrix and an answer keep. -/
structure NInv (w wr : World) (gd g6 r c R C n k N : Nat) (a : Option Addr) (fn : Nat → Nat) : Prop where
  va : Vr wr w.heap.size (.int .i64 (r : Int)) (.int .i64 (c : Int)) (.slice a n k)
  vr : Vr wr (w.heap.size + 1) (.int .i64 0) (.int .i64 0) (.slice none 0 0)
  vm : Vr wr g6 (.int .i64 (R : Int)) (.int .i64 (C : Int)) (.slice (some ⟨gd, 0, none⟩) N N)
  data : RowAt wr gd 5 N fn
  below : Below w.heap.size w wr
  d6 : gd ≠ g6
  dlow : w.heap.size + 1 < gd
theorem NInv.congr {w wr : World} {gd g6 r c R C n k N : Nat} {a : Option Addr} {fn fn' : Nat → Nat} (I : NInv w wr gd g6 r c R C n k N a fn) (e : ∀ p, p < N → fn p = fn' p) : NInv w wr gd g6 r c R C n k N a fn' := ⟨I.va, I.vr, I.vm, I.data.congr e, I.below, I.d6, I.dlow⟩
theorem NInv.later {w wr w' : World} {gd g6 r c R C n k N : Nat} {a : Option Addr} {fn : Nat → Nat} (I : NInv w wr gd g6 r c R C n k N a fn) (hb : Below wr.heap.size wr w') : NInv w w' gd g6 r c R C n k N a fn := ⟨I.va.later hb, I.vr.later hb, I.vm.later hb, I.data.later hb, two_below I.below hb, I.d6, I.dlow⟩
theorem NInv.copy {w wr w' : World} {gd g6 r c R C n k N : Nat} {a : Option Addr} {fn fn' : Nat → Nat} (I : NInv w wr gd g6 r c R C n k N a fn) (hr : RowAt w' gd 5 N fn') (hg : wr.grownBy w' (some gd)) : NInv w w' gd g6 r c R C n k N a fn' :=
  have d := I.dlow
  ⟨I.va.kept hg (by omega), I.vr.kept hg (by omega), I.vm.kept hg (Ne.symm I.d6), hr, below_row I.below hg (by omega), I.d6, I.dlow⟩
theorem NInv.drew {w wr : World} {gd g6 r c R C n k N : Nat} {a : Option Addr} {fn : Nat → Nat} (I : NInv w wr gd g6 r c R C n k N a fn) : NInv w wr.drew gd g6 r c R C n k N a fn := I.later (Below.refl _ _).drew
theorem upf_step (f : Nat → Nat) (q v : Nat) (hv : v = f q) (p : Nat) : (if p = q then v else upf f q p) = upf f (q + 1) p := by
  unfold upf
  by_cases h : p = q
  · subst h; rw [if_pos rfl, if_pos (by omega), hv]
  · rw [if_neg h]
    by_cases h2 : p < q
    · rw [if_pos h2, if_pos (by omega)]
    · rw [if_neg h2, if_neg (by omega)]
theorem NInv.set {w wr : World} {gd g6 r c R C n k N q v : Nat} {a : Option Addr} {f : Nat → Nat} (I : NInv w wr gd g6 r c R C n k N a (upf f q)) (hv : v = f q) : NInv w (wr.setCell ⟨gd, q, none⟩ (.int .u8 (v : Int))) gd g6 r c R C n k N a (upf f (q + 1)) :=
  I.copy ((I.data.set q v).congr (fun p _ => upf_step f q v hv p)) (grown_setCell _ _ _ _)
theorem Rt.turn {r c n : Nat} (h : Rt r c n) : Rt c r n := ⟨h.c64, h.r64, by rw [Nat.mul_comm]; exact h.len⟩
set_option maxRecDepth 20000 in
set_option maxHeartbeats 4000000 in
theorem mtrans_ok (w : World) (r c n k : Nat) (a : Option Addr) (F : Nat → Nat) (ha : Mt w a n k F) (R : Rt r c n) :
    Calls Try.prog 31 #[mv r c a n k] w fun e w' => ∃ g, e = .returned (.tuple #[mv c r (some ⟨g, 0, none⟩) n n, .int .i64 0]) ∧ RowAt w' g 5 n (trf F r c) ∧ w.heap.size ≤ g ∧ Below w.heap.size w w' := by
  have HRt : Hid (Rt r c n) := R
  have HRu : Hid (Rt c r n) := R.turn
  have hn := R.le
  have hr64 := R.r64
  have hc64 := R.c64
  have HA : Hid (Mt w a n k F) := ha
  obtain ⟨fn, HFn⟩ : ∃ fn : Nat → Nat, Hid (trf F r c = fn) := ⟨_, rfl⟩
  rw [HFn.out]
  obtain ⟨wb, HW, HX⟩ : ∃ wb, Hid (wb = (w.alloc (.cells #[.int .i64 (r : Int), .int .i64 (c : Int), .slice a n k] 24)).alloc (.cells #[.int .i64 0, .int .i64 0, .slice none 0 0] 24)) ∧ Hid (Box2 w wb r c n k a) := ⟨_, rfl, box2 w r c n k a⟩
  clear ha R
  go_enter Try.func31, Try.ntmps31
  go_wp2_with (first
    | (go_at_call 43; rw [← HW.out]; refine (mright_yes _ _ _ _ _ _ HRt.out.p).mono ?_; rintro e w2 ⟨rfl, hb2⟩; have HB2 : Hid (Below wb.heap.size wb w2) := hb2; have a0 := (HX.out.va.later hb2).c0; have a1 := (HX.out.va.later hb2).c1; clear hb2)
    | (go_at_call 50; refine (nought_any _ c r n hc64 hr64 HRu.out.len).mono ?_; rintro e w3 ⟨gd, rfl, hr3, hg3, hb3⟩; have HR3 : Hid (RowAt w3 gd 5 n (fun _ => 0)) := hr3; have HB3 : Hid (Below wb.heap.size wb w3) := two_below HB2.out hb3; have l2 := HB2.out.size; have hg4 : w2.heap.size ≤ gd := hg3; have a1' := ((HX.out.va.later HB3.out).later (alloc_low w3 (.cells #[.int .i64 (c : Int), .int .i64 (r : Int), .slice (some ⟨gd, 0, none⟩) n n] 24))).c1; clear hr3 hb3 hg3))
  have HI0 : Hid (NInv w (w3.alloc (.cells #[.int .i64 (c : Int), .int .i64 (r : Int), .slice (some ⟨gd, 0, none⟩) n n] 24)) gd w3.heap.size r c c r n k n a (fun _ => 0)) := by
    have l0 := HX.out.vr.lt
    have l3 := HR3.out.lt
    exact ⟨(HX.out.va.later HB3.out).later (alloc_low _ _), (HX.out.vr.later HB3.out).later (alloc_low _ _), Vr.new w3 _ _ _, HR3.out.later (alloc_low _ _), two_below (two_below HX.out.below HB3.out) (alloc_low _ _), by omega, by omega⟩
  clear HW HX HB2 HR3 HB3 a0 a1 a1'
  go_loopw [5, 6, 7, 19] (fun _ _ _ j wr => ∃ m : Nat, m ≤ c ∧ j = .int .i64 (m : Int) ∧ NInv w wr gd w3.heap.size r c c r n k n a (upf fn (m * r))) (fun _ _ _ j _ => c - (intOf j).toNat)
  case atStart => exact ⟨0, by omega, rfl, HI0.out.congr (fun p _ => by rw [Nat.zero_mul, upf_zero])⟩
  case round =>
    clear HI0
    obtain ⟨m, hm, rfl, I⟩ := hrel
    have HI : Hid (NInv w wr gd w3.heap.size r c c r n k n a (upf fn (m * r))) := I
    clear I
    by_cases hlt : m < c
    · obtain ⟨p, HP⟩ : ∃ p, Hid (m * r = p) := ⟨_, rfl⟩
      obtain ⟨sp, HSp⟩ : ∃ s, Hid (pc (some ⟨gd, 0, none⟩) p r = s) := ⟨_, rfl⟩
      rw [HP.out] at HI
      have HFi : Hid (p + r ≤ n) := by have := HRu.out.fit hlt; rw [HP.out] at this; exact this
      have c0 := HI.out.vm.c0
      have c1 := HI.out.vm.c1
      have c2 := HI.out.vm.c2
      go_wp2_with (first
        | (go_at_call 46; refine (rowof_any _ _ r n n m p (some ⟨gd, 0, none⟩) sp (fun e => by cases e) (Nat.le_refl _) HFi.out hn (by omega) HP HSp).mono ?_; rintro e w4 ⟨rfl, hb4⟩; have HI4 : Hid (NInv w w4 gd w3.heap.size r c c r n k n a (upf fn p)) := HI.out.later hb4; have d0 := HI4.out.va.c0; clear hb4))
      clear c0 c1 c2 HI d0
      go_loopw [7, 27] (fun _ i wi => ∃ q : Nat, q ≤ r ∧ i = .int .i64 (q : Int) ∧ NInv w wi gd w3.heap.size r c c r n k n a (upf fn (p + q))) (fun _ i _ => r - (intOf i).toNat)
      case atStart => exact ⟨0, by omega, rfl, HI4.out⟩
      case round =>
        clear HI4
        obtain ⟨q, hq, rfl, I⟩ := hrel
        have HI : Hid (NInv w wr gd w3.heap.size r c c r n k n a (upf fn (p + q))) := I
        clear I
        by_cases hlq : q < r
        · obtain ⟨pa, HPa⟩ : ∃ p, Hid (q * c = p) := ⟨_, rfl⟩
          have HFa : Hid (pa + c ≤ n) := by have := HRt.out.fit hlq; rw [HPa.out] at this; exact this
          have HSpv : Hid (pc (some ⟨gd, 0, none⟩) p r = some ⟨gd, p, none⟩) := pc_row gd p r (by omega)
          obtain rfl : some ⟨gd, p, none⟩ = sp := by rw [← HSp.out, HSpv.out]
          obtain ⟨ba, oa, ea, hca⟩ := HA.out.sl.2 (pa + m) (by have := HFa.out; omega)
          obtain ⟨x, HX⟩ : ∃ x, Hid (F (pa + m) = x) := ⟨_, rfl⟩
          rw [HX.out] at hca
          have HXf : Hid (x = fn (p + q)) := by show _ = _; rw [← HX.out, ← HFn.out, ← HP.out, trf_at F r c q m hlq, HPa.out]
          have HSa : Hid (pc a pa c = some ⟨ba, oa + pa, none⟩) := by
            show pc _ _ _ = _
            rw [ea]
            unfold pc
            rw [if_neg (by omega)]
            show some (Addr.add _ _) = _
            rw [add_plain]
          have hfn : n ≤ 4096 := hn
          have hpq : p + q < n := by have := HFi.out; omega
          have c0 := HI.out.va.c0
          have c1 := HI.out.va.c1
          have c2 := HI.out.va.c2
          have m1 : (m : Int) < (c : Int) := by omega
          have q1 : (q : Int) < (r : Int) := by omega
          clear ea
          go_wp2_with (first
            | (go_at_call 46; refine (rowof_any _ _ c n k q pa a (some ⟨ba, oa + pa, none⟩) HA.out.nil HA.out.room HFa.out hn (by omega) HPa HSa).mono ?_; rintro e w5 ⟨rfl, hb5⟩; have HI5 : Hid (NInv w w5 gd w3.heap.size r c c r n k n a (upf fn (p + q))) := HI.out.later hb5; have hcx : w5.cell? ⟨ba, oa + pa + m, none⟩ = some (.int .u8 (x : Int)) := by { rw [Nat.add_assoc]; exact keepc HI5.out.below hca }; have hcc := HI5.out.data.cell (p + q) hpq; have hcf := HI5.out.data.free (p + q); have HI6 : Hid (NInv w (w5.setCell ⟨gd, p + q, none⟩ (.int .u8 (x : Int))) gd w3.heap.size r c c r n k n a (upf fn (p + q + 1))) := HI5.out.set HXf.out; clear hb5))
          exact ⟨⟨q + 1, by omega, by go_num, HI6.out⟩, by simp [intOf]; omega⟩
        · obtain rfl : q = r := by omega
          go_wp2
          exact ⟨⟨m + 1, by omega, by go_num, HI.out.congr (fun z _ => by rw [← HP.out, Nat.add_mul, Nat.one_mul])⟩, by simp [intOf]; omega⟩
    · obtain rfl : m = c := by omega
      have HR : Hid (RowAt wr gd 5 n (upf fn (m * r))) := HI.out.data
      have c0 := HI.out.vm.c0
      have c1 := HI.out.vm.c1
      have c2 := HI.out.vm.c2
      have hlow := HI.out.dlow
      go_wp2_with (refine wpList_store_var rfl _ _ rfl (w.heap.size + 1) _ _ _ (.int .i64 (m : Int)) (.int .i64 (r : Int)) (.slice (some ⟨gd, 0, none⟩) n n) rfl rfl HI.out.vr rfl rfl rfl ?_; intro w8 HV8 HG8)
      have d0 := HV8.out.c0
      have d1 := HV8.out.c1
      have d2 := HV8.out.c2
      refine bodyPost_ret (v := .tuple #[mv m r (some ⟨gd, 0, none⟩) n n, .int .i64 0]) (by simp [results, Try.results31, go_sem, d0, d1, d2, mv]) rfl ?_
      exact ⟨gd, rfl, (HR.out.kept HG8.out (by omega)).congr (upf_all fn (by rw [HRu.out.len]; exact Nat.le_refl _)), by omega, below_row HI.out.below HG8.out (by omega)⟩
set_option maxHeartbeats 1000000 in
theorem mtrans_bad (w : World) (r c : Int) (n k : Nat) (a : Option Addr) (h : ¬ RightP r c n) :
    Calls Try.prog 31 #[mv r c a n k] w fun e w' => e = .returned (.tuple #[mv 0 0 none 0 0, .int .i64 3]) ∧ Below w.heap.size w w' := by
  have HH : Hid (¬ RightP r c n) := h
  obtain ⟨wb, HW, HX⟩ : ∃ wb, Hid (wb = (w.alloc (.cells #[.int .i64 r, .int .i64 c, .slice a n k] 24)).alloc (.cells #[.int .i64 0, .int .i64 0, .slice none 0 0] 24)) ∧ Hid (Box2 w wb r c n k a) := ⟨_, rfl, box2 w r c n k a⟩
  clear h
  go_enter Try.func31, Try.ntmps31
  go_wp2_with (first
    | (go_at_call 43; rw [← HW.out]; refine (mright_no _ _ _ _ _ _ HH.out).mono ?_; rintro e w2 ⟨rfl, hb2⟩; have HB2 : Hid (Below w.heap.size w w2) := two_below HX.out.below hb2; have HV2 : Hid (Vr w2 (w.heap.size + 1) (.int .i64 0) (.int .i64 0) (.slice none 0 0)) := HX.out.vr.later hb2; clear hb2)
    | (refine wpList_store_var rfl _ _ rfl (w.heap.size + 1) _ _ _ (.int .i64 0) (.int .i64 0) (.slice none 0 0) rfl rfl HV2.out rfl rfl rfl ?_; intro w3 HV3 HG3))
  have d0 := HV3.out.c0
  have d1 := HV3.out.c1
  have d2 := HV3.out.c2
  refine bodyPost_ret (v := .tuple #[mv 0 0 none 0 0, .int .i64 3]) (by simp [results, Try.results31, go_sem, d0, d1, d2, mv]) rfl ?_
  exact ⟨rfl, below_row HB2.out HG3.out (by omega)⟩
end Go.Proofs.Ytflflmdlhmhkdab

namespace Go.Proofs.Ytflflmdlhmhkdab
open Go.RowKit
set_option maxRecDepth 20000 in
set_option maxHeartbeats 4000000 in
theorem mpick_ok (w : World) (r c n k m d N : Nat) (a b : Option Addr) (F z : Nat → Nat) (ha : Mt w a n k F) (R : Rt r c n) (hb : Il w b m (fun i => (z i : Int))) (hz : ∀ i, i < m → z i < r) (hm : m ≤ 64) (HN : Hid (m * c = N)) :
    Calls Try.prog 47 #[mv r c a n k, .slice b m d] w fun e w' => ∃ g, e = .returned (.tuple #[mv m c (some ⟨g, 0, none⟩) N N, .int .i64 0]) ∧ RowAt w' g 5 N (pkf F z c) ∧ w.heap.size ≤ g ∧ Below w.heap.size w w' := by
  have HRt : Hid (Rt r c n) := R
  have HRu : Hid (Rt m c N) := ⟨hm, R.c64, HN.out⟩
  have hn := R.le
  have hN := HRu.out.le
  have hr64 := R.r64
  have hc64 := R.c64
  have HA : Hid (Mt w a n k F) := ha
  have HIb : Hid (Il w b m (fun i => (z i : Int))) := hb
  have HZ : Hid (∀ i, i < m → z i < r) := hz
  obtain ⟨q, HQ⟩ : ∃ q : Nat → Int, Hid (∀ i, q i = (z i : Int)) := ⟨fun i => (z i : Int), fun _ => rfl⟩
  have HIn : Hid (∀ i, i < m → 0 ≤ q i ∧ q i < r) := fun i hi => by rw [HQ.out]; have := hz i hi; omega
  obtain ⟨fn, HFn⟩ : ∃ fn : Nat → Nat, Hid (pkf F z c = fn) := ⟨_, rfl⟩
  rw [HFn.out]
  obtain ⟨wb, HW, HX⟩ : ∃ wb, Hid (wb = (w.alloc (.cells #[.int .i64 (r : Int), .int .i64 (c : Int), .slice a n k] 24)).alloc (.cells #[.int .i64 0, .int .i64 0, .slice none 0 0] 24)) ∧ Hid (Box2 w wb r c n k a) := ⟨_, rfl, box2 w r c n k a⟩
  have hIq : Il w b m q := fun i hi => by obtain ⟨x, o, e, hc⟩ := hb i hi; exact ⟨x, o, e, by rw [HQ.out]; exact hc⟩
  clear HIb
  have HIb : Hid (Il w b m q) := hIq
  clear ha R hb hz hIq
  go_enter Try.func47, Try.ntmps47
  go_wp2_with (first
    | (go_at_call 43; rw [← HW.out]; refine (mright_yes _ _ _ _ _ _ HRt.out.p).mono ?_; rintro e w2 ⟨rfl, hb2⟩; have HB2 : Hid (Below wb.heap.size wb w2) := hb2; clear hb2))
  go_loopw [7, 16] (fun _ j wr => ∃ t' : Nat, t' ≤ m ∧ j = .int .i64 (t' : Int) ∧ Below wb.heap.size wb wr) (fun _ j _ => m - (intOf j).toNat)
  case atStart => exact ⟨0, by omega, rfl, HB2.out⟩
  case round =>
    clear HB2
    obtain ⟨i, hi, rfl, hbr⟩ := hrel
    have HB2 : Hid (Below wb.heap.size wb wr) := hbr
    have a0 := (HX.out.va.later hbr).c0
    have a1 := (HX.out.va.later hbr).c1
    have a2 := (HX.out.va.later hbr).c2
    clear hbr
    by_cases hlt : i < m
    · obtain ⟨x, o, eb, hci⟩ := HIb.out i (by omega)
      have hcw : wr.cell? ⟨x, o + i, none⟩ = some (.int .i64 (q i)) := keepc (two_below HX.out.below HB2.out) hci
      obtain ⟨y, HY⟩ : ∃ y, Hid (q i = y) := ⟨_, rfl⟩
      rw [HY.out] at hcw
      have HH : Hid (0 ≤ y ∧ y < r) := by have := HIn.out i hlt; rw [HY.out] at this; exact this
      have i1 : (i : Int) < (m : Int) := by omega
      clear hci
      subst eb
      go_wp2_with (go_at_call 44; refine (hasrow_yes _ _ _ _ _ _ _ HH.out).mono ?_; rintro e w3 ⟨rfl, hb3⟩; have HB3 : Hid (Below wb.heap.size wb w3) := two_below HB2.out hb3; clear hb3)
      exact ⟨⟨i + 1, by omega, by go_num, HB3.out⟩, by simp [intOf]; omega⟩
    · obtain rfl : m = i := by omega
      go_wp2_with (first
        | (go_at_call 63; refine (side_yes _ _ ⟨by omega, by omega⟩).mono ?_; rintro e w' ⟨rfl, rfl⟩)
        | (go_at_call 50; refine (nought_any _ m c N hm hc64 HN).mono ?_; rintro e w3 ⟨gd, rfl, hr3, hg3, hb3⟩; have HR3 : Hid (RowAt w3 gd 5 N (fun _ => 0)) := hr3; have HB3 : Hid (Below wb.heap.size wb w3) := two_below HB2.out hb3; have l2 := HB2.out.size; have hg4 : wr.heap.size ≤ gd := hg3; have m0' := (Vr.new w3 (.int .i64 (m : Int)) (.int .i64 (c : Int)) (.slice (some ⟨gd, 0, none⟩) N N)).c0; clear hr3 hb3 hg3))
      have HI0 : Hid (NInv w (w3.alloc (.cells #[.int .i64 (m : Int), .int .i64 (c : Int), .slice (some ⟨gd, 0, none⟩) N N] 24)) gd w3.heap.size r c m c n k N a (fun _ => 0)) := by
        have l0 := HX.out.vr.lt
        have l3 := HR3.out.lt
        exact ⟨(HX.out.va.later HB3.out).later (alloc_low _ _), (HX.out.vr.later HB3.out).later (alloc_low _ _), Vr.new w3 _ _ _, HR3.out.later (alloc_low _ _), two_below (two_below HX.out.below HB3.out) (alloc_low _ _), by omega, by omega⟩
      clear HW HX HB2 HR3 HB3 a0 a1 a2 m0' hlt hi
      go_loopw [9, 38] (fun _ j wr => ∃ i : Nat, i ≤ m ∧ j = .int .i64 (i : Int) ∧ NInv w wr gd w3.heap.size r c m c n k N a (upf fn (i * c))) (fun _ j _ => m - (intOf j).toNat)
      case atStart => exact ⟨0, by omega, rfl, HI0.out.congr (fun p _ => by rw [Nat.zero_mul, upf_zero])⟩
      case round =>
        clear HI0
        obtain ⟨i, hi, rfl, I⟩ := hrel
        have HI : Hid (NInv w wr gd w3.heap.size r c m c n k N a (upf fn (i * c))) := I
        clear I
        by_cases hlt : i < m
        · obtain ⟨x, o, eb, hci⟩ := HIb.out i hlt
          rw [HQ.out] at hci
          obtain ⟨y, HY⟩ : ∃ y, Hid (z i = y) := ⟨_, rfl⟩
          rw [HY.out] at hci
          have hyr : y < r := by rw [← HY.out]; exact HZ.out i hlt
          obtain ⟨p, HP⟩ : ∃ p, Hid (i * c = p) := ⟨_, rfl⟩
          obtain ⟨pa, HPa⟩ : ∃ p, Hid (y * c = p) := ⟨_, rfl⟩
          obtain ⟨sp, HSp⟩ : ∃ s, Hid (pc (some ⟨gd, 0, none⟩) p c = s) := ⟨_, rfl⟩
          obtain ⟨sa, HSa⟩ : ∃ s, Hid (pc a pa c = s) := ⟨_, rfl⟩
          rw [HP.out] at HI
          have HFi : Hid (p + c ≤ N) := by have := HRu.out.fit hlt; rw [HP.out] at this; exact this
          have HFa : Hid (pa + c ≤ n) := by have := HRt.out.fit hyr; rw [HPa.out] at this; exact this
          obtain ⟨hh, HHh⟩ : ∃ hh : Nat → Nat, Hid ((fun j => F (pa + j)) = hh) := ⟨_, rfl⟩
          have HSl : Hid (Sl w sa c hh) := by have := HA.out.piece HFa.out; rw [HSa.out, HHh.out] at this; exact this
          have HNext : Hid (∀ q, cpf (upf fn p) hh p c q = upf fn ((i + 1) * c) q) := fun q => by
            rw [cpf_next fn _ p c (fun j hj => by rw [← HFn.out, ← HP.out, pkf_at F z c i j hj, HY.out, HPa.out, ← HHh.out]) q, ← HP.out, Nat.add_mul, Nat.one_mul]
          have HD : Hid (wr.drew.cell? ⟨w3.heap.size, 0, none⟩ = some (.int .i64 (m : Int)) ∧ wr.drew.cell? ⟨w3.heap.size, 1, none⟩ = some (.int .i64 (c : Int)) ∧ wr.drew.cell? ⟨w3.heap.size, 2, none⟩ = some (.slice (some ⟨gd, 0, none⟩) N N) ∧ wr.drew.cell? ⟨w.heap.size, 0, none⟩ = some (.int .i64 (r : Int)) ∧ wr.drew.cell? ⟨w.heap.size, 1, none⟩ = some (.int .i64 (c : Int)) ∧ wr.drew.cell? ⟨w.heap.size, 2, none⟩ = some (.slice a n k) ∧ wr.drew.cell? ⟨x, o + i, none⟩ = some (.int .i64 (y : Int))) := ⟨HI.out.vm.c0, HI.out.vm.c1, HI.out.vm.c2, HI.out.va.c0, HI.out.va.c1, HI.out.va.c2, keepc HI.out.drew.below hci⟩
          have i0 : (0 : Int) ≤ (i : Int) := Int.natCast_nonneg _
          have i1 : (i : Int) < (m : Int) := by omega
          subst eb
          go_wp2
          go_region_held3 (fun w' => w'.cell? ⟨w3.heap.size, 0, none⟩ = some (.int .i64 (m : Int)) ∧ w'.cell? ⟨w3.heap.size, 1, none⟩ = some (.int .i64 (c : Int)) ∧ w'.cell? ⟨w3.heap.size, 2, none⟩ = some (.slice (some ⟨gd, 0, none⟩) N N) ∧ w'.cell? ⟨w.heap.size, 0, none⟩ = some (.int .i64 (r : Int)) ∧ w'.cell? ⟨w.heap.size, 1, none⟩ = some (.int .i64 (c : Int)) ∧ w'.cell? ⟨w.heap.size, 2, none⟩ = some (.slice a n k) ∧ w'.cell? ⟨x, o + i, none⟩ = some (.int .i64 (y : Int)))
            (first
              | exact HK4.out
              | exact HK2.out
              | exact HK1.out
              | exact HD.out)
            (first
              | (go_at_call 46; have _x := HK1; refine (rowof_any _ _ c n k y pa a sa HA.out.nil HA.out.room HFa.out hn (by omega) HPa HSa).mono ?_; rintro e w5 ⟨rfl, hb5⟩; have HI5 : Hid (NInv w w5 gd w3.heap.size r c m c n k N a (upf fn p)) := HI4.out.later hb5; have HK2 : Hid (w5.cell? ⟨w3.heap.size, 0, none⟩ = some (.int .i64 (m : Int)) ∧ w5.cell? ⟨w3.heap.size, 1, none⟩ = some (.int .i64 (c : Int)) ∧ w5.cell? ⟨w3.heap.size, 2, none⟩ = some (.slice (some ⟨gd, 0, none⟩) N N) ∧ w5.cell? ⟨w.heap.size, 0, none⟩ = some (.int .i64 (r : Int)) ∧ w5.cell? ⟨w.heap.size, 1, none⟩ = some (.int .i64 (c : Int)) ∧ w5.cell? ⟨w.heap.size, 2, none⟩ = some (.slice a n k) ∧ w5.cell? ⟨x, o + i, none⟩ = some (.int .i64 (y : Int))) := ⟨HI5.out.vm.c0, HI5.out.vm.c1, HI5.out.vm.c2, HI5.out.va.c0, HI5.out.va.c1, HI5.out.va.c2, keepc HI5.out.below hci⟩; clear hb5)
              | (go_at_call 46; refine (rowof_any _ _ c N N i p (some ⟨gd, 0, none⟩) sp (fun e => by cases e) (Nat.le_refl _) HFi.out hN (by omega) HP HSp).mono ?_; rintro e w4 ⟨rfl, hb4⟩; have HI4 : Hid (NInv w w4 gd w3.heap.size r c m c n k N a (upf fn p)) := (HI.out.drew).later hb4; have HK1 : Hid (w4.cell? ⟨w3.heap.size, 0, none⟩ = some (.int .i64 (m : Int)) ∧ w4.cell? ⟨w3.heap.size, 1, none⟩ = some (.int .i64 (c : Int)) ∧ w4.cell? ⟨w3.heap.size, 2, none⟩ = some (.slice (some ⟨gd, 0, none⟩) N N) ∧ w4.cell? ⟨w.heap.size, 0, none⟩ = some (.int .i64 (r : Int)) ∧ w4.cell? ⟨w.heap.size, 1, none⟩ = some (.int .i64 (c : Int)) ∧ w4.cell? ⟨w.heap.size, 2, none⟩ = some (.slice a n k) ∧ w4.cell? ⟨x, o + i, none⟩ = some (.int .i64 (y : Int))) := ⟨HI4.out.vm.c0, HI4.out.vm.c1, HI4.out.vm.c2, HI4.out.va.c0, HI4.out.va.c1, HI4.out.va.c2, keepc HI4.out.below hci⟩; clear hb4)
              | (refine step_copy_in rfl _ _ rfl gd p N c c c sp sa (upf fn p) hh rfl rfl HI5.out.data (fun h => by rw [← HSp.out]; exact pc_row gd p c h) (HSl.out.later HI5.out.below) HFi.out ?_; intro w7 HR7 HG7; have HI7 : Hid (NInv w w7 gd w3.heap.size r c m c n k N a (upf fn ((i + 1) * c))) := (HI5.out.copy HR7.out HG7.out).congr (fun q _ => HNext.out q); have HK4 : Hid (w7.cell? ⟨w3.heap.size, 0, none⟩ = some (.int .i64 (m : Int)) ∧ w7.cell? ⟨w3.heap.size, 1, none⟩ = some (.int .i64 (c : Int)) ∧ w7.cell? ⟨w3.heap.size, 2, none⟩ = some (.slice (some ⟨gd, 0, none⟩) N N) ∧ w7.cell? ⟨w.heap.size, 0, none⟩ = some (.int .i64 (r : Int)) ∧ w7.cell? ⟨w.heap.size, 1, none⟩ = some (.int .i64 (c : Int)) ∧ w7.cell? ⟨w.heap.size, 2, none⟩ = some (.slice a n k) ∧ w7.cell? ⟨x, o + i, none⟩ = some (.int .i64 (y : Int))) := ⟨HI7.out.vm.c0, HI7.out.vm.c1, HI7.out.vm.c2, HI7.out.va.c0, HI7.out.va.c1, HI7.out.va.c2, keepc HI7.out.below hci⟩; clear HR7 HG7))
          go_wp2
          exact ⟨⟨i + 1, by omega, by go_num, HI7.out⟩, by simp [intOf]; omega⟩
        · obtain rfl : i = m := by omega
          have HR : Hid (RowAt wr gd 5 N (upf fn (i * c))) := HI.out.data
          have c0 := HI.out.vm.c0
          have c1 := HI.out.vm.c1
          have c2 := HI.out.vm.c2
          have hlow := HI.out.dlow
          go_wp2_with (refine wpList_store_var rfl _ _ rfl (w.heap.size + 1) _ _ _ (.int .i64 (i : Int)) (.int .i64 (c : Int)) (.slice (some ⟨gd, 0, none⟩) N N) rfl rfl HI.out.vr rfl rfl rfl ?_; intro w8 HV8 HG8)
          have d0 := HV8.out.c0
          have d1 := HV8.out.c1
          have d2 := HV8.out.c2
          refine bodyPost_ret (v := .tuple #[mv i c (some ⟨gd, 0, none⟩) N N, .int .i64 0]) (by simp [results, Try.results47, go_sem, d0, d1, d2, mv]) rfl ?_
          exact ⟨gd, rfl, (HR.out.kept HG8.out (by omega)).congr (upf_all fn (by rw [HRu.out.len]; exact Nat.le_refl _)), by omega, below_row HI.out.below HG8.out (by omega)⟩
set_option maxHeartbeats 1000000 in
theorem mpick_shape (w : World) (r c : Int) (n k m d : Nat) (a b : Option Addr) (h : ¬ RightP r c n) :
    Calls Try.prog 47 #[mv r c a n k, .slice b m d] w fun e w' => e = .returned (.tuple #[mv 0 0 none 0 0, .int .i64 3]) ∧ Below w.heap.size w w' := by
  have HH : Hid (¬ RightP r c n) := h
  obtain ⟨wb, HW, HX⟩ : ∃ wb, Hid (wb = (w.alloc (.cells #[.int .i64 r, .int .i64 c, .slice a n k] 24)).alloc (.cells #[.int .i64 0, .int .i64 0, .slice none 0 0] 24)) ∧ Hid (Box2 w wb r c n k a) := ⟨_, rfl, box2 w r c n k a⟩
  clear h
  go_enter Try.func47, Try.ntmps47
  go_wp2_with (first
    | (go_at_call 43; rw [← HW.out]; refine (mright_no _ _ _ _ _ _ HH.out).mono ?_; rintro e w2 ⟨rfl, hb2⟩; have HBw : Hid (Below w.heap.size w w2) := two_below HX.out.below hb2; have HV2 : Hid (Vr w2 (w.heap.size + 1) (.int .i64 0) (.int .i64 0) (.slice none 0 0)) := HX.out.vr.later hb2; clear hb2)
    | (refine wpList_store_var rfl _ _ rfl (w.heap.size + 1) _ _ _ (.int .i64 0) (.int .i64 0) (.slice none 0 0) rfl rfl HV2.out rfl rfl rfl ?_; intro w8 HV8 HG8))
  have d0 := HV8.out.c0
  have d1 := HV8.out.c1
  have d2 := HV8.out.c2
  refine bodyPost_ret (v := .tuple #[mv 0 0 none 0 0, .int .i64 3]) (by simp [results, Try.results47, go_sem, d0, d1, d2, mv]) rfl ?_
  exact ⟨rfl, below_row HBw.out HG8.out (by omega)⟩
set_option maxRecDepth 20000 in
set_option maxHeartbeats 2000000 in
theorem mpick_arg (w : World) (r c n k m d t : Nat) (a b : Option Addr) (q : Nat → Int) (R : Rt r c n) (hm : m ≤ 140737488351232) (hb : Il w b m q) (ht : t < m) (hin : ∀ i, i < t → 0 ≤ q i ∧ q i < r) (hbad : ¬ (0 ≤ q t ∧ q t < r)) :
    Calls Try.prog 47 #[mv r c a n k, .slice b m d] w fun e w' => e = .returned (.tuple #[mv 0 0 none 0 0, .int .i64 2]) ∧ Below w.heap.size w w' := by
  have HRt : Hid (Rt r c n) := R
  have HIb : Hid (Il w b m q) := hb
  have HIn : Hid (∀ i, i < t → 0 ≤ q i ∧ q i < r) := hin
  have HBad : Hid (¬ (0 ≤ q t ∧ q t < r)) := hbad
  obtain ⟨wb, HW, HX⟩ : ∃ wb, Hid (wb = (w.alloc (.cells #[.int .i64 (r : Int), .int .i64 (c : Int), .slice a n k] 24)).alloc (.cells #[.int .i64 0, .int .i64 0, .slice none 0 0] 24)) ∧ Hid (Box2 w wb r c n k a) := ⟨_, rfl, box2 w r c n k a⟩
  clear R hb hin hbad
  go_enter Try.func47, Try.ntmps47
  go_wp2_with (first
    | (go_at_call 43; rw [← HW.out]; refine (mright_yes _ _ _ _ _ _ HRt.out.p).mono ?_; rintro e w2 ⟨rfl, hb2⟩; have HB2 : Hid (Below wb.heap.size wb w2) := hb2; clear hb2))
  go_loopw [7, 16] (fun _ j wr => ∃ t' : Nat, t' ≤ t ∧ j = .int .i64 (t' : Int) ∧ Below wb.heap.size wb wr) (fun _ j _ => m - (intOf j).toNat)
  case atStart => exact ⟨0, by omega, rfl, HB2.out⟩
  case round =>
    clear HB2
    obtain ⟨i, hi, rfl, hbr⟩ := hrel
    have HB2 : Hid (Below wb.heap.size wb wr) := hbr
    have a0 := (HX.out.va.later hbr).c0
    have a1 := (HX.out.va.later hbr).c1
    have a2 := (HX.out.va.later hbr).c2
    clear hbr
    by_cases hlt : i < t
    · obtain ⟨x, o, eb, hci⟩ := HIb.out i (by omega)
      have hcw : wr.cell? ⟨x, o + i, none⟩ = some (.int .i64 (q i)) := keepc (two_below HX.out.below HB2.out) hci
      obtain ⟨y, HY⟩ : ∃ y, Hid (q i = y) := ⟨_, rfl⟩
      rw [HY.out] at hcw
      have HH : Hid (0 ≤ y ∧ y < r) := by have := HIn.out i hlt; rw [HY.out] at this; exact this
      have i1 : (i : Int) < (m : Int) := by omega
      clear hci
      subst eb
      go_wp2_with (go_at_call 44; refine (hasrow_yes _ _ _ _ _ _ _ HH.out).mono ?_; rintro e w3 ⟨rfl, hb3⟩; have HB3 : Hid (Below wb.heap.size wb w3) := two_below HB2.out hb3; clear hb3)
      exact ⟨⟨i + 1, by omega, by go_num, HB3.out⟩, by simp [intOf]; omega⟩
    · obtain rfl : i = t := by omega
      obtain ⟨x, o, eb, hci⟩ := HIb.out i (by omega)
      have hcw : wr.cell? ⟨x, o + i, none⟩ = some (.int .i64 (q i)) := keepc (two_below HX.out.below HB2.out) hci
      obtain ⟨y, HY⟩ : ∃ y, Hid (q i = y) := ⟨_, rfl⟩
      rw [HY.out] at hcw
      have HH : Hid (¬ (0 ≤ y ∧ y < r)) := by have := HBad.out; rw [HY.out] at this; exact this
      have i1 : (i : Int) < (m : Int) := by omega
      clear hci hlt
      subst eb
      go_wp2_with (first
        | (go_at_call 44; refine (hasrow_no _ _ _ _ _ _ _ HH.out).mono ?_; rintro e w3 ⟨rfl, hb3⟩; have HBw : Hid (Below w.heap.size w w3) := two_below (two_below HX.out.below HB2.out) hb3; have HV2 : Hid (Vr w3 (w.heap.size + 1) (.int .i64 0) (.int .i64 0) (.slice none 0 0)) := HX.out.vr.later (two_below HB2.out hb3); clear hb3)
        | (refine wpList_store_var rfl _ _ rfl (w.heap.size + 1) _ _ _ (.int .i64 0) (.int .i64 0) (.slice none 0 0) rfl rfl HV2.out rfl rfl rfl ?_; intro w8 HV8 HG8))
      have d0 := HV8.out.c0
      have d1 := HV8.out.c1
      have d2 := HV8.out.c2
      refine bodyPost_ret (v := .tuple #[mv 0 0 none 0 0, .int .i64 2]) (by simp [results, Try.results47, go_sem, d0, d1, d2, mv]) rfl ?_
      exact ⟨rfl, below_row HBw.out HG8.out (by omega)⟩
set_option maxRecDepth 20000 in
set_option maxHeartbeats 2000000 in
theorem mpick_limit (w : World) (r c n k m d : Nat) (a b : Option Addr) (q : Nat → Int) (R : Rt r c n) (hm : m ≤ 140737488351232) (hb : Il w b m q) (hin : ∀ i, i < m → 0 ≤ q i ∧ q i < r) (hl : 64 < m) :
    Calls Try.prog 47 #[mv r c a n k, .slice b m d] w fun e w' => e = .returned (.tuple #[mv 0 0 none 0 0, .int .i64 4]) ∧ Below w.heap.size w w' := by
  have HRt : Hid (Rt r c n) := R
  have HIb : Hid (Il w b m q) := hb
  have HIn : Hid (∀ i, i < m → 0 ≤ q i ∧ q i < r) := hin
  obtain ⟨wb, HW, HX⟩ : ∃ wb, Hid (wb = (w.alloc (.cells #[.int .i64 (r : Int), .int .i64 (c : Int), .slice a n k] 24)).alloc (.cells #[.int .i64 0, .int .i64 0, .slice none 0 0] 24)) ∧ Hid (Box2 w wb r c n k a) := ⟨_, rfl, box2 w r c n k a⟩
  clear R hb hin
  go_enter Try.func47, Try.ntmps47
  go_wp2_with (first
    | (go_at_call 43; rw [← HW.out]; refine (mright_yes _ _ _ _ _ _ HRt.out.p).mono ?_; rintro e w2 ⟨rfl, hb2⟩; have HB2 : Hid (Below wb.heap.size wb w2) := hb2; clear hb2))
  go_loopw [7, 16] (fun _ j wr => ∃ t' : Nat, t' ≤ m ∧ j = .int .i64 (t' : Int) ∧ Below wb.heap.size wb wr) (fun _ j _ => m - (intOf j).toNat)
  case atStart => exact ⟨0, by omega, rfl, HB2.out⟩
  case round =>
    clear HB2
    obtain ⟨i, hi, rfl, hbr⟩ := hrel
    have HB2 : Hid (Below wb.heap.size wb wr) := hbr
    have a0 := (HX.out.va.later hbr).c0
    have a1 := (HX.out.va.later hbr).c1
    have a2 := (HX.out.va.later hbr).c2
    clear hbr
    by_cases hlt : i < m
    · obtain ⟨x, o, eb, hci⟩ := HIb.out i (by omega)
      have hcw : wr.cell? ⟨x, o + i, none⟩ = some (.int .i64 (q i)) := keepc (two_below HX.out.below HB2.out) hci
      obtain ⟨y, HY⟩ : ∃ y, Hid (q i = y) := ⟨_, rfl⟩
      rw [HY.out] at hcw
      have HH : Hid (0 ≤ y ∧ y < r) := by have := HIn.out i hlt; rw [HY.out] at this; exact this
      have i1 : (i : Int) < (m : Int) := by omega
      clear hci
      subst eb
      go_wp2_with (go_at_call 44; refine (hasrow_yes _ _ _ _ _ _ _ HH.out).mono ?_; rintro e w3 ⟨rfl, hb3⟩; have HB3 : Hid (Below wb.heap.size wb w3) := two_below HB2.out hb3; clear hb3)
      exact ⟨⟨i + 1, by omega, by go_num, HB3.out⟩, by simp [intOf]; omega⟩
    · obtain rfl : i = m := by omega
      have HBw : Hid (Below w.heap.size w wr) := two_below HX.out.below HB2.out
      have HV2 : Hid (Vr wr (w.heap.size + 1) (.int .i64 0) (.int .i64 0) (.slice none 0 0)) := HX.out.vr.later HB2.out
      go_wp2_with (first
        | (go_at_call 63; refine (side_no _ _ (by omega)).mono ?_; rintro e w' ⟨rfl, rfl⟩)
        | (refine wpList_store_var rfl _ _ rfl (w.heap.size + 1) _ _ _ (.int .i64 0) (.int .i64 0) (.slice none 0 0) rfl rfl HV2.out rfl rfl rfl ?_; intro w8 HV8 HG8))
      have d0 := HV8.out.c0
      have d1 := HV8.out.c1
      have d2 := HV8.out.c2
      refine bodyPost_ret (v := .tuple #[mv 0 0 none 0 0, .int .i64 4]) (by simp [results, Try.results47, go_sem, d0, d1, d2, mv]) rfl ?_
      exact ⟨rfl, below_row HBw.out HG8.out (by omega)⟩
end Go.Proofs.Ytflflmdlhmhkdab

namespace Go.Proofs.Ytflflmdlhmhkdab
open Go.RowKit
/-- What the loop of a matrix of rows keeps. -/
structure OfI (w wr : World) (gd g6 m c N : Nat) (fn : Nat → Nat) : Prop where
  vr : Vr wr w.heap.size (.int .i64 0) (.int .i64 0) (.slice none 0 0)
  vm : Vr wr g6 (.int .i64 (m : Int)) (.int .i64 (c : Int)) (.slice (some ⟨gd, 0, none⟩) N N)
  data : RowAt wr gd 5 N fn
  below : Below w.heap.size w wr
  d6 : gd ≠ g6
  dlow : w.heap.size < gd
theorem OfI.congr {w wr : World} {gd g6 m c N : Nat} {fn fn' : Nat → Nat} (I : OfI w wr gd g6 m c N fn) (e : ∀ p, p < N → fn p = fn' p) : OfI w wr gd g6 m c N fn' := ⟨I.vr, I.vm, I.data.congr e, I.below, I.d6, I.dlow⟩
theorem OfI.later {w wr w' : World} {gd g6 m c N : Nat} {fn : Nat → Nat} (I : OfI w wr gd g6 m c N fn) (hb : Below wr.heap.size wr w') : OfI w w' gd g6 m c N fn := ⟨I.vr.later hb, I.vm.later hb, I.data.later hb, two_below I.below hb, I.d6, I.dlow⟩
theorem OfI.copy {w wr w' : World} {gd g6 m c N : Nat} {fn fn' : Nat → Nat} (I : OfI w wr gd g6 m c N fn) (hr : RowAt w' gd 5 N fn') (hg : wr.grownBy w' (some gd)) : OfI w w' gd g6 m c N fn' :=
  have d := I.dlow
  ⟨I.vr.kept hg (by omega), I.vm.kept hg (Ne.symm I.d6), hr, below_row I.below hg (by omega), I.d6, I.dlow⟩
theorem OfI.drew {w wr : World} {gd g6 m c N : Nat} {fn : Nat → Nat} (I : OfI w wr gd g6 m c N fn) : OfI w wr.drew gd g6 m c N fn := I.later (Below.refl _ _).drew
end Go.Proofs.Ytflflmdlhmhkdab

namespace Go.Proofs.Ytflflmdlhmhkdab
open Go.RowKit
/-- A row of values. -/
def vrow (n : Nat) (v : Nat → Value) : Array Value := (Array.range n).map v
theorem vrow_size (n : Nat) (v : Nat → Value) : (vrow n v).size = n := by simp [vrow]
theorem vrow_get (n : Nat) (v : Nat → Value) (i : Nat) (h : i < n) : (vrow n v)[i]? = some (v i) := by simp [vrow, h]
theorem vrow_set (n : Nat) (v : Nat → Value) (i : Nat) (x : Value) : (vrow n v).setIfInBounds i x = vrow n (fun j => if j = i then x else v j) := by
  apply Array.ext
  · simp [vrow]
  · intro j h1 h2
    by_cases e : i = j
    · subst e; simp [vrow]
    · rw [Array.getElem_setIfInBounds_ne (by simpa using h1) e]; simp [vrow, Ne.symm e]
/-- A row of lists. -/
def VAt (w : World) (g n : Nat) (v : Nat → Value) : Prop := w.heap[g]? = some (.cells (vrow n v) 22 (0, 0))
theorem VAt.lt {w : World} {g n : Nat} {v : Nat → Value} (h : VAt w g n v) : g < w.heap.size := lt_of_block h
theorem VAt.cell {w : World} {g n : Nat} {v : Nat → Value} (h : VAt w g n v) (i : Nat) (hi : i < n) : w.cell? ⟨g, i, none⟩ = some (v i) := by rw [cell_of_row w g i _ _ _ h, vrow_get n v i hi]
theorem VAt.free {w : World} {g n : Nat} {v : Nat → Value} (h : VAt w g n v) (i : Nat) : w.frozen? ⟨g, i, none⟩ = false := by
  unfold VAt at h
  simp [World.frozen?, h]
theorem VAt.later {w w' : World} {g n : Nat} {v : Nat → Value} (h : VAt w g n v) (hb : Below w.heap.size w w') : VAt w' g n v := by unfold VAt; rw [hb.block g h.lt]; exact h
theorem VAt.congr {w : World} {g n : Nat} {v v' : Nat → Value} (h : VAt w g n v) (e : ∀ i, i < n → v i = v' i) : VAt w g n v' := by
  unfold VAt at *
  rw [h]
  congr 2
  apply Array.ext
  · simp [vrow]
  · intro i h1 h2
    simp [vrow]
    exact e i (by simpa [vrow] using h1)
theorem VAt.set {w : World} {g n : Nat} {v : Nat → Value} (h : VAt w g n v) (i : Nat) (x : Value) : VAt (w.setCell ⟨g, i, none⟩ x) g n (fun j => if j = i then x else v j) := by
  unfold VAt at *
  rw [setCell_eq_setRow w g i _ _ (0, 0) _ h, setRow_heap w g _ _ _ (0, 0) h, vrow_set]
theorem vmade_at {w1 : World} {base g n : Nat} (h : w1.ownsRow base 22 1 (.slice (some ⟨g, 0, none⟩) n n) n (madeCells (Value.slice none 0 0).cells (n * 1)).toList) : VAt w1 g n (fun _ => .slice none 0 0) := by
  rcases h.2 with ⟨h', _⟩ | ⟨g', cap', cur, h', _, hg, _, _, hs, htake⟩
  · simp at h'
  · simp only [Value.slice.injEq, Option.some.injEq, Addr.mk.injEq, and_true, true_and] at h'
    obtain ⟨rfl, rfl⟩ := h'
    unfold VAt
    rw [hg]
    congr 2
    apply Array.toList_inj.mp
    rw [List.take_of_length_le (by simp; omega)] at htake
    rw [htake, Nat.mul_one]
    show (madeCells #[Value.slice none 0 0] n).toList = _
    rw [toList_madeCells_one]
    apply List.ext_getElem
    · simp [vrow]
    · intro i h1 h2; simp [vrow]
theorem VAt.own {w : World} {g n B : Nat} {v : Nat → Value} (h : VAt w g n v) (hb : B ≤ g) (hn : n ≤ maxLen) : w.ownsRow B 22 1 (.slice (some ⟨g, 0, none⟩) n n) n (vrow n v).toList :=
  ⟨by simp [vrow_size], .inr ⟨g, n, vrow n v, rfl, hb, h, Nat.le_refl _, hn, by simp [vrow_size], List.take_of_length_le (by simp [vrow_size])⟩⟩
theorem info22 : (Try.prog.info? 22).map (fun i => (i.zero, i.size, i.bytes)) = some (some (.slice none 0 0), 1, 24) := by kernel_rfl
/-- A matrix's rows, as lists: those before t. -/
def rvf (a : Option Addr) (c t i : Nat) : Value := if i < t then .slice (pc a (i * c) c) c c else .slice none 0 0
theorem rvf_zero (a : Option Addr) (c i : Nat) : rvf a c 0 i = .slice none 0 0 := by unfold rvf; rw [if_neg (by omega)]
theorem rvf_step (a : Option Addr) (c t i : Nat) : (if i = t then Value.slice (pc a (t * c) c) c c else rvf a c t i) = rvf a c (t + 1) i := by
  unfold rvf
  by_cases h : i = t
  · subst h; rw [if_pos rfl, if_pos (by omega)]
  · rw [if_neg h]
    by_cases h2 : i < t
    · rw [if_pos h2, if_pos (by omega)]
    · rw [if_neg h2, if_neg (by omega)]
end Go.Proofs.Ytflflmdlhmhkdab

namespace Go.Proofs.Ytflflmdlhmhkdab
open Go.RowKit
theorem step_append_rows {ops : Array Oper} {op : Oper} {a : Act} {w : World} {K : Act → World → Prop} {Q : Exit → Act → World → Prop} {E : Prop} (hgd : op.guard = none) (s x : Operand) (ho : op.op = .call { callee := .builtin .append, args := #[s, x], argTypes := #[80, 80] })
    (base n : Nat) (v : Value) (ls : List Value) (hs : a.eval s = v) (hown : w.ownsRow base 22 1 v n ls) (g m c : Nat) (u : Nat → Value) (hx : a.eval x = .slice (some ⟨g, 0, none⟩) m c) (hu : VAt w g m u) (h1 : ∀ i, i < m → (u i).oneCell' = true) (h63 : n + m ≤ 4096) (hbase : base ≤ w.heap.size)
    (h : ∀ v' w', w'.ownsRow base 22 1 v' (n + m) (ls ++ (vrow m u).toList) → w.grownBy w' v.ownBlock → K (a.put op.dst v') w') : if Region.wanted op (yielded ops a.tmps) = true then Oper.wp Try.prog op a w K Q else E := by
  obtain ⟨i0, hi, hz0, hz1, hz2⟩ := info_parts info22
  have hw : Region.wanted op (yielded ops a.tmps) = true := by simp [Region.wanted, hgd]
  rw [if_pos hw]
  refine wp_append_own w s x 80 ho base 22 i0 (.slice none 0 0) 1 24 Try.underlying80 hi hz0 hz1 hz2 rfl (by decide) v n ls hs hown ⟨g, 0, none⟩ m c (vrow m u).toList hx (by simp [vrow_size]) ?_ ?_ (by unfold maxLen; omega) (by omega) hbase (fun v' w' h1 h2 _ => h v' w' h1 h2)
  · intro j y hj
    have hjm : j < m := by
      have := (List.getElem?_eq_some_iff.1 hj).1
      simpa [vrow_size] using this
    rw [Array.getElem?_toList, vrow_get m u j hjm] at hj
    rw [add_plain, Nat.zero_add, hu.cell j hjm, hj]
  · intro y hy
    obtain ⟨j, hj⟩ := List.getElem?_of_mem hy
    have hjm : j < m := by
      have := (List.getElem?_eq_some_iff.1 hj).1
      simpa [vrow_size] using this
    rw [Array.getElem?_toList, vrow_get m u j hjm] at hj
    cases hj
    exact h1 j hjm
theorem rvf_one (a : Option Addr) (c t i : Nat) : (rvf a c t i).oneCell' = true := by unfold rvf; split <;> rfl
theorem vown_slice {w : World} {base n : Nat} {v : Value} {ls : List Value} (h : w.ownsRow base 22 1 v n ls) : ∃ s d, v = .slice s n d := by
  rcases h.2 with ⟨e, h0⟩ | ⟨g, cap, cur, e, _⟩
  · subst h0; exact ⟨none, 0, e⟩
  · exact ⟨_, _, e⟩
theorem vown_base {w : World} {base n : Nat} {v : Value} {ls : List Value} (h : w.ownsRow base 22 1 v n ls) : ∀ k, v.ownBlock = some k → base ≤ k := own_base h
/-- The rows of both. -/
def skf (F G : Nat → Nat) (ra c i j : Nat) : Nat := if i < ra then F (i * c + j) else G ((i - ra) * c + j)
theorem stack_rl {w8 : World} {B ra rb c na nb ka kb d : Nat} {a b s : Option Addr} {F G : Nat → Nat} (ho : w8.ownsRow B 22 1 (.slice s (ra + rb) d) (ra + rb) ((vrow ra (rvf a c ra)).toList ++ (vrow rb (rvf b c rb)).toList)) (ha : Mt w8 a na ka F) (hb : Mt w8 b nb kb G) (RA : Rt ra c na) (RB : Rt rb c nb) :
    Rl w8 s (ra + rb) (fun i => if i < ra then pc a (i * c) c else pc b ((i - ra) * c) c) (fun _ => c) (fun _ => c) (skf F G ra c) := by
  refine ⟨fun i hi => ?_, fun i hi => ?_, fun i hi => ?_⟩
  · cases s with
    | none =>
      rcases ho.2 with ⟨_, h0⟩ | ⟨g, cap, cur, e, _⟩
      · omega
      · cases e
    | some x =>
      obtain ⟨g, e⟩ : ∃ g, x = ⟨g, 0, none⟩ := by
        rcases ho.2 with ⟨e, _⟩ | ⟨g, cap, cur, e, _⟩
        · cases e
        · cases e; exact ⟨g, rfl⟩
      subst e
      refine ⟨g, 0, rfl, ?_⟩
      rw [Nat.zero_add, ho.cellAt i (by omega)]
      by_cases h : i < ra
      · rw [List.getElem?_append_left (by simpa [vrow_size] using h), Array.getElem?_toList, vrow_get _ _ _ h]
        unfold rvf
        rw [if_pos h, if_pos h]
      · rw [List.getElem?_append_right (by simp [vrow_size]; omega), Array.getElem?_toList]
        have e2 : i - (vrow ra (rvf a c ra)).toList.length = i - ra := by simp [vrow_size]
        rw [e2, vrow_get _ _ _ (by omega)]
        unfold rvf
        rw [if_pos (by omega), if_neg h]
  · by_cases h : i < ra
    · have := ha.piece (RA.fit h)
      simp only [if_pos h]
      exact this.congr (fun j _ => by unfold skf; rw [if_pos h])
    · have := hb.piece (RB.fit (show i - ra < rb by omega))
      simp only [if_neg h]
      exact this.congr (fun j _ => by unfold skf; rw [if_neg h])
  · intro e
    by_cases h : i < ra
    · simp only [if_pos h] at e
      have := pc_none ha.nil (RA.fit h) e
      exact ⟨this, this⟩
    · simp only [if_neg h] at e
      have := pc_none hb.nil (RB.fit (show i - ra < rb by omega)) e
      exact ⟨this, this⟩
theorem off_stf (F G : Nat → Nat) {ra rb c na nb : Nat} (RA : Rt ra c na) (RB : Rt rb c nb) (p : Nat) (hp : p < na + nb) : off (skf F G ra c) c p = stf F G na p := by
  have hc : 0 < c := by
    rcases Nat.eq_zero_or_pos c with rfl | h
    · have h1 := RA.len
      have h2 := RB.len
      omega
    · exact h
  have e := Nat.div_add_mod p c
  have hm := Nat.mod_lt p hc
  have hl := RA.len
  unfold off skf stf
  by_cases h : p < na
  · have : p / c < ra := (Nat.div_lt_iff_lt_mul hc).2 (by rw [hl]; exact h)
    rw [if_pos this, if_pos h]
    congr 1
    rw [Nat.mul_comm]
    exact e
  · have h2 : ¬ p / c < ra := fun x => h (by have := (Nat.div_lt_iff_lt_mul hc).1 x; rw [hl] at this; exact this)
    rw [if_neg h2, if_neg h]
    congr 1
    obtain ⟨q, hq⟩ : ∃ q, p / c = ra + q := ⟨p / c - ra, by omega⟩
    rw [hq] at e ⊢
    rw [Nat.add_sub_cancel_left]
    rw [Nat.mul_add, Nat.mul_comm c ra, hl, Nat.mul_comm c q] at e
    omega
/-- What Stack keeps of its variables. -/
structure StI (w wr : World) (ra ca rb cb na ka nb kb : Nat) (a b : Option Addr) : Prop where
  va : Vr wr w.heap.size (.int .i64 (ra : Int)) (.int .i64 (ca : Int)) (.slice a na ka)
  vb : Vr wr (w.heap.size + 1) (.int .i64 (rb : Int)) (.int .i64 (cb : Int)) (.slice b nb kb)
  vr : Vr wr (w.heap.size + 1 + 1) (.int .i64 0) (.int .i64 0) (.slice none 0 0)
  below : Below w.heap.size w wr
theorem StI.later {w wr w' : World} {ra ca rb cb na ka nb kb : Nat} {a b : Option Addr} (I : StI w wr ra ca rb cb na ka nb kb a b) (hb : Below wr.heap.size wr w') : StI w w' ra ca rb cb na ka nb kb a b := ⟨I.va.later hb, I.vb.later hb, I.vr.later hb, two_below I.below hb⟩
theorem StI.grown {w wr w' : World} {ra ca rb cb na ka nb kb : Nat} {a b : Option Addr} {row : Option Nat} (I : StI w wr ra ca rb cb na ka nb kb a b) (hg : wr.grownBy w' row) (hr : ∀ k, row = some k → w.heap.size + 1 + 1 < k) : StI w w' ra ca rb cb na ka nb kb a b :=
  ⟨I.va.grown hg (fun e => by have := hr _ e; omega), I.vb.grown hg (fun e => by have := hr _ e; omega), I.vr.grown hg (fun e => by have := hr _ e; omega), I.below.grown hg I.below.size (fun k hk => by have := hr k hk; omega)⟩
end Go.Proofs.Ytflflmdlhmhkdab

namespace Go.Proofs.Ytflflmdlhmhkdab
open Go.RowKit
/-- The multiples of G, one by each factor. -/
def mlf (h G : Nat → Nat) (cb q : Nat) : Nat := fm (h (q / cb)) (G (q % cb))
theorem mlf_at (h G : Nat → Nat) (cb t j : Nat) (hj : j < cb) : mlf h G cb (t * cb + j) = fm (h t) (G j) := by
  have h1 : (t * cb + j) / cb = t := by rw [Nat.mul_comm, Nat.mul_add_div (by omega), Nat.div_eq_of_lt hj, Nat.add_zero]
  have h2 : (t * cb + j) % cb = j := by rw [Nat.mul_comm, Nat.mul_add_mod, Nat.mod_eq_of_lt hj]
  unfold mlf
  rw [h1, h2]
theorem cpf_more (f m hh : Nat → Nat) (p q c : Nat) (e : ∀ j, j < c → hh j = m (q + j)) (z : Nat) : cpf (cpf f m p q) hh (p + q) c z = cpf f m p (q + c) z := by
  unfold cpf
  by_cases h1 : p + q ≤ z ∧ z < p + q + c
  · rw [if_pos h1, if_pos ⟨by omega, by omega⟩, e _ (by omega)]
    congr 1
    omega
  · rw [if_neg h1]
    by_cases h2 : p ≤ z ∧ z < p + q
    · rw [if_pos h2, if_pos ⟨by omega, by omega⟩]
    · rw [if_neg h2, if_neg (by omega)]
theorem cpf_zero (f m : Nat → Nat) (p z : Nat) : cpf f m p 0 z = f z := by unfold cpf; rw [if_neg (by omega)]
theorem KInv.copy {w wr w' : World} {gd g6 RR CC ra ca rb cb na nb n ka kb : Nat} {a b : Option Addr} {fn fn' : Nat → Nat} (I : KInv w wr gd g6 RR CC ra ca rb cb na nb n ka kb a b fn) (hr : RowAt w' gd 5 n fn') (hg : wr.grownBy w' (some gd)) : KInv w w' gd g6 RR CC ra ca rb cb na nb n ka kb a b fn' :=
  have d := I.dlow
  ⟨I.va.kept hg (by omega), I.vb.kept hg (by omega), I.vr.kept hg (by omega), I.vm.kept hg (Ne.symm I.d6), hr, below_row I.below hg (by omega), I.d6, I.dlow⟩
theorem KInv.drew {w wr : World} {gd g6 RR CC ra ca rb cb na nb n ka kb : Nat} {a b : Option Addr} {fn : Nat → Nat} (I : KInv w wr gd g6 RR CC ra ca rb cb na nb n ka kb a b fn) : KInv w wr.drew gd g6 RR CC ra ca rb cb na nb n ka kb a b fn := I.later (Below.refl _ _).drew
theorem krf_row (F G : Nat → Nat) (ca rb cb CC i k j : Nat) (hk : k < rb) (hj : j < CC) : krf F G ca rb cb CC ((i * rb + k) * CC + j) = mlf (fun t => F (i * ca + t)) (fun t => G (k * cb + t)) cb j := by
  have h1 : (i * rb + k) / rb = i := by rw [Nat.mul_comm, Nat.mul_add_div (by omega), Nat.div_eq_of_lt hk, Nat.add_zero]
  have h2 : (i * rb + k) % rb = k := by rw [Nat.mul_comm, Nat.mul_add_mod, Nat.mod_eq_of_lt hk]
  rw [krf_at F G ca rb cb CC _ j hj, h1, h2]
  rfl
end Go.Proofs.Ytflflmdlhmhkdab

namespace Go.Proofs.Ytflflmdlhmhkdab
open Go.RowKit
/-- A matrix and an error are answered. -/
def MAns (w w' : World) (e : Ending) (R C : Int) (N : Nat) (f : Nat → Nat) (E : Int) : Prop := ∃ s d, e = .returned (.tuple #[mv R C s N d, .int .i64 E]) ∧ Mt w' s N d f ∧ Below w.heap.size w w'
/-- A list and an error are answered. -/
def LAns (w w' : World) (e : Ending) (N : Nat) (f : Nat → Nat) (E : Int) : Prop := ∃ s d, e = .returned (.tuple #[.slice s N d, .int .i64 E]) ∧ Mt w' s N d f ∧ Below w.heap.size w w'
theorem mans_row {w w' : World} {e : Ending} {R C E : Int} {N : Nat} {f : Nat → Nat} (hf : ∀ i, i < N → f i < 256) (h : ∃ g, e = .returned (.tuple #[mv R C (some ⟨g, 0, none⟩) N N, .int .i64 E]) ∧ RowAt w' g 5 N f ∧ w.heap.size ≤ g ∧ Below w.heap.size w w') : MAns w w' e R C N f E := by
  obtain ⟨g, he, hr, _, hb⟩ := h
  exact ⟨_, _, he, hr.mt hf, hb⟩
theorem own_mt {w : World} {base n d : Nat} {s : Option Addr} {f : Nat → Nat} (h : w.ownsRow base 5 1 (.slice s n d) n (row n f).toList) (hf : ∀ i, i < n → f i < 256) : Mt w s n d f := by
  refine ⟨own_sl2 h hf, ?_, own_none h⟩
  rcases h.2 with ⟨e, h0⟩ | ⟨g, cap, cur, e, _, _, hc, _⟩
  · cases e; omega
  · cases e; omega
theorem mans_own {w w' : World} {e : Ending} {R C E : Int} {N : Nat} {f : Nat → Nat} (hf : ∀ i, i < N → f i < 256) (h : ∃ s d, e = .returned (.tuple #[mv R C s N d, .int .i64 E]) ∧ w'.ownsRow w.heap.size 5 1 (.slice s N d) N (row N f).toList ∧ Below w.heap.size w w') : MAns w w' e R C N f E := by
  obtain ⟨s, d, he, ho, hb⟩ := h
  exact ⟨s, d, he, own_mt ho hf, hb⟩
theorem mans_bad {w w' : World} {e : Ending} {E : Int} (h : e = .returned (.tuple #[mv 0 0 none 0 0, .int .i64 E]) ∧ Below w.heap.size w w') : MAns w w' e 0 0 0 (fun _ => 0) E := ⟨none, 0, h.1, Mt.none _ _, h.2⟩
theorem lans_row {w w' : World} {e : Ending} {E : Int} {N : Nat} {f : Nat → Nat} (hf : ∀ i, i < N → f i < 256) (h : ∃ g, e = .returned (.tuple #[.slice (some ⟨g, 0, none⟩) N N, .int .i64 E]) ∧ RowAt w' g 5 N f ∧ w.heap.size ≤ g ∧ Below w.heap.size w w') : LAns w w' e N f E := by
  obtain ⟨g, he, hr, _, hb⟩ := h
  exact ⟨_, _, he, hr.mt hf, hb⟩
theorem lans_own {w w' : World} {e : Ending} {E : Int} {N : Nat} {f : Nat → Nat} (hf : ∀ i, i < N → f i < 256) (h : ∃ v, e = .returned (.tuple #[v, .int .i64 E]) ∧ w'.ownsRow w.heap.size 5 1 v N (row N f).toList ∧ Below w.heap.size w w') : LAns w w' e N f E := by
  obtain ⟨v, he, ho, hb⟩ := h
  obtain ⟨s, d, rfl, _, _⟩ := own_sl' ho
  exact ⟨s, d, he, own_mt ho hf, hb⟩
theorem lans_bad {w w' : World} {e : Ending} {E : Int} (h : e = .returned (.tuple #[.slice none 0 0, .int .i64 E]) ∧ Below w.heap.size w w') : LAns w w' e 0 (fun _ => 0) E := ⟨none, 0, h.1, Mt.none _ _, h.2⟩
theorem hid_of {p : Prop} (h : p) : Hid p := h
theorem like_self (R C E : Int) (N : Nat) (f : Nat → Nat) : ((E == E) && likeB R C R C N N f f) = true := by rw [likeB_true (fun _ _ => rfl)]; simp
theorem prk_all {F : Nat → Nat} (G : Nat → Nat) {ra ca cb na n : Nat} (hF : ∀ i, i < na → F i < 256) (RA : Rt ra ca na) (RC : Rt ra cb n) : ∀ p, p < n → prk F G ca cb ca p < 256 := by
  intro p hp
  rw [← RC.len] at hp
  have hc : 0 < cb := by
    rcases Nat.eq_zero_or_pos cb with rfl | h
    · omega
    · exact h
  have e := Nat.div_add_mod p cb
  rw [Nat.mul_comm] at e
  rw [← e]
  exact prk_lt G hF RA ((Nat.div_lt_iff_lt_mul hc).2 hp) (Nat.mod_lt p hc) (Nat.le_refl _)
theorem apf_lt {F : Nat → Nat} (X : Nat → Nat) {r c n : Nat} (hF : ∀ i, i < n → F i < 256) (R : Rt r c n) : ∀ i, i < r → apf F X c i < 256 := fun _ hi => xs_lt fun _ ht => fm_lt _ _ (hF _ (R.at hi ht))
theorem trf_all {F : Nat → Nat} {r c n : Nat} (hF : ∀ i, i < n → F i < 256) (R : Rt r c n) : ∀ p, p < n → trf F r c p < 256 := by
  intro p hp
  have hl := R.len
  have hr : 0 < r := by
    rcases Nat.eq_zero_or_pos r with rfl | h
    · omega
    · exact h
  unfold trf
  exact hF _ (R.at (Nat.mod_lt p hr) ((Nat.div_lt_iff_lt_mul hr).2 (by rw [Nat.mul_comm, hl]; exact hp)))
theorem stf_all {F G : Nat → Nat} {n m : Nat} (hF : ∀ i, i < n → F i < 256) (hG : ∀ i, i < m → G i < 256) : ∀ p, p < n + m → stf F G n p < 256 := by
  intro p hp
  unfold stf
  by_cases h : p < n
  · rw [if_pos h]; exact hF p h
  · rw [if_neg h]; exact hG _ (by omega)
theorem krf_all {F : Nat → Nat} (G : Nat → Nat) {ra ca rb cb na RR CC n : Nat} (hF : ∀ i, i < na → F i < 256) (RA : Rt ra ca na) (eR : ra * rb = RR) (eC : ca * cb = CC) (RC : Rt RR CC n) : ∀ p, p < n → krf F G ca rb cb CC p < 256 := by
  intro p hp
  rw [← RC.len, ← eR] at hp
  have hC : 0 < CC := by
    rcases Nat.eq_zero_or_pos CC with rfl | h
    · omega
    · exact h
  have hq : p / CC < ra * rb := (Nat.div_lt_iff_lt_mul hC).2 hp
  have hrb : 0 < rb := by
    rcases Nat.eq_zero_or_pos rb with rfl | h
    · omega
    · exact h
  have hcb : 0 < cb := by
    rcases Nat.eq_zero_or_pos cb with rfl | h
    · omega
    · exact h
  unfold krf
  refine fm_lt _ _ (hF _ (RA.at ((Nat.div_lt_iff_lt_mul hrb).2 hq) ((Nat.div_lt_iff_lt_mul hcb).2 ?_)))
  rw [eC]
  exact Nat.mod_lt p hC
theorem pick_pair (r c : Int) (n m : Nat) (F : Nat → Nat) (q : Nat → Int) (hF : ∀ i, i < n → F i < 256) (hm : m ≤ 140737488351232) : ∃ (R C : Int) (N : Nat) (f : Nat → Nat) (E : Int), ∀ (w : World) (k d : Nat) (a b : Option Addr), Mt w a n k F → Il w b m q →
    Calls Try.prog 47 #[mv r c a n k, .slice b m d] w (fun e w' => MAns w w' e R C N f E) ∧ Calls Try.prog 41 #[mv r c a n k, .slice b m d] w (fun e w' => MAns w w' e R C N f E) := by
  by_cases h : RightP r c n
  · obtain ⟨ra, ca, rfl, rfl, RA⟩ := right_rt h
    rcases first_bad (fun i => 0 ≤ q i ∧ q i < ra) m with hin | ⟨t, ht, hin, hbad⟩
    · by_cases hl : 64 < m
      · exact ⟨_, _, _, _, _, fun w k d a b _ hb => ⟨(mpick_limit w ra ca n k m d a b q RA hm hb hin hl).mono (fun _ _ h => mans_bad h), (rpick_limit w ra ca n k m d a b q RA hm hb hin hl).mono (fun _ _ h => mans_bad h)⟩⟩
      · have hz : ∀ i, i < m → (q i).toNat < ra := fun i hi => by have := hin i hi; omega
        have hf : ∀ p, p < m * ca → pkf F (fun i => (q i).toNat) ca p < 256 := fun p hp => pkf_lt hF RA hz p hp
        refine ⟨(m : Int), (ca : Int), m * ca, pkf F (fun i => (q i).toNat) ca, 0, fun w k d a b ha hb => ?_⟩
        have hb' : Il w b m (fun i => (((q i).toNat : Nat) : Int)) := fun i hi => by
          obtain ⟨x, o, e, hc⟩ := hb i hi
          exact ⟨x, o, e, by show w.cell? _ = some (.int .i64 (((q i).toNat : Nat) : Int)); rw [Int.toNat_of_nonneg (hin i hi).1]; exact hc⟩
        exact ⟨(mpick_ok w ra ca n k m d _ a b F _ ha RA hb' hz (by omega) rfl).mono (fun _ _ h => mans_row hf h), (rpick_ok w ra ca n k m d _ a b F _ ha.sl RA hb' hz (by omega) rfl).mono (fun _ _ h => mans_own hf h)⟩
    · exact ⟨_, _, _, _, _, fun w k d a b _ hb => ⟨(mpick_arg w ra ca n k m d t a b q RA hm hb ht hin hbad).mono (fun _ _ h => mans_bad h), (rpick_arg w ra ca n k m d t a b q RA hm hb ht hin hbad).mono (fun _ _ h => mans_bad h)⟩⟩
  · exact ⟨_, _, _, _, _, fun w k d a b _ _ => ⟨(mpick_shape w r c n k m d a b h).mono (fun _ _ h => mans_bad h), (rpick_shape w r c n k m d a b h).mono (fun _ _ h => mans_bad h)⟩⟩
theorem right_pair (r c : Int) (n : Nat) : ∃ x : Bool, ∀ (w : World) (k : Nat) (a : Option Addr),
    Calls Try.prog 43 #[mv r c a n k] w (fun e w' => e = .returned (.bool x) ∧ Below w.heap.size w w') ∧ Calls Try.prog 39 #[mv r c a n k] w (fun e w' => e = .returned (.bool x) ∧ Below w.heap.size w w') := by
  by_cases h : RightP r c n
  · exact ⟨true, fun w k a => ⟨mright_yes w r c a n k h, right_yes w r c a n k h⟩⟩
  · exact ⟨false, fun w k a => ⟨mright_no w r c a n k h, right_no w r c a n k h⟩⟩
theorem row_pair (r c i : Int) (n : Nat) (F : Nat → Nat) (hF : ∀ i, i < n → F i < 256) : ∃ (N : Nat) (f : Nat → Nat) (E : Int), ∀ (w : World) (k : Nat) (a : Option Addr), Mt w a n k F →
    Calls Try.prog 25 #[mv r c a n k, .int .i64 i] w (fun e w' => LAns w w' e N f E) ∧ Calls Try.prog 61 #[mv r c a n k, .int .i64 i] w (fun e w' => LAns w w' e N f E) := by
  by_cases h : RightP r c n
  · obtain ⟨ra, ca, rfl, rfl, RA⟩ := right_rt h
    by_cases hi : 0 ≤ i ∧ i < ra
    · obtain ⟨j, rfl⟩ := Int.eq_ofNat_of_zero_le hi.1
      have hj : j < ra := by omega
      have hf : ∀ t, t < ca → F (j * ca + t) < 256 := fun t ht => hF _ (RA.at hj ht)
      exact ⟨_, _, _, fun w k a ha => ⟨(mrow_ok w ra ca n k j a F ha RA hj).mono (fun _ _ h => lans_own hf h), (rrow_ok w ra ca n k j a F ha.sl RA hj).mono (fun _ _ h => lans_own hf h)⟩⟩
    · exact ⟨_, _, _, fun w k a _ => ⟨(mrow_arg w ra ca n k i a RA hi).mono (fun _ _ h => lans_bad h), (rrow_arg w ra ca n k i a RA hi).mono (fun _ _ h => lans_bad h)⟩⟩
  · exact ⟨_, _, _, fun w k a _ => ⟨(mrow_shape w r c i n k a h).mono (fun _ _ h => lans_bad h), (rrow_shape w r c i n k a h).mono (fun _ _ h => lans_bad h)⟩⟩
theorem off_all {f : Nat → Nat → Nat} {m c : Nat} (hf : ∀ i j, i < m → j < c → f i j < 256) : ∀ p, p < m * c → off f c p < 256 := by
  intro p hp
  have hc : 0 < c := by
    rcases Nat.eq_zero_or_pos c with rfl | h
    · omega
    · exact h
  exact hf _ _ ((Nat.div_lt_iff_lt_mul hc).2 hp) (Nat.mod_lt p hc)
end Go.Proofs.Ytflflmdlhmhkdab

namespace Go.Proofs.Ytflflmdlhmhkdab
open Go.RowKit
/-- The numbers of a list of four. -/
def four (a b c d i : Nat) : Nat := if i = 0 then a else if i = 1 then b else if i = 2 then c else d
theorem four_row (w : World) (a b c d : Nat) : RowAt (w.alloc (.cells #[.int .u8 (a : Int), .int .u8 (b : Int), .int .u8 (c : Int), .int .u8 (d : Int)] 5)) w.heap.size 5 4 (four a b c d) := by
  unfold RowAt
  rw [new_at]
  kernel_rfl
theorem four_lt {a b c d : Nat} (ha : a < 256) (hb : b < 256) (hc : c < 256) (hd : d < 256) (i : Nat) : four a b c d i < 256 := by
  unfold four
  repeat' split
  all_goals assumption
theorem anch_prk : ∀ i, i < 4 → prk (four 1 2 0 1) (four 1 0 3 1) 2 2 2 i = four 7 2 3 1 i := by
  intro i hi
  rcases (by omega : i = 0 ∨ i = 1 ∨ i = 2 ∨ i = 3) with rfl | rfl | rfl | rfl <;> kernel_rfl
theorem rt22 : Rt 2 2 4 := ⟨by omega, by omega, rfl⟩
/-- Every place of a matrix is a row and a column. -/
theorem place_of {r c n p : Nat} (R : Rt r c n) (hp : p < n) : ∃ i j, i < r ∧ j < c ∧ p = i * c + j := by
  have hl := R.len
  have hc : 0 < c := by
    rcases Nat.eq_zero_or_pos c with rfl | h
    · omega
    · exact h
  refine ⟨p / c, p % c, (Nat.div_lt_iff_lt_mul hc).2 (by rw [hl]; exact hp), Nat.mod_lt p hc, ?_⟩
  have := Nat.div_add_mod p c
  rw [Nat.mul_comm] at this
  exact this.symm
theorem prk_at (F G : Nat → Nat) (ca cb i j : Nat) (hj : j < cb) : prk F G ca cb ca (i * cb + j) = xs (fun t => fm (F (i * ca + t)) (G (t * cb + j))) ca := prk_row F G ca cb i j hj
/-- Products may be grouped in either way. -/
theorem prk_assoc {F G H : Nat → Nat} {ra ca cb cc na nb n : Nat} (hF : ∀ i, i < na → F i < 256) (hG : ∀ i, i < nb → G i < 256) (RA : Rt ra ca na) (RB : Rt ca cb nb) (RD : Rt ra cc n) :
    ∀ p, p < n → prk (prk F G ca cb ca) H cb cc cb p = prk F (prk G H cb cc cb) ca cc ca p := by
  intro p hp
  obtain ⟨i, j, hi, hj, rfl⟩ := place_of RD hp
  rw [prk_at _ _ cb cc i j hj, prk_at _ _ ca cc i j hj]
  have h1 : ∀ t, t < cb → fm (prk F G ca cb ca (i * cb + t)) (H (t * cc + j)) = xs (fun s => fm (fm (F (i * ca + s)) (G (s * cb + t))) (H (t * cc + j))) ca := fun t ht => by
    rw [prk_at F G ca cb i t ht, xs_mul_r _ _ _ (fun s hs => fm_lt _ _ (hF _ (RA.at hi hs)))]
  have h2 : ∀ s, s < ca → fm (F (i * ca + s)) (prk G H cb cc cb (s * cc + j)) = xs (fun t => fm (fm (F (i * ca + s)) (G (s * cb + t))) (H (t * cc + j))) cb := fun s hs => by
    rw [prk_at G H cb cc s j hj, xs_mul_l]
    refine xs_congr (fun t ht => ?_)
    rw [fm_assoc _ _ _ (hF _ (RA.at hi hs)) (hG _ (RB.at hs ht))]
  rw [xs_congr h1, xs_congr h2]
  exact xs_swap (fun t s => fm (fm (F (i * ca + s)) (G (s * cb + t))) (H (t * cc + j))) cb ca
/-- Transposed twice it is itself. -/
theorem trf_trf {F : Nat → Nat} {r c n : Nat} (R : Rt r c n) : ∀ p, p < n → trf (trf F r c) c r p = F p := by
  intro p hp
  obtain ⟨i, j, hi, hj, rfl⟩ := place_of R hp
  rw [trf_at (trf F r c) c r j i hj, trf_at F r c i j hi]
/-- A product transposed is the product the other way round. -/
theorem trf_prk {F G : Nat → Nat} {ra ca cb na nb n : Nat} (hF : ∀ i, i < na → F i < 256) (hG : ∀ i, i < nb → G i < 256) (RA : Rt ra ca na) (RB : Rt ca cb nb) (RC : Rt cb ra n) :
    ∀ p, p < n → trf (prk F G ca cb ca) ra cb p = prk (trf G ca cb) (trf F ra ca) ca ra ca p := by
  intro p hp
  obtain ⟨j, i, hj, hi, rfl⟩ := place_of RC hp
  rw [trf_at _ ra cb i j hi, prk_at F G ca cb i j hj, prk_at _ _ ca ra j i hi]
  refine xs_congr (fun t ht => ?_)
  rw [trf_at G ca cb t j ht, trf_at F ra ca i t hi, fm_comm _ _ (hF _ (RA.at hi ht)) (hG _ (RB.at ht hj))]
/-- Apply of a product goes step by step. -/
theorem apf_apf {F G X : Nat → Nat} {ra ca cb na nb : Nat} (hF : ∀ i, i < na → F i < 256) (hG : ∀ i, i < nb → G i < 256) (RA : Rt ra ca na) (RB : Rt ca cb nb) :
    ∀ i, i < ra → apf F (apf G X cb) ca i = apf (prk F G ca cb ca) X cb i := by
  intro i hi
  unfold apf
  have h1 : ∀ s, s < ca → fm (F (i * ca + s)) (xs (fun t => fm (G (s * cb + t)) (X t)) cb) = xs (fun t => fm (fm (F (i * ca + s)) (G (s * cb + t))) (X t)) cb := fun s hs => by
    rw [xs_mul_l]
    refine xs_congr (fun t ht => ?_)
    rw [fm_assoc _ _ _ (hF _ (RA.at hi hs)) (hG _ (RB.at hs ht))]
  have h2 : ∀ t, t < cb → fm (prk F G ca cb ca (i * cb + t)) (X t) = xs (fun s => fm (fm (F (i * ca + s)) (G (s * cb + t))) (X t)) ca := fun t ht => by
    rw [prk_at F G ca cb i t ht, xs_mul_r _ _ _ (fun s hs => fm_lt _ _ (hF _ (RA.at hi hs)))]
  rw [xs_congr h1, xs_congr h2]
  exact xs_swap (fun s t => fm (fm (F (i * ca + s)) (G (s * cb + t))) (X t)) ca cb
/-- The identity changes nothing. -/
theorem apf_idf {X : Nat → Nat} {n : Nat} (hX : ∀ i, i < n → X i < 256) : ∀ i, i < n → apf (idf n) X n i = X i := by
  intro i hi
  unfold apf
  rw [xs_one hi (fun t ht hne => by rw [idf_at n i t hi ht, if_neg (Ne.symm hne), zero_fm]), idf_at n i i hi hi, if_pos rfl, one_fm _ (hX i hi)]
theorem xs_app (f : Nat → Nat) (a b : Nat) : xs f (a + b) = xs f a ^^^ xs (fun t => f (a + t)) b := by
  induction b with
  | zero => simp [xs]
  | succ b ih => rw [← Nat.add_assoc]; simp only [xs]; rw [ih, Nat.xor_assoc]
theorem xs_prod (f : Nat → Nat) (a b : Nat) : xs f (a * b) = xs (fun s => xs (fun t => f (s * b + t)) b) a := by
  induction a with
  | zero => rw [Nat.zero_mul]; rfl
  | succ a ih => rw [Nat.add_mul, Nat.one_mul, xs_app, ih]; rfl
theorem divmod_at (s b t : Nat) (h : t < b) : (s * b + t) / b = s ∧ (s * b + t) % b = t :=
  ⟨by rw [Nat.mul_comm, Nat.mul_add_div (by omega), Nat.div_eq_of_lt h, Nat.add_zero], by rw [Nat.mul_comm, Nat.mul_add_mod, Nat.mod_eq_of_lt h]⟩
theorem lt_prod {s t a b : Nat} (hs : s < a) (ht : t < b) : s * b + t < a * b :=
  Nat.lt_of_lt_of_le (show s * b + t < (s + 1) * b by rw [Nat.add_mul, Nat.one_mul]; omega) (Nat.mul_le_mul_right b hs)
/-- Every number below a product is a pair. -/
theorem pair_of {a b p : Nat} (hp : p < a * b) : ∃ s t, s < a ∧ t < b ∧ p = s * b + t := by
  have hb : 0 < b := by
    rcases Nat.eq_zero_or_pos b with rfl | h
    · omega
    · exact h
  refine ⟨p / b, p % b, (Nat.div_lt_iff_lt_mul hb).2 hp, Nat.mod_lt p hb, ?_⟩
  have := Nat.div_add_mod p b
  rw [Nat.mul_comm] at this
  exact this.symm
theorem krf_pair (F G : Nat → Nat) (ca rb cb CC i k j l : Nat) (eC : ca * cb = CC) (hk : k < rb) (hj : j < ca) (hl : l < cb) : krf F G ca rb cb CC ((i * rb + k) * CC + (j * cb + l)) = fm (F (i * ca + j)) (G (k * cb + l)) := by
  have h := lt_prod hj hl
  rw [eC] at h
  rw [krf_at F G ca rb cb CC _ _ h, (divmod_at i rb k hk).1, (divmod_at i rb k hk).2, (divmod_at j cb l hl).1, (divmod_at j cb l hl).2]
theorem fm4 {a b c d : Nat} (ha : a < 256) (hb : b < 256) (hc : c < 256) : fm (fm a b) (fm c d) = fm (fm a c) (fm b d) := by
  rw [fm_assoc a b _ ha hb, fm_assoc a c _ ha hc, ← fm_assoc b c d hb hc, fm_comm b c hb hc, fm_assoc c b d hc hb]
/-- The Kron of products is the product of the Krons. -/
theorem krf_prk {F S G T : Nat → Nat} {ra ca da rb cb db na ns nb RR CC DD n : Nat} (hF : ∀ i, i < na → F i < 256) (hS : ∀ i, i < ns → S i < 256) (hG : ∀ i, i < nb → G i < 256)
    (RA : Rt ra ca na) (RS : Rt ca da ns) (RB : Rt rb cb nb) (eR : ra * rb = RR) (eC : ca * cb = CC) (eD : da * db = DD) (RC : Rt RR DD n) :
    ∀ p, p < n → krf (prk F S ca da ca) (prk G T cb db cb) da rb db DD p = prk (krf F G ca rb cb CC) (krf S T da cb db DD) CC DD CC p := by
  intro p hp
  obtain ⟨R, C, hR, hC, rfl⟩ := place_of RC hp
  rw [← eR] at hR
  obtain ⟨i, k, hi, hk, rfl⟩ := pair_of hR
  rw [← eD] at hC
  obtain ⟨j, l, hj, hl, rfl⟩ := pair_of hC
  rw [eD] at hC
  rw [krf_pair _ _ da rb db DD i k j l eD hk hj hl, prk_at _ _ CC DD _ _ hC, prk_at F S ca da i j hj, prk_at G T cb db k l hl, ← eC, xs_prod]
  rw [xs_mul_r _ _ _ (fun s hs => fm_lt _ _ (hF _ (RA.at hi hs)))]
  refine xs_congr (fun s hs => ?_)
  rw [xs_mul_l]
  refine xs_congr (fun t ht => ?_)
  rw [krf_pair F G ca rb cb (ca * cb) i k s t rfl hk hs ht, krf_pair S T da cb db DD s t j l eD ht hj hl]
  exact fm4 (hF _ (RA.at hi hs)) (hS _ (RS.at hs hj)) (hG _ (RB.at hk ht))
theorem tr_ans (w : World) (r c n k : Nat) (a : Option Addr) (F : Nat → Nat) (ha : Mt w a n k F) (R : Rt r c n) : Calls Try.prog 31 #[mv r c a n k] w (fun e w' => MAns w w' e c r n (trf F r c) 0) :=
  (mtrans_ok w r c n k a F ha R).mono (fun _ _ h => mans_row (trf_all ha.sl.1 R) h)
theorem mu_ans (w : World) (ra ca cb na nb n ka kb : Nat) (a b : Option Addr) (F G : Nat → Nat) (ha : Mt w a na ka F) (hb : Mt w b nb kb G) (RA : Rt ra ca na) (RB : Rt ca cb nb) (RC : Rt ra cb n) : Calls Try.prog 33 #[mv ra ca a na ka, mv ca cb b nb kb] w (fun e w' => MAns w w' e ra cb n (prk F G ca cb ca) 0) :=
  (mmul_ok w ra ca cb na nb n ka kb a b F G ha hb RA RB RC).mono (fun _ _ h => mans_row (prk_all G ha.sl.1 RA RC) h)
theorem like_ans (w : World) (r c : Int) (a b : Option Addr) (n k d : Nat) (f h : Nat → Nat) (ha : Mt w a n k f) (hb : Mt w b n d h) (e : ∀ i, i < n → f i = h i) : Calls Try.prog 19 #[mv r c a n k, mv r c b n d] w fun e w' => e = .returned (.bool true) ∧ Below w.heap.size w w' := by
  have := like_exact w r c r c a b n n k d f h ha.sl hb.sl
  rw [likeB_true e] at this
  exact this
theorem same_ans (w : World) (a b : Option Addr) (n k d : Nat) (f h : Nat → Nat) (ha : Mt w a n k f) (hb : Mt w b n d h) (e : ∀ i, i < n → f i = h i) : Calls Try.prog 20 #[.slice a n k, .slice b n d] w fun e w' => e = .returned (.bool true) ∧ w = w' :=
  same_at w a b n k d h (ha.sl.congr e) hb.sl
theorem ptrans_fit (r c : Int) (n : Nat) (F : Nat → Nat) (h : RightP r c n) : ∃ (R C : Int) (N : Nat) (f : Nat → Nat), ∀ (w : World) (k : Nat) (a : Option Addr), Mt w a n k F → Calls Try.prog 31 #[mv r c a n k] w (fun e w' => MAns w w' e R C N f 0) := by
  obtain ⟨ra, ca, rfl, rfl, RA⟩ := right_rt h
  exact ⟨_, _, _, _, fun w k a ha => tr_ans w ra ca n k a F ha RA⟩
theorem ptrans_bad (r c : Int) (n : Nat) (h : ¬ RightP r c n) (w : World) (k : Nat) (a : Option Addr) : Calls Try.prog 31 #[mv r c a n k] w (fun e w' => MAns w w' e 0 0 0 (fun _ => 0) 3) := (mtrans_bad w r c n k a h).mono (fun _ _ h => mans_bad h)
theorem ptrans_any (r c : Int) (n : Nat) (F : Nat → Nat) : ∃ (R C : Int) (N : Nat) (f : Nat → Nat) (E : Int), ∀ (w : World) (k : Nat) (a : Option Addr), Mt w a n k F → Calls Try.prog 31 #[mv r c a n k] w (fun e w' => MAns w w' e R C N f E) := by
  by_cases h : RightP r c n
  · obtain ⟨R, C, N, f, h⟩ := ptrans_fit r c n F h
    exact ⟨R, C, N, f, 0, h⟩
  · exact ⟨0, 0, 0, fun _ => 0, 3, fun w k a _ => ptrans_bad r c n h w k a⟩
theorem pmul_fit (r c r' c' : Int) (n m : Nat) (F G : Nat → Nat) (h : FitP r c n r' c' m) : ∃ (R C : Int) (N : Nat) (f : Nat → Nat), ∀ (w : World) (k d : Nat) (a b : Option Addr), Mt w a n k F → Mt w b m d G → Calls Try.prog 33 #[mv r c a n k, mv r' c' b m d] w (fun e w' => MAns w w' e R C N f 0) := by
  obtain ⟨h1, h2, h3⟩ := h
  obtain ⟨ra, ca, rfl, rfl, RA⟩ := right_rt h1
  obtain ⟨rb, cb, rfl, rfl, RB⟩ := right_rt h2
  obtain rfl : ca = rb := by omega
  exact ⟨_, _, _, _, fun w k d a b ha hb => mu_ans w ra ca cb n m (ra * cb) k d a b F G ha hb RA RB ⟨RA.r64, RB.c64, rfl⟩⟩
theorem pmul_bad (r c r' c' : Int) (n m : Nat) (h : ¬ FitP r c n r' c' m) (w : World) (k d : Nat) (a b : Option Addr) : Calls Try.prog 33 #[mv r c a n k, mv r' c' b m d] w (fun e w' => MAns w w' e 0 0 0 (fun _ => 0) 3) := (mmul_bad w r c r' c' n k m d a b h).mono (fun _ _ h => mans_bad h)
theorem pmul_any (r c r' c' : Int) (n m : Nat) (F G : Nat → Nat) : ∃ (R C : Int) (N : Nat) (f : Nat → Nat) (E : Int), ∀ (w : World) (k d : Nat) (a b : Option Addr), Mt w a n k F → Mt w b m d G → Calls Try.prog 33 #[mv r c a n k, mv r' c' b m d] w (fun e w' => MAns w w' e R C N f E) := by
  by_cases h : FitP r c n r' c' m
  · obtain ⟨R, C, N, f, h⟩ := pmul_fit r c r' c' n m F G h
    exact ⟨R, C, N, f, 0, h⟩
  · exact ⟨0, 0, 0, fun _ => 0, 3, fun w k d a b _ _ => pmul_bad r c r' c' n m h w k d a b⟩
end Go.Proofs.Ytflflmdlhmhkdab
