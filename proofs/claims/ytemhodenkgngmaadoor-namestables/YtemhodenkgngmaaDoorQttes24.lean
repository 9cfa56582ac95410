/-
  Stage 13: Env, of the program and of the reference.
  Stage 13: the reference's Env.
-/
import Derived.Test.YtemhodenkgngmaaDoorQttes00
import Derived.Test.YtemhodenkgngmaaDoorQttes23
set_option maxRecDepth 100000
set_option maxHeartbeats 16000000
namespace Go.Proofs.YtemhodenkgngmaaDoor
open Go.RowKit
/-- The cells of some constants. -/
def crow (L : List Cn) : List Value := L.flatMap (fun c => [.string c.nm, .int .i64 c.n])
theorem crow_app (L M : List Cn) : crow (L ++ M) = crow L ++ crow M := by unfold crow; rw [List.flatMap_append]
theorem crow_get : ∀ (L : List Cn) (i : Nat) (c : Cn), L[i]? = some c → (crow L)[i * 2]? = some (.string c.nm) ∧ (crow L)[i * 2 + 1]? = some (.int .i64 c.n) := by
 intro L
 induction L with
 | nil => intro i c h; cases h
 | cons x L ih =>
  intro i c h
  cases i with
  | zero => cases h; exact ⟨rfl, rfl⟩
  | succ i =>
   have h2 : L[i]? = some c := by simpa using h
   obtain ⟨h3, h4⟩ := ih i c h2
   have e : (i + 1) * 2 = i * 2 + 1 + 1 := by omega
   rw [e]
   exact ⟨h3, h4⟩
/-- A list of constants of the call's own. -/
def Cw (w : World) (B : Nat) (v : Value) (L : List Cn) : Prop := w.ownsRow B 42 2 v L.length (crow L)
theorem Cw.nil (w : World) (B : Nat) : Cw w B (.slice none 0 0) [] := World.ownsRow_nil _ _ _ _
theorem Cw.later {w w' : World} {B : Nat} {v : Value} {L : List Cn} (h : Cw w B v L) (hb : Below w.heap.size w w') : Cw w' B v L := World.ownsRow.kept h (jgrown.mpr hb) (by cases hv : v.ownBlock <;> simp)
theorem Cw.kept {w w' : World} {B : Nat} {v : Value} {L : List Cn} {row : Option Nat} (h : Cw w B v L) (hg : w.grownBy w' row) (hne : v.ownBlock = none ∨ v.ownBlock ≠ row) : Cw w' B v L := World.ownsRow.kept h hg hne
theorem Cw.form {w : World} {B : Nat} {v : Value} {L : List Cn} (h : Cw w B v L) : ∃ a d, v = .slice a L.length d ∧ (a = none → L.length = 0 ∧ d = 0) := by
 rcases h.2 with ⟨e, h0⟩ | ⟨g, cap, cur, e, _⟩
 ·exact ⟨none, 0, by rw [e, h0], fun _ => ⟨h0, rfl⟩⟩
 ·exact ⟨_, _, e, fun x => by cases x⟩
theorem Cw.base {w : World} {B : Nat} {v : Value} {L : List Cn} (h : Cw w B v L) {g : Nat} (hg : v.ownBlock = some g) : B ≤ g ∧ g < w.heap.size := by
 rcases h.2 with ⟨e, _⟩ | ⟨g', cap, cur, e, hB, hb, _⟩
 ·rw [e] at hg; simp [Value.ownBlock] at hg
 ·rw [e] at hg; simp [Value.ownBlock] at hg; subst hg; exact ⟨hB, lt_of_block hb⟩
theorem Cw.push {w : World} {B : Nat} {v : Value} {L : List Cn} {c : Cn} (h : w.ownsRow B 42 2 v (L.length + 1) (crow L ++ [.string c.nm, .int .i64 c.n])) : Cw w B v (L ++ [c]) := by
 unfold Cw
 rw [crow_app, List.length_append]
 exact h
def cn0 : Cn := ⟨⟨#[]⟩, 0⟩
/-- Such a list, read. -/
theorem Cw.el {w : World} {B : Nat} {a : Option Addr} {n d : Nat} {L : List Cn} (h : Cw w B (.slice a n d) L) (hok : ∀ c ∈ L, CnOk c) : n = L.length ∧ EL w a L.length (fun i => L.getD i cn0) := by
 obtain ⟨a', d', e, hz⟩ := h.form
 obtain ⟨rfl, rfl, rfl⟩ : a = a' ∧ n = L.length ∧ d = d' := by cases e; exact ⟨rfl, rfl, rfl⟩
 refine ⟨rfl, fun i hi => ?_⟩
 have hg : L[i]? = some (L.getD i cn0) := by rw [List.getD_eq_getElem?_getD, List.getElem?_eq_getElem hi]; rfl
 obtain ⟨h0, h1⟩ := crow_get L i _ hg
 cases ha : a with
 | none => rw [ha] at hz; have := (hz rfl).1; omega
 | some x =>
  rw [ha] at h
  have hb : ∃ g, x = ⟨g, 0, none⟩ := by
   rcases h.2 with ⟨e, _⟩ | ⟨g, cap, cur, e, _⟩
   ·cases e
   ·cases e; exact ⟨g, rfl⟩
  obtain ⟨g, rfl⟩ := hb
  have hc : ∀ j u, (crow L)[j]? = some u → w.cell? ((⟨g, 0, none⟩ : Addr).add j) = some u := World.ownsRow.cells h (g := g) rfl
  refine ⟨hok _ (List.mem_of_getElem? hg), g, 0, rfl, ?_, ?_⟩
  ·have := hc _ _ h0
   rw [show (⟨g, 0, none⟩ : Addr).add (i * 2) = ⟨g, 0 + i * 2, none⟩ by unfold Addr.add; split <;> simp_all] at this
   exact this
  ·have := hc _ _ h1
   rw [show (⟨g, 0, none⟩ : Addr).add (i * 2 + 1) = ⟨g, 0 + i * 2 + 1, none⟩ by unfold Addr.add; split <;> simp_all] at this
   exact this
/-- The constants among the first n symbols. -/
def cst (F : Nat → Sy) : Nat → List Cn
 | 0 => []
 | n + 1 => cst F n ++ (if (F n).k = 1 then [⟨(F n).nm, (F n).n⟩] else [])
theorem qg4 (F : Nat → Sy) : ∀ n, (cst F n).length ≤ n := by
 intro n
 induction n with
 | zero => exact Nat.le_refl _
 | succ n ih =>
  show (cst F n ++ _).length ≤ _
  rw [List.length_append]
  split
  ·show _ + 1 ≤ _; omega
  ·show _ + 0 ≤ _; omega
theorem cst_ok {F : Nat → Sy} : ∀ n, (∀ i, i < n → SyOk (F i)) → ∀ c ∈ cst F n, CnOk c := by
 intro n
 induction n with
 | zero => intro _ c h; cases h
 | succ n ih =>
  intro hF c h
  rcases List.mem_append.1 h with h | h
  ·exact ih (fun i hi => hF i (by omega)) c h
  ·split at h
   ·have ok := hF n (by omega)
    rw [List.mem_singleton.1 h]
    exact ⟨ok.nm47, ok.n1, ok.n2⟩
   ·cases h
theorem jcnst : (Tryd.prog.info? 42).map (fun i => (i.zero, i.size, i.bytes)) = some (some (.agg #[.string ⟨#[]⟩, .int .i64 0]), 2, 24) := by kernel_rfl
/-- The program's Env. -/
theorem penv (w : World) (a : Option Addr) (n c : Nat) (F : Nat → Sy) (hF : SyL w a n F) (hn : n ≤ 4000000000000) :
  Calls Tryd.prog 15 #[.slice a n c] w fun e w' => (∃ v, e = .returned v ∧ Cw w' w.heap.size v (cst F n)) ∧ Below w.heap.size w w' := by
 have HF := qa0 hF
 obtain ⟨i0, hi0, hz0, hz1, hz2⟩ := info_parts jcnst
 clear hF
 go_enter Tryd.func15, Tryd.ntmps15
 go_wp2
 go_loopw [3, 8] (fun v vi wr => ∃ (i : Nat) (L : List Cn), i ≤ n ∧ vi = .int .i64 (i : Int) ∧ Hid (cst F i = L) ∧ (∃ x d, v = .slice x L.length d) ∧ Cw wr w.heap.size v L ∧ L.length ≤ i ∧ Below w.heap.size w wr) (fun _ vi _ => n - (intOf vi).toNat)
 case atStart => exact ⟨0, [], by omega, rfl, rfl, ⟨none, 0, rfl⟩, Cw.nil _ _, Nat.le_refl _, Below.refl _ _⟩
 case round =>
  obtain ⟨i, L, hi, rfl, HL, ⟨x, d, rfl⟩, hw, hlen, hb⟩ := hrel
  have HW := qa0 hw
  have HB := qa0 hb
  clear hw
  by_cases hlt : i < n
  ·have p0 : (0 : Int) ≤ (i : Int) := by omega
   have p1 : (i : Int) < (n : Int) := by omega
   obtain ⟨ok, b, o, rfl, t0, t1, t2, t3⟩ := (HF.out.later hb) i hlt
   obtain ⟨y, Hy⟩ : ∃ y, Hid (F i = y) := ⟨_, rfl⟩
   rw [Hy.out] at t0 t1 t2 t3
   obtain ⟨nm, k, it, nn⟩ := y
   dsimp only at t0 t1 t2 t3
   have M1 : True := trivial
   by_cases hk : k = 1
   ·have HL2 : Hid (cst F (i + 1) = L ++ [⟨nm, nn⟩]) := by
     show cst F i ++ (if (F i).k = 1 then _ else _) = _
     rw [HL.out, Hy.out, if_pos hk]
    have q0 : ((k : Int) == 1) = true := by simp; omega
    clear hk hb ok
    go_wp2_with (first
     | (clear M1; refine qa1 rfl 35 _ _ rfl wr.heap.size _ #[.string nm, .int .u8 (k : Int), .int .i64 it, .int .i64 nn] rfl rfl (Vn.new wr _ _) sizeSy rfl (qbq rfl rfl rfl rfl) ?_; intro w2 HW2 hg2; have hb2 : Below wr.heap.size wr w2 := (jlow _ _).trans (jbelow hg2.out (jlow _ _).size (fun g e => by cases e; exact Nat.le_refl _)); have HB2 := qa0 (jtwo HB.out hb2); have HC2 := qa0 (HW.out.later hb2); have x0 := HW2.out.cell 0 _ rfl; have x1 := HW2.out.cell 1 _ rfl; have x2 := HW2.out.cell 2 _ rfl; have x3 := HW2.out.cell 3 _ rfl; clear hg2 hb2)
     | (at_builtin; refine wpList_append_own _ rfl _ _ 38 rfl w.heap.size 42 i0 (.agg #[.string ⟨#[]⟩, .int .i64 0]) 2 24 Tryd.underlying38 hi0 hz0 hz1 hz2 rfl (by decide) _ L.length _ rfl (HC2.out.later (jlow _ _)) ⟨w2.heap.size, 0, none⟩ 1 1 [.string nm, .int .i64 nn] rfl rfl (qax _ _ _) (by intro u hu; simp at hu; rcases hu with rfl | rfl <;> rfl) (by unfold maxLen; omega) (by omega) (by have := HB2.out.size; simp; omega) ?_; intro v' w6 hown' hgrow' _; have HT6 : Hid (Cw w6 w.heap.size v' (L ++ [⟨nm, nn⟩])) := Cw.push hown'; have HB6 : Hid (Below w.heap.size w w6) := (HB2.out.trans ((jlow _ _).mono HB2.out.size)).trans (jbelow hgrow' (by have := HB2.out.size; simp; omega) (fun g hg => (HC2.out.base hg).1)); clear hown' hgrow'))
    obtain ⟨x', d', rfl, _⟩ := HT6.out.form
    exact ⟨⟨i + 1, _, by omega, by go_num, HL2, ⟨x', d', rfl⟩, HT6.out, by rw [List.length_append]; show _ + 1 ≤ _; omega, HB6.out⟩, by simp [intOf]; omega⟩
   ·have HL2 : Hid (cst F (i + 1) = L) := by
     show cst F i ++ (if (F i).k = 1 then _ else _) = _
     rw [HL.out, Hy.out, if_neg hk, List.append_nil]
    have q0 : ((k : Int) == 1) = false := by simp; omega
    clear hk hb ok
    go_wp2_with (clear M1; refine qa1 rfl 35 _ _ rfl wr.heap.size _ #[.string nm, .int .u8 (k : Int), .int .i64 it, .int .i64 nn] rfl rfl (Vn.new wr _ _) sizeSy rfl (qbq rfl rfl rfl rfl) ?_; intro w2 HW2 hg2; have hb2 : Below wr.heap.size wr w2 := (jlow _ _).trans (jbelow hg2.out (jlow _ _).size (fun g e => by cases e; exact Nat.le_refl _)); have HB2 := qa0 (jtwo HB.out hb2); have HC2 := qa0 (HW.out.later hb2); have x1 := HW2.out.cell 1 _ rfl; clear hg2 hb2)
    exact ⟨⟨i + 1, _, by omega, by go_num, HL2, ⟨x, d, rfl⟩, HC2.out, by omega, HB2.out⟩, by simp [intOf]; omega⟩
  ·obtain rfl : i = n := by omega
   clear hb
   go_wp2
   go_ret
   exact ⟨⟨_, rfl, by rw [HL.out]; exact HW.out⟩, HB.out⟩
open Go.RowKit
theorem qck {ops : Array Oper} {op : Oper} {a : Act} {w : World} {K : Act → World → Prop} {Q : Exit → Act → World → Prop} {E : Prop} (hgd : op.guard = none) (sl x : Operand) (ho : op.op = .call { callee := .builtin .append, args := #[sl, x], argTypes := #[38, 38] })
  (B : Nat) (v : Value) (L : List Cn) (c : Cn) (hs : a.eval sl = v) (hown : Cw w B v L) (ad : Addr) (hx : a.eval x = .slice (some ad) 1 1) (hc : ∀ j u, [Value.string c.nm, .int .i64 c.n][j]? = some u → w.cell? (ad.add j) = some u) (hlim : L.length ≤ 4000000000000) (hB : B ≤ w.heap.size)
  (h : ∀ v' w', Cw w' B v' (L ++ [c]) → w.grownBy w' v.ownBlock → Below B w w' → K (a.put op.dst v') w') : if Region.wanted op (yielded ops a.tmps) = true then Oper.wp Tryd.prog op a w K Q else E := by
 obtain ⟨i0, hi0, hz0, hz1, hz2⟩ := info_parts jcnst
 have hw : Region.wanted op (yielded ops a.tmps) = true := by simp [Region.wanted, hgd]
 rw [if_pos hw]
 refine wp_append_own w sl x 38 ho B 42 i0 (.agg #[.string ⟨#[]⟩, .int .i64 0]) 2 24 Tryd.underlying38 hi0 hz0 hz1 hz2 rfl (by decide) v L.length _ hs hown ad 1 1 [.string c.nm, .int .i64 c.n] hx rfl hc (by intro u hu; simp at hu; rcases hu with rfl | rfl <;> rfl) (by unfold maxLen; omega) (by omega) hB (fun v' w' h1 h2 _ => h v' w' (Cw.push h1) h2 (jbelow h2 hB (fun k hk => (hown.base hk).1)))
/-- The reference's Env. -/
theorem renv (w : World) (a : Option Addr) (n c : Nat) (F : Nat → Sy) (hF : SyL w a n F) (hn : n ≤ 4000000000000) :
  Calls Tryd.prog 16 #[.slice a n c] w fun e w' => (∃ v, e = .returned v ∧ Cw w' w.heap.size v (cst F n)) ∧ Below w.heap.size w w' := by
 have HF := qa0 hF
 clear hF
 go_enter Tryd.func16, Tryd.ntmps16
 go_wp2
 go_loopw [3, 4] (fun v vi wr => ∃ (i : Nat) (L : List Cn), i ≤ n ∧ vi = .int .i64 (i : Int) ∧ Hid (cst F i = L) ∧ (∃ x d, v = .slice x L.length d) ∧ Cw wr w.heap.size v L ∧ L.length ≤ i ∧ Below w.heap.size w wr) (fun _ vi _ => n - (intOf vi).toNat)
 case atStart => exact ⟨0, [], by omega, rfl, rfl, ⟨none, 0, rfl⟩, Cw.nil _ _, Nat.le_refl _, Below.refl _ _⟩
 case round =>
  obtain ⟨i, L, hi, rfl, HL, ⟨x, d, rfl⟩, hw, hlen, hb⟩ := hrel
  have HW := qa0 hw
  have HB := qa0 hb
  clear hw
  by_cases hlt : i < n
  ·have p0 : (0 : Int) ≤ (i : Int) := by omega
   have p1 : (i : Int) < (n : Int) := by omega
   obtain ⟨ok, b, o, rfl, z0, z1, z2, z3⟩ := HF.out i hlt
   obtain ⟨y, Hy⟩ : ∃ y, Hid (F i = y) := ⟨_, rfl⟩
   rw [Hy.out] at z0 z1 z2 z3
   obtain ⟨nm, k, it, nn⟩ := y
   dsimp only at z0 z1 z2 z3
   have t0 := cell_kept z0 hb
   have t1 := cell_kept z1 hb
   have t3 := cell_kept z3 hb
   by_cases hk : k = 1
   ·have HL2 : Hid (cst F (i + 1) = L ++ [⟨nm, nn⟩]) := by
     show cst F i ++ (if (F i).k = 1 then _ else _) = _
     rw [HL.out, Hy.out, if_pos hk]
    have q0 : ((k : Int) == 1) = true := by simp; omega
    clear hk hb ok
    go_wp2
    refine wp_region_held (S := fun w' => w'.cell? ⟨b, o + i * 4, none⟩ = some (.string nm) ∧ w'.cell? ⟨b, o + i * 4 + 3, none⟩ = some (.int .i64 nn)) (by kernel_rfl) ?_
    change wpAnyH _ _ _ _ _ _ _ _ (World.drew _)
    obtain ⟨wd, HWd⟩ : ∃ wd, Hid (wr.drew = wd) := ⟨_, rfl⟩
    have HBd : Hid (Below wr.heap.size wr wd) := by show Below _ _ _; rw [← HWd.out]; exact (Below.refl _ _).drew
    rw [HWd.out]
    clear HWd
    have HSd : Hid (wd.cell? ⟨b, o + i * 4, none⟩ = some (.string nm) ∧ wd.cell? ⟨b, o + i * 4 + 3, none⟩ = some (.int .i64 nn)) := ⟨cell_kept t0 HBd.out, cell_kept t3 HBd.out⟩
    have HB2 := qa0 (jtwo HB.out HBd.out)
    have HC2 := qa0 (HW.out.later HBd.out)
    refine wtkq 0 ?v0 rfl (by kernel_rfl) (fun _ _ _ h => h) (by rfl) ?y0 HSd.out ?z0
    case y0 => (intro wq hSw; (try dsimp only at hSw); obtain ⟨s1, s2⟩ := hSw; go_simp; try with_reducible rfl)
    try simp only [mz1, mz3, Act.put, mz4, mz5, mz6]
    refine wtkq 1 ?v1 rfl (by kernel_rfl) (fun _ _ _ h => h) (by rfl) ?y1 HSd.out ?z1
    case y1 => (intro wq hSw; (try dsimp only at hSw); obtain ⟨s1, s2⟩ := hSw; go_simp; try with_reducible rfl)
    try simp only [mz1, mz2, mz3, Act.put, mz4, mz5, mz6]
    refine wtkq 2 ?v2 rfl (by kernel_rfl) (fun _ _ _ h => h) (by rfl) ?y2 HSd.out ?z2
    case y2 => (intro wq hSw; (try dsimp only at hSw); obtain ⟨s1, s2⟩ := hSw; go_simp; try with_reducible rfl)
    try simp only [mz1, mz2, mz3, Act.put, mz4, mz5, mz6]
    refine wtkq 3 ?v3 rfl (by kernel_rfl) (fun _ _ _ h => h) (by rfl) ?y3 HSd.out ?z3
    case y3 => (intro wq hSw; (try dsimp only at hSw); obtain ⟨s1, s2⟩ := hSw; go_simp; try with_reducible rfl)
    try simp only [mz1, mz2, mz3, Act.put, mz4, mz5, mz6]
    refine wtkq 4 ?v4 rfl (by kernel_rfl) (fun _ _ _ h => h) (by rfl) ?y4 HSd.out ?z4
    case y4 => (intro wq hSw; (try dsimp only at hSw); obtain ⟨s1, s2⟩ := hSw; go_simp; try with_reducible rfl)
    try simp only [mz1, mz2, mz3, Act.put, mz4, mz5, mz6]
    refine wtkq 5 ?v5 rfl (by kernel_rfl) (fun _ _ _ h => h) (by rfl) ?y5 HSd.out ?z5
    case y5 => (intro wq hSw; (try dsimp only at hSw); obtain ⟨s1, s2⟩ := hSw; go_simp; try with_reducible rfl)
    try simp only [mz1, mz2, mz3, Act.put, mz4, mz5, mz6]
    refine wtkq 6 ?v6 rfl (by kernel_rfl) (fun _ _ _ h => h) (by rfl) ?y6 HSd.out ?z6
    case y6 => (intro wq hSw; (try dsimp only at hSw); obtain ⟨s1, s2⟩ := hSw; go_simp; try with_reducible rfl)
    try simp only [mz1, mz2, mz3, Act.put, mz4, mz5, mz6]
    refine wtkq 7 ?v7 rfl (by kernel_rfl) (fun _ _ _ h => h) (by rfl) ?y7 HSd.out ?z7
    case y7 => (intro wq hSw; (try dsimp only at hSw); obtain ⟨s1, s2⟩ := hSw; go_simp; try with_reducible rfl)
    try simp only [mz1, mz2, mz3, Act.put, mz4, mz5, mz6]
    refine wtkq 8 ?v8 rfl (by kernel_rfl) (fun _ _ _ h => h) (by rfl) ?y8 HSd.out ?z8
    case y8 => (intro wq hSw; (try dsimp only at hSw); obtain ⟨s1, s2⟩ := hSw; go_simp; try with_reducible rfl)
    try simp only [mz1, mz2, mz3, Act.put, mz4, mz5, mz6]
    refine wtkq 9 ?v9 rfl (by kernel_rfl) (fun _ _ _ h => h) (by rfl) ?y9 HSd.out ?z9
    case y9 => (intro wq hSw; (try dsimp only at hSw); obtain ⟨s1, s2⟩ := hSw; go_simp; try with_reducible rfl)
    try simp only [mz1, mz2, mz3, Act.put, mz4, mz5, mz6]
    refine wtkq 10 ?v10 rfl (by kernel_rfl) (fun _ _ _ h => h) (by rfl) ?y10 HSd.out ?z10
    case y10 => (intro wq hSw; (try dsimp only at hSw); obtain ⟨s1, s2⟩ := hSw; go_simp; try with_reducible rfl)
    try simp only [mz1, mz2, mz3, Act.put, mz4, mz5, mz6]
    refine wtkq 11 ?v11 rfl (by kernel_rfl) (fun _ _ _ h => h) (by rfl) ?y11 HSd.out ?z11
    case y11 => (intro wq hSw; (try dsimp only at hSw); obtain ⟨s1, s2⟩ := hSw; go_simp; try with_reducible rfl)
    try simp only [mz1, mz2, mz3, Act.put, mz4, mz5, mz6]
    refine wpAnyH_ready (rs := [12]) (by kernel_rfl) (by simp) ?_
    refine AllReadyH.cons rfl (fun KK hKK => ?_) AllReadyH.nil
    go_simp
    refine hKK.out _ _ ⟨cell_kept HSd.out.1 (jlow _ _), cell_kept HSd.out.2 (jlow _ _)⟩ (fun _ => ?_)
    clear hKK KK
    try simp only [mz1, mz2, mz3, Act.put, mz4, mz5, mz6]
    refine wpAnyH_ready (rs := [13]) (by kernel_rfl) (by simp) ?_
    refine AllReadyH.cons rfl (fun KK hKK => ?_) AllReadyH.nil
    refine qck rfl _ _ rfl w.heap.size _ L ⟨nm, nn⟩ rfl (HC2.out.later (jlow _ _)) ⟨wd.heap.size, 0, none⟩ rfl (qax _ _ _) (by omega) (by have := HB2.out.size; simp; omega) ?_
    intro v' w6 hT6 hG6 hb6
    have HT6 := qa0 hT6
    have HB6 := qa0 ((HB2.out.trans ((jlow _ _).mono HB2.out.size)).trans hb6)
    obtain ⟨x', d', rfl, _⟩ := hT6.form
    have HSe : Hid (w6.cell? ⟨b, o + i * 4, none⟩ = some (.string nm) ∧ w6.cell? ⟨b, o + i * 4 + 3, none⟩ = some (.int .i64 nn)) := ⟨cell_kept z0 HB6.out, cell_kept z3 HB6.out⟩
    refine hKK.out _ _ HSe.out (fun _ => ?_)
    clear hKK KK
    try simp only [mz1, mz2, mz3, Act.put, mz4, mz5, mz6]
    refine wtkq 14 ?v14 rfl (by kernel_rfl) (fun _ _ _ h => h) (by rfl) ?y14 HSe.out ?z14
    case y14 => (intro wq hSw; (try dsimp only at hSw); go_simp; try with_reducible rfl)
    try simp only [mz1, mz2, mz3, Act.put, mz4, mz5, mz6]
    refine wpAnyH_done (by kernel_rfl) ?_ _
    try simp only [mz1, mz2, mz3, Act.put, mz4, mz5, mz6]
    go_wp2
    have hl1 : (L ++ [(⟨nm, nn⟩ : Cn)]).length = L.length + 1 := by rw [List.length_append]; rfl
    have HT7 : Hid (Cw w6 w.heap.size (.slice x' (L.length + 1) d') (L ++ [⟨nm, nn⟩])) := by have h := HT6.out; rw [hl1] at h; exact h
    exact ⟨⟨i + 1, _, by omega, by go_num, HL2, ⟨x', d', by rw [hl1]⟩, HT7.out, by rw [List.length_append]; show _ + 1 ≤ _; omega, HB6.out⟩, by simp [intOf]; omega⟩
   ·have HL2 : Hid (cst F (i + 1) = L) := by
     show cst F i ++ (if (F i).k = 1 then _ else _) = _
     rw [HL.out, Hy.out, if_neg hk, List.append_nil]
    have q0 : ((k : Int) == 1) = false := by simp; omega
    clear hk hb ok
    go_wp2
    exact ⟨⟨i + 1, _, by omega, by go_num, HL2, ⟨x, d, rfl⟩, HW.out, by omega, HB.out⟩, by simp [intOf]; omega⟩
  ·obtain rfl : i = n := by omega
   clear hb
   go_wp2
   go_ret
   exact ⟨⟨_, rfl, by rw [HL.out]; exact HW.out⟩, HB.out⟩
end Go.Proofs.YtemhodenkgngmaaDoor
