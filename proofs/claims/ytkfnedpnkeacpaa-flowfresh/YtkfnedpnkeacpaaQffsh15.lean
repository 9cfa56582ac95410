/-
  Stage 21: lists of terms and of nodes of the call's own; termsOfRow.
-/
import Derived.Test.YtkfnedpnkeacpaaQffsh00
import Derived.Test.YtkfnedpnkeacpaaQffsh14
set_option maxRecDepth 100000
set_option maxHeartbeats 16000000
namespace Go.Proofs.Ytkfnedpnkeacpaa
open Go.RowKit
abbrev Trm := Int × Nat
/-- The cells of some terms. -/
def trow (L : List Trm) : List Value := L.flatMap (fun c => [.int .i64 c.1, .int .u8 (c.2 : Int)])
theorem trow_app (L M : List Trm) : trow (L ++ M) = trow L ++ trow M := by unfold trow; rw [List.flatMap_append]
theorem qbq : ∀ (L : List Trm) (i : Nat) (c : Trm), L[i]? = some c → (trow L)[i * 2]? = some (.int .i64 c.1) ∧ (trow L)[i * 2 + 1]? = some (.int .u8 (c.2 : Int)) := by
 intro L
 induction L with
 | nil => intro i c h; cases h
 | cons x L ih =>
  intro i c h
  cases i with
  | zero => cases h; exact ⟨rfl, rfl⟩
  | succ i =>
   have h2 : L[i]? = some c := by simpa using h
   obtain ⟨h3, h4⟩ := ih i c h2
   have e : (i + 1) * 2 = i * 2 + 1 + 1 := by omega
   rw [e]
   exact ⟨h3, h4⟩
/-- A list of terms of the call's own. -/
def Tw (w : World) (B : Nat) (v : Value) (L : List Trm) : Prop := w.ownsRow B 61 2 v L.length (trow L)
theorem Tw.nil (w : World) (B : Nat) : Tw w B (.slice none 0 0) [] := World.ownsRow_nil _ _ _ _
theorem Tw.later {w w' : World} {B : Nat} {v : Value} {L : List Trm} (h : Tw w B v L) (hb : Below w.heap.size w w') : Tw w' B v L := World.ownsRow.kept h (jgrown.mpr hb) (by cases hv : v.ownBlock <;> simp)
theorem Tw.kept {w w' : World} {B : Nat} {v : Value} {L : List Trm} {row : Option Nat} (h : Tw w B v L) (hg : w.grownBy w' row) (hne : v.ownBlock = none ∨ v.ownBlock ≠ row) : Tw w' B v L := World.ownsRow.kept h hg hne
theorem Tw.mono {w : World} {B B' : Nat} {v : Value} {L : List Trm} (h : Tw w B v L) (hB : B' ≤ B) : Tw w B' v L := by
 refine ⟨h.1, ?_⟩
 rcases h.2 with h0 | ⟨g, cap, cur, e1, hb, r⟩
 ·exact .inl h0
 ·exact .inr ⟨g, cap, cur, e1, by omega, r⟩
theorem Tw.form {w : World} {B : Nat} {v : Value} {L : List Trm} (h : Tw w B v L) : ∃ a d, v = .slice a L.length d ∧ (a = none → L.length = 0 ∧ d = 0) := by
 rcases h.2 with ⟨e, h0⟩ | ⟨g, cap, cur, e, _⟩
 ·exact ⟨none, 0, by rw [e, h0], fun _ => ⟨h0, rfl⟩⟩
 ·exact ⟨_, _, e, fun x => by cases x⟩
theorem Tw.base {w : World} {B : Nat} {v : Value} {L : List Trm} (h : Tw w B v L) {g : Nat} (hg : v.ownBlock = some g) : B ≤ g ∧ g < w.heap.size := by
 rcases h.2 with ⟨e, _⟩ | ⟨g', cap, cur, e, hB, hb, _⟩
 ·rw [e] at hg; simp [Value.ownBlock] at hg
 ·rw [e] at hg; simp [Value.ownBlock] at hg; subst hg; exact ⟨hB, lt_of_block hb⟩
theorem Tw.push {w : World} {B : Nat} {v : Value} {L : List Trm} {c : Trm} (h : w.ownsRow B 61 2 v (L.length + 1) (trow L ++ [.int .i64 c.1, .int .u8 (c.2 : Int)])) : Tw w B v (L ++ [c]) := by
 unfold Tw
 rw [trow_app, List.length_append]
 exact h
theorem addf (g i : Nat) : (⟨g, 0, none⟩ : Addr).add i = ⟨g, 0 + i, none⟩ := by unfold Addr.add; split <;> simp_all
/-- Such a list, read. -/
theorem Tw.tml {w : World} {B : Nat} {a : Option Addr} {n d : Nat} {L : List Trm} (h : Tw w B (.slice a n d) L) (hok : ∀ c ∈ L, c.2 < 256) : n = L.length ∧ Tml w a L.length (fun i => (L.getD i (0, 0)).1) (fun i => (L.getD i (0, 0)).2) := by
 obtain ⟨a', d', e, hz⟩ := h.form
 obtain ⟨rfl, rfl, rfl⟩ : a = a' ∧ n = L.length ∧ d = d' := by cases e; exact ⟨rfl, rfl, rfl⟩
 refine ⟨rfl, fun i hi => ?_⟩
 have hg : L[i]? = some (L.getD i (0, 0)) := by rw [List.getD_eq_getElem?_getD, List.getElem?_eq_getElem hi]; rfl
 obtain ⟨h0, h1⟩ := qbq L i _ hg
 cases ha : a with
 | none => rw [ha] at hz; have := (hz rfl).1; omega
 | some x =>
  rw [ha] at h
  have hb : ∃ g, x = ⟨g, 0, none⟩ := by
   rcases h.2 with ⟨e, _⟩ | ⟨g, cap, cur, e, _⟩
   ·cases e
   ·cases e; exact ⟨g, rfl⟩
  obtain ⟨g, rfl⟩ := hb
  have hc : ∀ j u, (trow L)[j]? = some u → w.cell? ((⟨g, 0, none⟩ : Addr).add j) = some u := World.ownsRow.cells h (g := g) rfl
  refine ⟨hok _ (List.mem_of_getElem? hg), g, 0, rfl, ?_, ?_⟩
  ·have := hc _ _ h0
   rw [addf] at this
   exact this
  ·have := hc _ _ h1
   rw [addf] at this
   exact this
/-- A list of nodes of the call's own. -/
def Nw (w : World) (B : Nat) (v : Value) (N : List (List Trm)) : Prop := ∃ vs : List Value, w.ownsRow B 59 1 v N.length vs ∧ ∀ (i : Nat) (L : List Trm), N[i]? = some L → ∃ u, vs[i]? = some u ∧ Tw w B u L
theorem Nw.nil (w : World) (B : Nat) : Nw w B (.slice none 0 0) [] := ⟨[], World.ownsRow_nil _ _ _ _, fun i L h => by simp at h⟩
theorem Nw.later {w w' : World} {B : Nat} {v : Value} {N : List (List Trm)} (h : Nw w B v N) (hb : Below w.heap.size w w') : Nw w' B v N := by
 obtain ⟨vs, h1, h2⟩ := h
 refine ⟨vs, World.ownsRow.kept h1 (jgrown.mpr hb) (by cases hv : v.ownBlock <;> simp), fun i L hi => ?_⟩
 obtain ⟨u, hu, ht⟩ := h2 i L hi
 exact ⟨u, hu, ht.later hb⟩
theorem qd7 {w : World} {B : Nat} {e : TypeId} {s : Nat} {v : Value} {n g : Nat} {xs : List Value} (h : w.ownsRow B e s v n xs) (hg : v.ownBlock = some g) : ∃ cur, w.heap[g]? = some (.cells cur e (0, 0)) := by
 rcases h.2 with ⟨e1, _⟩ | ⟨g', cap, cur, e1, hb, hg', r⟩
 ·rw [e1] at hg; simp [Value.ownBlock] at hg
 ·rw [e1] at hg
  have : g' = g := by simpa [Value.ownBlock] using hg
  subst this
  exact ⟨cur, hg'⟩
theorem qat {w : World} {B B' : Nat} {e e' : TypeId} {s s' : Nat} {v v' : Value} {n n' : Nat} {xs xs' : List Value} (h : w.ownsRow B e s v n xs) (h' : w.ownsRow B' e' s' v' n' xs') (hne : e ≠ e') : v.ownBlock = none ∨ v.ownBlock ≠ v'.ownBlock := by
 cases hv : v.ownBlock with
 | none => exact .inl rfl
 | some g =>
  refine .inr fun e2 => ?_
  obtain ⟨c1, h1⟩ := qd7 h hv
  obtain ⟨c2, h2⟩ := qd7 h' e2.symm
  rw [h1] at h2
  have := Option.some.inj h2
  injection this with _ h3
  exact hne h3
theorem Nw.kept {w w' : World} {B : Nat} {v : Value} {N : List (List Trm)} {B2 : Nat} {e : TypeId} {s : Nat} {u : Value} {m : Nat} {ys : List Value} (h : Nw w B v N) (hu : w.ownsRow B2 e s u m ys) (hg : w.grownBy w' u.ownBlock) (h1 : 59 ≠ e) (h2 : 61 ≠ e) : Nw w' B v N := by
 obtain ⟨vs, k1, k2⟩ := h
 refine ⟨vs, World.ownsRow.kept k1 hg (qat k1 hu h1), fun i L hi => ?_⟩
 obtain ⟨x, hx, ht⟩ := k2 i L hi
 exact ⟨x, hx, ht.kept hg (qat ht hu h2)⟩
theorem Nw.push {w w' : World} {B : Nat} {v v' u : Value} {N : List (List Trm)} {L : List Trm} (h : Nw w B v N) (hu : Tw w B u L)
  (ho : ∀ vs : List Value, w.ownsRow B 59 1 v N.length vs → w'.ownsRow B 59 1 v' (N.length + 1) (vs ++ [u]) ∧ w.grownBy w' v.ownBlock) : Nw w' B v' (N ++ [L]) := by
 obtain ⟨vs, k1, k2⟩ := h
 obtain ⟨o1, o2⟩ := ho vs k1
 have hl : vs.length = N.length := by have := k1.1; rw [Nat.mul_one] at this; exact this
 refine ⟨vs ++ [u], by rw [List.length_append]; exact o1, fun i M hi => ?_⟩
 by_cases hlt : i < N.length
 ·rw [List.getElem?_append_left hlt] at hi
  obtain ⟨x, hx, ht⟩ := k2 i M hi
  exact ⟨x, by rw [List.getElem?_append_left (by omega)]; exact hx, ht.kept o2 (qat ht k1 (by decide))⟩
 ·rw [List.getElem?_append_right (by omega)] at hi
  have h0 : i - N.length = 0 := by
   cases hk : i - N.length with
   | zero => rfl
   | succ k => rw [hk] at hi; simp at hi
  rw [h0] at hi
  obtain rfl : L = M := by simpa using hi
  exact ⟨u, by rw [List.getElem?_append_right (by omega), hl, h0]; rfl, hu.kept o2 (qat hu k1 (by decide))⟩
/-- Such a list, read. -/
theorem Nw.ndl {w : World} {B : Nat} {a : Option Addr} {n d : Nat} {N : List (List Trm)} (h : Nw w B (.slice a n d) N) (hok : ∀ L ∈ N, L.length ≤ 140737488351232 ∧ ∀ c ∈ L, c.2 < 256) : n = N.length ∧ Ndl w a N.length (fun i => (N.getD i []).length) (fun i j => ((N.getD i []).getD j (0, 0)).1) (fun i j => ((N.getD i []).getD j (0, 0)).2) := by
 obtain ⟨vs, k1, k2⟩ := h
 have hn : n = N.length := by
  rcases k1.2 with ⟨e, h0⟩ | ⟨g, cap, cur, e, _⟩
  ·cases e; exact h0.symm
  ·cases e; rfl
 refine ⟨hn, fun i hi => ?_⟩
 have hg : N[i]? = some (N.getD i []) := by rw [List.getD_eq_getElem?_getD, List.getElem?_eq_getElem hi]; rfl
 obtain ⟨u, hu, ht⟩ := k2 i _ hg
 obtain ⟨t, dd, rfl, _⟩ := ht.form
 have ok := hok _ (List.mem_of_getElem? hg)
 rcases k1.2 with ⟨e, h0⟩ | ⟨g, cap, cur, e, _⟩
 ·omega
 ·cases e
  have hc : ∀ j u, vs[j]? = some u → w.cell? ((⟨g, 0, none⟩ : Addr).add j) = some u := World.ownsRow.cells k1 (g := g) rfl
  have := hc _ _ hu
  rw [addf] at this
  exact ⟨ok.1, g, 0, t, dd, rfl, this, (ht.tml ok.2).2⟩
theorem jtrm : (Try.prog.info? 61).map (fun i => (i.zero, i.size, i.bytes)) = some (some (.agg #[.int .i64 0, .int .u8 0]), 2, 16) := by kernel_rfl
theorem jsli : (Try.prog.info? 59).map (fun i => (i.zero, i.size, i.bytes)) = some (some (.slice none 0 0), 1, 24) := by kernel_rfl
theorem two_new (w : World) (t : TypeId) (x y : Value) : ∀ j u, [x, y][j]? = some u → (w.alloc (.cells #[x, y] t)).cell? ((⟨w.heap.size, 0, none⟩ : Addr).add j) = some u := by
 intro j u hj
 match j, hj with
 | 0, hj => simp at hj; subst hj; simp [Addr.add]
 | 1, hj => simp at hj; subst hj; simp [Addr.add]
theorem qap (w : World) (t : TypeId) (x : Value) : ∀ j u, [x][j]? = some u → (w.alloc (.cells #[x] t)).cell? ((⟨w.heap.size, 0, none⟩ : Addr).add j) = some u := by
 intro j u hj
 match j, hj with
 | 0, hj => simp at hj; subst hj; simp [Addr.add]
/-- The terms of a row: for each input its element, where that is not 0. -/
def tof (R : Nat → Nat) (f : Nat → Nat) : Nat → List Trm
 | 0 => []
 | i + 1 => tof R f i ++ (if R (f i) = 0 then [] else [((i : Int), R (f i))])
theorem tof_len (R f : Nat → Nat) : ∀ n, (tof R f n).length ≤ n := by
 intro n
 induction n with
 | zero => exact Nat.le_refl _
 | succ n ih =>
  show (tof R f n ++ _).length ≤ _
  rw [List.length_append]
  split
  ·show _ + 0 ≤ _; omega
  ·show _ + 1 ≤ _; omega
theorem tof_ok {R f : Nat → Nat} : ∀ n, (∀ i, i < n → R (f i) < 256) → ∀ c ∈ tof R f n, c.2 < 256 := by
 intro n
 induction n with
 | zero => intro _ c h; cases h
 | succ n ih =>
  intro hF c h
  rcases List.mem_append.1 h with h | h
  ·exact ih (fun i hi => hF i (by omega)) c h
  ·split at h
   ·cases h
   ·rw [List.mem_singleton.1 h]; exact hF n (by omega)
theorem qdt (w : World) (a b : Option Addr) (n p m q : Nat) (R f : Nat → Nat) (ha : Sl w a n R) (hb : Jl w b .i64 m (fun i => (f i : Int))) (hf : ∀ i, i < m → f i < n) (hm : m ≤ 64) :
  Calls Try.prog 32 #[.slice a n p, .slice b m q] w fun e w' => ∃ v, e = .returned v ∧ Tw w' w.heap.size v (tof R f m) ∧ Below w.heap.size w w' := by
 obtain ⟨i0, hi0, hz0, hz1, hz2⟩ := info_parts jtrm
 have HA := qa0 ha
 have HJ := qa0 hb
 have HF := qa0 hf
 clear ha hb hf
 go_enter Try.func32, Try.ntmps32
 go_wp2
 go_loopw [5, 10] (fun v vi wr => ∃ (i : Nat) (L : List Trm), i ≤ m ∧ vi = .int .i64 (i : Int) ∧ Hid (tof R f i = L) ∧ Tw wr w.heap.size v L ∧ L.length ≤ i ∧ Below w.heap.size w wr) (fun _ vi _ => m - (intOf vi).toNat)
 case atStart => exact ⟨0, [], by omega, rfl, rfl, Tw.nil _ _, Nat.le_refl _, Below.refl _ _⟩
 case round =>
  obtain ⟨i, L, hi, rfl, HL, hw, hlen, hbb⟩ := hrel
  obtain ⟨x, d, rfl, _⟩ := hw.form
  have HW := qa0 hw
  have HB := qa0 hbb
  have hwsz := hbb.size
  clear hw
  by_cases hlt : i < m
  ·obtain ⟨y, HY⟩ : ∃ y, Hid (f i = y) := ⟨_, rfl⟩
   have hy : y < n := by rw [← HY.out]; exact HF.out i hlt
   obtain ⟨z, HZ⟩ : ∃ z, Hid (R y = z) := ⟨_, rfl⟩
   obtain ⟨bj, oj, rfl, hcj⟩ := (HJ.out.later hbb) i hlt
   obtain ⟨br, orr, rfl, hcr⟩ := (HA.out.later hbb).2 y hy
   dsimp only at hcj
   rw [HY.out] at hcj
   rw [HZ.out] at hcr
   have p0 : (0 : Int) ≤ (i : Int) := by omega
   have p1 : (i : Int) < (m : Int) := by omega
   have q0 : (0 : Int) ≤ (y : Int) := by omega
   have q1 : (y : Int) < (n : Int) := by omega
   clear hbb
   by_cases hz : z = 0
   ·subst hz
    have HL2 : Hid (tof R f (i + 1) = L) := by
     show tof R f i ++ (if R (f i) = 0 then _ else _) = _
     rw [HL.out, HY.out, HZ.out, if_pos rfl, List.append_nil]
    go_wp2
    exact ⟨⟨i + 1, L, by omega, by go_num, HL2, HW.out, by omega, HB.out⟩, by simp [intOf]; omega⟩
   ·have g1 : ((z : Int) == 0) = false := by simpa using hz
    have g2 : ((z : Int) != 0) = true := by simpa using hz
    have HL2 : Hid (tof R f (i + 1) = L ++ [((i : Int), z)]) := by
     show tof R f i ++ (if R (f i) = 0 then _ else _) = _
     rw [HL.out, HY.out, HZ.out, if_neg hz]
    have hml : L.length + 1 ≤ maxLen := by unfold maxLen; omega
    clear hz
    go_wp2_with (at_builtin; refine wpList_append_own _ rfl _ _ 59 rfl w.heap.size 61 i0 (.agg #[.int .i64 0, .int .u8 0]) 2 16 Try.underlying59 hi0 hz0 hz1 hz2 rfl (by decide) _ L.length _ rfl (HW.out.later (jlow _ _)) ⟨wr.heap.size, 0, none⟩ 1 1 [.int .i64 (i : Int), .int .u8 (z : Int)] rfl rfl (two_new _ _ _ _) (by intro u hu; simp at hu; rcases hu with rfl | rfl <;> rfl) hml (by omega) (by simp; omega) ?_; intro v' w6 hown' hgrow' _; have HT6 : Hid (Tw w6 w.heap.size v' (L ++ [((i : Int), z)])) := Tw.push hown'; have HB6 : Hid (Below w.heap.size w w6) := (HB.out.trans ((jlow _ _).mono HB.out.size)).trans (jbelow hgrow' (by have := HB.out.size; simp; omega) (fun g hg => (HW.out.base hg).1)); clear hown' hgrow')
    exact ⟨⟨i + 1, _, by omega, by go_num, HL2, HT6.out, by rw [List.length_append]; show _ + 1 ≤ _; omega, HB6.out⟩, by simp [intOf]; omega⟩
  ·obtain rfl : i = m := by omega
   clear hbb
   go_wp2
   go_ret
   exact ⟨_, rfl, by rw [HL.out]; exact HW.out, HB.out⟩
end Go.Proofs.Ytkfnedpnkeacpaa
