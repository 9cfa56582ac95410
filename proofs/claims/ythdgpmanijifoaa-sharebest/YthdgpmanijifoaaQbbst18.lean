/-
  Stage 21: flows in memory; mayBeInputs, mayBeTerms, valueCount.
-/
import Derived.Test.YthdgpmanijifoaaQbbst00
import Derived.Test.YthdgpmanijifoaaQbbst09
import Derived.Test.YthdgpmanijifoaaQbbst11
import Derived.Test.YthdgpmanijifoaaQbbst17
import Derived.Deep.LoopGhost
import Derived.Deep.QuietTactic
import Derived.BigQuiet
set_option maxRecDepth 100000
set_option maxHeartbeats 16000000
namespace Go.Proofs.Ythdgpmanijifoaa
open Go.RowKit
/-- A flow: inputs, nodes of terms, outs. -/
structure Fl where
 ni : Nat
 inp : Nat → Int
 nn : Nat
 nt : Nat → Nat
 of : Nat → Nat → Int
 fc : Nat → Nat → Nat
 no : Nat
 out : Nat → Int
/-- A flow as a value. -/
abbrev flv (a : Option Addr) (n p : Nat) (b : Option Addr) (m q : Nat) (c : Option Addr) (k r : Nat) : Value := .agg #[.slice a n p, .slice b m q, .slice c k r]
/-- A slice of terms. -/
def Tml (w : World) (t : Option Addr) (n : Nat) (f : Nat → Int) (g : Nat → Nat) : Prop := ∀ j, j < n → g j < 256 ∧ ∃ b o, t = some ⟨b, o, none⟩ ∧ w.cell? ⟨b, o + j * 2, none⟩ = some (.int .i64 (f j)) ∧ w.cell? ⟨b, o + j * 2 + 1, none⟩ = some (.int .u8 (g j : Nat))
theorem Tml.later {w w' : World} {t : Option Addr} {n : Nat} {f : Nat → Int} {g : Nat → Nat} (h : Tml w t n f g) (hb : Below w.heap.size w w') : Tml w' t n f g := fun j hj => by
 obtain ⟨h1, b, o, e, c0, c1⟩ := h j hj
 exact ⟨h1, b, o, e, by rw [hb.cell (p := ⟨b, _, none⟩) (qa2 c0)]; exact c0, by rw [hb.cell (p := ⟨b, _, none⟩) (qa2 c1)]; exact c1⟩
/-- A slice of nodes. -/
def Ndl (w : World) (b : Option Addr) (m : Nat) (nt : Nat → Nat) (f : Nat → Nat → Int) (g : Nat → Nat → Nat) : Prop := ∀ i, i < m → nt i ≤ 140737488351232 ∧ ∃ x o t d, b = some ⟨x, o, none⟩ ∧ w.cell? ⟨x, o + i, none⟩ = some (.slice t (nt i) d) ∧ Tml w t (nt i) (f i) (g i)
theorem Ndl.later {w w' : World} {b : Option Addr} {m : Nat} {nt : Nat → Nat} {f : Nat → Nat → Int} {g : Nat → Nat → Nat} (h : Ndl w b m nt f g) (hb : Below w.heap.size w w') : Ndl w' b m nt f g := fun i hi => by
 obtain ⟨h1, x, o, t, d, e, c, ht⟩ := h i hi
 exact ⟨h1, x, o, t, d, e, by rw [hb.cell (p := ⟨x, _, none⟩) (qa2 c)]; exact c, ht.later hb⟩
/-- A flow's lists read as F. -/
structure FlR (w : World) (a b c : Option Addr) (F : Fl) : Prop where
 hi : F.ni ≤ 140737488351232
 hn : F.nn ≤ 140737488351232
 ho : F.no ≤ 140737488351232
 inp : Jl w a .i64 F.ni F.inp
 nodes : Ndl w b F.nn F.nt F.of F.fc
 outs : Jl w c .i64 F.no F.out
theorem FlR.later {w w' : World} {a b c : Option Addr} {F : Fl} (h : FlR w a b c F) (hb : Below w.heap.size w w') : FlR w' a b c F :=
 ⟨h.hi, h.hn, h.ho, h.inp.later hb, h.nodes.later hb, h.outs.later hb⟩
/-- Inputs may be. -/
def InP (n : Nat) (q : Nat → Int) : Prop := ∀ i, i < n → 0 ≤ q i ∧ q i < 64 ∧ (0 < i → q (i - 1) < q i)
/-- Terms may be those of the node with the number m. -/
def TmP (m : Int) (n : Nat) (f : Nat → Int) (g : Nat → Nat) : Prop := ∀ j, j < n → g j ≠ 0 ∧ 0 ≤ f j ∧ f j < m ∧ (0 < j → f (j - 1) < f j)
/-- A flow may be. -/
structure MayP (F : Fl) : Prop where
 n4 : F.nn ≤ 4096
 o64 : F.no ≤ 64
 inp : InP F.ni F.inp
 nodes : ∀ i, i < F.nn → TmP ((F.ni : Int) + (i : Int)) (F.nt i) (F.of i) (F.fc i)
 outs : ∀ i, i < F.no → 0 ≤ F.out i ∧ F.out i < (F.ni : Int) + (F.nn : Int)
/-- A bool is answered: whether P holds. -/
def AnsB (e : Ending) (P : Prop) : Prop := ∃ s, e = .returned (.bool s) ∧ (s = true ↔ P)
theorem AnsB.no {P : Prop} (h : ¬ P) : AnsB (.returned (.bool false)) P := ⟨false, rfl, fun h => (by cases h), fun hp => absurd hp h⟩
theorem AnsB.yes {P : Prop} (h : P) : AnsB (.returned (.bool true)) P := ⟨true, rfl, fun _ => h, fun _ => rfl⟩
theorem AnsB.use {e : Ending} {P : Prop} (h : AnsB e P) : (P ∧ e = .returned (.bool true)) ∨ (¬ P ∧ e = .returned (.bool false)) := by
 obtain ⟨s, rfl, hs⟩ := h
 cases s with
 | true => exact .inl ⟨hs.1 rfl, rfl⟩
 | false => exact .inr ⟨fun hp => (by have := hs.2 hp; cases this), rfl⟩
theorem AnsB.iff {e : Ending} {P Q : Prop} (h : AnsB e P) (hi : P ↔ Q) : AnsB e Q := by
 obtain ⟨s, rfl, hs⟩ := h
 exact ⟨s, rfl, hs.trans hi⟩
theorem qa0 {p : Prop} (h : p) : Hid p := h
def lst0 (q : Nat → Int) (i : Nat) : Int := if i = 0 then -1 else q (i - 1)
theorem qb6 (q : Nat → Int) (i : Nat) : lst0 q (i + 1) = q i := by simp [lst0]
theorem InP.step {q : Nat → Int} {i : Nat} (h : InP i q) (h1 : ¬ q i ≤ lst0 q i) (h2 : ¬ 64 ≤ q i) : InP (i + 1) q := fun j hj => by
 by_cases e : j = i
 ·subst e
  unfold lst0 at h1
  by_cases e0 : j = 0
  ·subst e0
   simp at h1
   exact ⟨by omega, by omega, fun h => by omega⟩
  ·rw [if_neg e0] at h1
   have := (h (j - 1) (by omega)).1
   exact ⟨by omega, by omega, fun _ => by omega⟩
 ·exact h j (by omega)
theorem InP.bad1 {n : Nat} {q : Nat → Int} {i : Nat} (hi : i < n) (h1 : q i ≤ lst0 q i) : ¬ InP n q := fun h => by
 have := h i hi
 unfold lst0 at h1
 by_cases e0 : i = 0
 ·rw [if_pos e0] at h1; omega
 ·rw [if_neg e0] at h1
  have := this.2.2 (by omega)
  omega
theorem InP.bad2 {n : Nat} {q : Nat → Int} {i : Nat} (hi : i < n) (h1 : 64 ≤ q i) : ¬ InP n q := fun h => by
 have := h i hi
 omega
theorem qbm (w : World) (a : Option Addr) (n p : Nat) (q : Nat → Int) (hq : Jl w a .i64 n q) (hn : n ≤ 140737488351232) :
  Calls Try.prog 34 #[.slice a n p] w fun e w' => AnsB e (InP n q) ∧ w = w' := by
 have HQ := qa0 hq
 clear hq
 go_enter Try.func34, Try.ntmps34
 go_wp2
 go_loopw [3, 8] (fun la vi wr => ∃ i : Nat, i ≤ n ∧ vi = .int .i64 (i : Int) ∧ la = .int .i64 (lst0 q i) ∧ InP i q ∧ w = wr) (fun _ vi _ => n - (intOf vi).toNat)
 case atStart => exact ⟨0, by omega, rfl, rfl, fun j hj => by omega, rfl⟩
 case round =>
  obtain ⟨i, hi, rfl, rfl, hp, rfl⟩ := hrel
  have HP := qa0 hp
  clear hp
  by_cases hlt : i < n
  ·obtain ⟨x, o, rfl, hc⟩ := HQ.out i hlt
   obtain ⟨y, HY⟩ : ∃ y, Hid (q i = y) := ⟨_, rfl⟩
   obtain ⟨l, HL⟩ : ∃ l, Hid (lst0 q i = l) := ⟨_, rfl⟩
   rw [HY.out] at hc
   rw [HL.out]
   have p0 : (0 : Int) ≤ (i : Int) := by omega
   have p1 : (i : Int) < (n : Int) := by omega
   by_cases h1 : y ≤ l
   ·go_wp2
    go_ret
    exact ⟨AnsB.no (InP.bad1 hlt (by rw [HY.out, HL.out]; exact h1)), rfl⟩
   ·by_cases h2 : 64 ≤ y
    ·go_wp2
     go_ret
     exact ⟨AnsB.no (InP.bad2 hlt (by rw [HY.out]; exact h2)), rfl⟩
    ·go_wp2
     exact ⟨⟨i + 1, by omega, by go_num, by rw [qb6, HY.out], HP.out.step (by rw [HY.out, HL.out]; exact h1) (by rw [HY.out]; exact h2), trivial⟩, by simp [intOf]; omega⟩
  ·obtain rfl : i = n := by omega
   go_wp2
   go_ret
   exact ⟨AnsB.yes HP.out, rfl⟩
/-- A variable of several cells. -/
def Vf (w : World) (b : Nat) (T : TypeId) (xs : Array Value) : Prop := w.heap[b]? = some (.cells xs T (0, 0))
theorem Vf.new (w : World) (T : TypeId) (xs : Array Value) : Vf (w.alloc (.cells xs T)) w.heap.size T xs := qar w _
theorem Vf.lt {w : World} {b : Nat} {T : TypeId} {xs : Array Value} (h : Vf w b T xs) : b < w.heap.size := lt_of_block h
theorem Vf.later {w w' : World} {b : Nat} {T : TypeId} {xs : Array Value} (h : Vf w b T xs) (hb : Below w.heap.size w w') : Vf w' b T xs := by unfold Vf; rw [hb.block b h.lt]; exact h
theorem Vf.under {w w' : World} {b B : Nat} {T : TypeId} {xs : Array Value} (h : Vf w b T xs) (hb : Below B w w') (hB : b < B) : Vf w' b T xs := by unfold Vf; rw [hb.block b hB]; exact h
theorem Vf.kept {w w' : World} {b : Nat} {g : Option Nat} {T : TypeId} {xs : Array Value} (h : Vf w b T xs) (hg : w.grownBy w' g) (hne : g ≠ some b) : Vf w' b T xs := by unfold Vf; rw [hg.block b h.lt (fun e => hne e.symm)]; exact h
theorem Vf.cell {w : World} {b : Nat} {T : TypeId} {xs : Array Value} (h : Vf w b T xs) (i : Nat) (v : Value) (hv : xs[i]? = some v) : w.cell? ⟨b, i, none⟩ = some v := by rw [cell_of_row w b i _ _ _ h]; exact hv
theorem Vf.free {w : World} {b : Nat} {T : TypeId} {xs : Array Value} (h : Vf w b T xs) (i : Nat) : w.frozen? ⟨b, i, none⟩ = false := by
 unfold Vf at h
 simp [World.frozen?, h]
theorem Vf.row {w : World} {b : Nat} {T : TypeId} {xs : Array Value} (h : Vf w b T xs) (ys : Array Value) : Vf (w.setRow b ys) b T ys := setRow_heap w b _ _ _ (0, 0) h
theorem Vf.put {w : World} {b : Nat} {T : TypeId} {xs : Array Value} (h : Vf w b T xs) (i : Nat) (v : Value) : Vf (w.setCell ⟨b, i, none⟩ v) b T (xs.setIfInBounds i v) := by
 unfold Vf at *
 rw [setCell_eq_setRow w b i _ _ (0, 0) _ h, setRow_heap w b _ _ _ (0, 0) h]
/-- A whole variable is written. -/
theorem qa1 {ops : Array Oper} {rest : List Oper} {op : Oper} {a : Act} {w : World} {Q : Exit → Act → World → Prop} (hgd : op.guard = none) (T : TypeId) (p q : Operand) (ho : op.op = .store T p q)
  (b : Nat) (xs ys : Array Value) (hp : a.eval p = .pointer (some ⟨b, 0, none⟩)) (hq : a.eval q = .agg ys) (hv : Vf w b T xs) (hi : (Try.prog.info? T).map (·.size) = some ys.size) (hsz : xs.size = ys.size) (h1 : ys.all (·.oneCell') = true)
  (h : ∀ w', Hid (Vf w' b T ys) → Hid (w.grownBy w' (some b)) → wpList Try.prog ops Q rest (a.put op.dst undef) w') : wpList Try.prog ops Q (op :: rest) a w :=
 wpList_store_row hgd T p q ho b ys hp hq T xs hv hi hsz h1 (h _ (hv.row ys) (qb5 w b ys))
theorem TmP.step {m : Int} {f : Nat → Int} {g : Nat → Nat} {i : Nat} (h : TmP m i f g) (h1 : ¬ f i ≤ lst0 f i) (h2 : ¬ m ≤ f i) (h3 : g i ≠ 0) : TmP m (i + 1) f g := fun j hj => by
 by_cases e : j = i
 ·subst e
  unfold lst0 at h1
  by_cases e0 : j = 0
  ·subst e0
   simp at h1
   exact ⟨h3, by omega, by omega, fun h => by omega⟩
  ·rw [if_neg e0] at h1
   have := (h (j - 1) (by omega)).2.1
   exact ⟨h3, by omega, by omega, fun _ => by omega⟩
 ·exact h j (by omega)
theorem TmP.bad1 {m : Int} {n : Nat} {f : Nat → Int} {g : Nat → Nat} {i : Nat} (hi : i < n) (h1 : f i ≤ lst0 f i) : ¬ TmP m n f g := fun h => by
 have := h i hi
 unfold lst0 at h1
 by_cases e0 : i = 0
 ·rw [if_pos e0] at h1; omega
 ·rw [if_neg e0] at h1
  have := this.2.2.2 (by omega)
  omega
theorem TmP.bad2 {m : Int} {n : Nat} {f : Nat → Int} {g : Nat → Nat} {i : Nat} (hi : i < n) (h1 : m ≤ f i) : ¬ TmP m n f g := fun h => by
 have := h i hi
 omega
theorem TmP.bad3 {m : Int} {n : Nat} {f : Nat → Int} {g : Nat → Nat} {i : Nat} (hi : i < n) (h1 : g i = 0) : ¬ TmP m n f g := fun h => (h i hi).1 h1
theorem ftms_any (w : World) (a : Option Addr) (n p : Nat) (m : Int) (f : Nat → Int) (g : Nat → Nat) (hq : Tml w a n f g) (hn : n ≤ 140737488351232) :
  Calls Try.prog 35 #[.slice a n p, .int .i64 m] w fun e w' => AnsB e (TmP m n f g) ∧ Below w.heap.size w w' := by
 have HQ := qa0 hq
 clear hq
 go_enter Try.func35, Try.ntmps35
 go_wp2
 go_loopw [5, 10] (fun la vi wr => ∃ i : Nat, i ≤ n ∧ vi = .int .i64 (i : Int) ∧ la = .int .i64 (lst0 f i) ∧ TmP m i f g ∧ Below w.heap.size w wr) (fun _ vi _ => n - (intOf vi).toNat)
 case atStart => exact ⟨0, by omega, rfl, rfl, fun j hj => by omega, Below.refl _ _⟩
 case round =>
  obtain ⟨i, hi, rfl, rfl, hp, hb⟩ := hrel
  have HP := qa0 hp
  have HB := qa0 hb
  clear hp
  by_cases hlt : i < n
  ·obtain ⟨hg, x, o, rfl, t0, t1⟩ := (HQ.out.later hb) i hlt
   obtain ⟨y, HY⟩ : ∃ y, Hid (f i = y) := ⟨_, rfl⟩
   obtain ⟨z, HZ⟩ : ∃ z, Hid (g i = z) := ⟨_, rfl⟩
   obtain ⟨l, HL⟩ : ∃ l, Hid (lst0 f i = l) := ⟨_, rfl⟩
   rw [HY.out] at t0
   rw [HZ.out] at t1 hg
   rw [HL.out]
   have p0 : (0 : Int) ≤ (i : Int) := by omega
   have p1 : (i : Int) < (n : Int) := by omega
   clear hb
   by_cases h1 : y ≤ l
   ·go_wp2
    go_ret
    exact ⟨AnsB.no (TmP.bad1 hlt (by rw [HY.out, HL.out]; exact h1)), jtwo HB.out (jlow _ _)⟩
   ·by_cases h2 : m ≤ y
    ·go_wp2
     go_ret
     exact ⟨AnsB.no (TmP.bad2 hlt (by rw [HY.out]; exact h2)), jtwo HB.out (jlow _ _)⟩
    ·by_cases h3 : z = 0
     ·have HZ0 := qa0 h3
      have e3 : ((z : Int) == 0) = true := by simp; omega
      clear h3
      go_wp2
      go_ret
      exact ⟨AnsB.no (TmP.bad3 hlt (by rw [HZ.out]; exact HZ0.out)), jtwo HB.out (jlow _ _)⟩
     ·have e3 : ((z : Int) == 0) = false := by simp; omega
      have HZ0 := qa0 h3
      clear h3
      go_wp2
      exact ⟨⟨i + 1, by omega, by go_num, by rw [qb6, HY.out], HP.out.step (by rw [HY.out, HL.out]; exact h1) (by rw [HY.out]; exact h2) (by rw [HZ.out]; exact HZ0.out), jtwo HB.out (jlow _ _)⟩, by simp [intOf]; omega⟩
  ·obtain rfl : i = n := by omega
   clear hb
   go_wp2
   go_ret
   exact ⟨AnsB.yes HP.out, HB.out⟩
theorem fcnt_any (w : World) (a b c : Option Addr) (n p m q k r : Nat) (hn : n ≤ 140737488351232) (hm : m ≤ 140737488351232) :
  Calls Try.prog 36 #[flv a n p b m q c k r] w fun e w' => e = .returned (.int .i64 ((n : Int) + (m : Int))) ∧ Below w.heap.size w w' := by
 have w1 : IntKind.i64.wrap ((n : Int) + (m : Int)) = (n : Int) + (m : Int) := by rw [IntKind.wrap_i64]; omega
 go_enter Try.func36, Try.ntmps36
 go_wp2
 go_ret
 exact ⟨rfl, jlow _ _⟩
end Go.Proofs.Ythdgpmanijifoaa
