/-
  Lists as matrices: a round of the elimination, as the lists have it.
  Contract of the matrices' reference: Copy.
  Lists of ints of the call's own; a copy into bytes of the call's own.
-/
import Derived.Test.YtnfbbddoaeofgaaGreatQssms00
import Derived.Test.YtnfbbddoaeofgaaGreatQssms15
import Derived.Test.YtnfbbddoaeofgaaGreatQssms10
import Derived.Test.YtnfbbddoaeofgaaGreatQssms09
import Derived.Test.YtnfbbddoaeofgaaGreatQssms08
import Derived.Test.YtnfbbddoaeofgaaGreatQssms04
set_option maxRecDepth 100000
set_option maxHeartbeats 16000000
namespace Go.Proofs.YtnfbbddoaeofgaaGreat
theorem dm1 {s b t : Nat} (h : t < b) : (s * b + t) / b = s := by rw [Nat.mul_comm, Nat.mul_add_div (by omega), Nat.div_eq_of_lt h, Nat.add_zero]
theorem dm2 {s b t : Nat} (h : t < b) : (s * b + t) % b = t := by rw [Nat.mul_comm, Nat.mul_add_mod, Nat.mod_eq_of_lt h]
/-- The matrix of r rows and c columns that a list holds; 0 besides. -/
def m2 (F : Nat → Nat) (r c i j : Nat) : Nat := if i < r ∧ j < c then F (i * c + j) else 0
theorem qdk (F : Nat → Nat) {r c i j : Nat} (hi : i < r) (hj : j < c) : m2 F r c i j = F (i * c + j) := if_pos ⟨hi, hj⟩
theorem qc9 (F : Nat → Nat) {r c i j : Nat} (hj : c ≤ j) : m2 F r c i j = 0 := if_neg (by omega)
theorem m2_low (F : Nat → Nat) {r c i j : Nat} (hi : r ≤ i) : m2 F r c i j = 0 := if_neg (by omega)
theorem qci {F : Nat → Nat} {r c n : Nat} (hF : ∀ p, p < n → F p < 256) (R : Rt r c n) : El2 (m2 F r c) := fun i j => by
 unfold m2
 split
 ·rename_i h; exact hF _ (R.at h.1 h.2)
 ·decide
/-- Two places changed. -/
def zsw (a b k : Nat) : Nat := if k = a then b else if k = b then a else k
theorem qdr {a b r k : Nat} (ha : a < r) (hb : b < r) (hk : k < r) : zsw a b k < r := by unfold zsw; split; exact hb; split; exact ha; exact hk
open Go.RowKit
theorem infoI : (Tryz.prog.info? 3).map (fun i => (i.zero, i.size, i.bytes)) = some (some (.int .i64 0), 1, 8) := by kernel_rfl
/-- The cells of a list of n numbers. -/
def irow (n : Nat) (f : Nat → Nat) : Array Value := (Array.range n).map fun i => .int .i64 (f i : Nat)
theorem qd8 (n : Nat) (f : Nat → Nat) : (irow n f).size = n := by simp [irow]
theorem qcr (n : Nat) (f : Nat → Nat) (i : Nat) (h : i < n) : (irow n f)[i]? = some (.int .i64 (f i : Nat)) := by simp [irow, h]
theorem qh3 (n : Nat) (f f' : Nat → Nat) (h : ∀ i, i < n → f i = f' i) : irow n f = irow n f' := by
 apply Array.ext
 ·simp [irow]
 ·intro j h1 h2
  simp [qd8] at h1
  simp [irow, h j h1]
theorem qca (n : Nat) (f : Nat → Nat) (v : Nat) : (irow n f).toList ++ [.int .i64 (v : Int)] = (irow (n + 1) (fun i => if i = n then v else f i)).toList := by
 apply List.ext_getElem?
 intro i
 have hl : (irow n f).toList.length = n := by simp [qd8]
 by_cases h1 : i < n
 ·rw [List.getElem?_append_left (by omega), Array.getElem?_toList, Array.getElem?_toList, qcr n f i h1, qcr (n + 1) _ i (by omega), if_neg (by omega)]
 ·rw [List.getElem?_append_right (by omega), hl]
  by_cases h2 : i = n
  ·subst h2
   have e2 : (irow (i + 1) (fun t => if t = i then v else f t)).toList[i]? = some (.int .i64 (v : Int)) := by rw [Array.getElem?_toList, qcr (i + 1) _ i (by omega), if_pos rfl]
   rw [Nat.sub_self, e2]; rfl
  ·have l2 : (irow (n + 1) (fun i => if i = n then v else f i)).toList.length = n + 1 := by simp [qd8]
   rw [List.getElem?_eq_none (by simp; omega), List.getElem?_eq_none (by omega)]
/-- Numbers of the call's own. -/
def Oi (w : World) (B : Nat) (v : Value) (n : Nat) (f : Nat → Nat) : Prop := w.ownsRow B 3 1 v n (irow n f).toList
theorem Oi.nil (w : World) (B : Nat) (f : Nat → Nat) : Oi w B (.slice none 0 0) 0 f := by
 unfold Oi
 have : (irow 0 f).toList = [] := by simp [irow]
 rw [this]
 exact World.ownsRow_nil _ _ _ _
theorem Oi.kept {w w' : World} {B n : Nat} {v : Value} {f : Nat → Nat} {row : Option Nat} (h : Oi w B v n f) (hg : w.grownBy w' row) (hne : v.ownBlock = none ∨ v.ownBlock ≠ row) : Oi w' B v n f := World.ownsRow.kept h hg hne
theorem Oi.later {w w' : World} {B n : Nat} {v : Value} {f : Nat → Nat} (h : Oi w B v n f) (hb : Below w.heap.size w w') : Oi w' B v n f := h.kept (qa7.mpr hb) (by cases hv : v.ownBlock <;> simp)
theorem Oi.form {w : World} {B n : Nat} {v : Value} {f : Nat → Nat} (h : Oi w B v n f) : ∃ s d, v = .slice s n d ∧ (s = none → n = 0 ∧ d = 0) := by
 rcases h.2 with ⟨e, h0⟩ | ⟨g, cap, cur, e, _⟩
 ·exact ⟨none, 0, by rw [e, h0], fun _ => ⟨h0, rfl⟩⟩
 ·exact ⟨_, _, e, fun x => by cases x⟩
theorem Oi.base {w : World} {B n : Nat} {v : Value} {f : Nat → Nat} (h : Oi w B v n f) {g : Nat} (hg : v.ownBlock = some g) : B ≤ g ∧ g < w.heap.size := by
 refine ⟨qbe h g hg, ?_⟩
 rcases h.2 with ⟨e, _⟩ | ⟨g', cap, cur, e, _, hb, _⟩
 ·rw [e] at hg; simp [Value.ownBlock] at hg
 ·rw [e] at hg; simp [Value.ownBlock] at hg; subst hg; exact lt_of_block hb
theorem Oi.il {w : World} {B n d : Nat} {s : Option Addr} {f : Nat → Nat} (h : Oi w B (.slice s n d) n f) : Il w s n (fun i => (f i : Int)) := fun i hi => by
 rcases h.2 with ⟨_, h0⟩ | ⟨g, cap, cur, e, _, hg, hc, _, hs, ht⟩
 ·omega
 ·cases e
  refine ⟨g, 0, rfl, ?_⟩
  rw [Nat.zero_add, cell_of_row w g i _ _ _ hg]
  have e1 : (cur.toList.take (n * 1))[i]? = some (.int .i64 (f i : Nat)) := by rw [ht, Array.getElem?_toList, qcr n f i hi]
  rw [List.getElem?_take, if_pos (by omega), Array.getElem?_toList] at e1
  exact e1
theorem Oi.congr {w : World} {B n : Nat} {v : Value} {f f' : Nat → Nat} (h : Oi w B v n f) (e : ∀ i, i < n → f i = f' i) : Oi w B v n f' := by
 unfold Oi at *
 rw [← qh3 n f f' e]; exact h
theorem Oi.mono {w : World} {B B' n : Nat} {v : Value} {f : Nat → Nat} (h : Oi w B v n f) (hB : B' ≤ B) : Oi w B' v n f := by
 refine ⟨h.1, ?_⟩
 rcases h.2 with h' | ⟨g, cap, cur, e, hb, r⟩
 ·exact .inl h'
 ·exact .inr ⟨g, cap, cur, e, by omega, r⟩
/-- Bytes of the call's own. -/
def Ob (w : World) (B : Nat) (v : Value) (n : Nat) (f : Nat → Nat) : Prop := w.ownsRow B 5 1 v n (row n f).toList
theorem Ob.kept {w w' : World} {B n : Nat} {v : Value} {f : Nat → Nat} {row : Option Nat} (h : Ob w B v n f) (hg : w.grownBy w' row) (hne : v.ownBlock = none ∨ v.ownBlock ≠ row) : Ob w' B v n f := World.ownsRow.kept h hg hne
theorem Ob.later {w w' : World} {B n : Nat} {v : Value} {f : Nat → Nat} (h : Ob w B v n f) (hb : Below w.heap.size w w') : Ob w' B v n f := h.kept (qa7.mpr hb) (by cases hv : v.ownBlock <;> simp)
theorem Ob.base {w : World} {B n : Nat} {v : Value} {f : Nat → Nat} (h : Ob w B v n f) {g : Nat} (hg : v.ownBlock = some g) : B ≤ g ∧ g < w.heap.size := by
 refine ⟨qbe h g hg, ?_⟩
 rcases h.2 with ⟨e, _⟩ | ⟨g', cap, cur, e, _, hb, _⟩
 ·rw [e] at hg; simp [Value.ownBlock] at hg
 ·rw [e] at hg; simp [Value.ownBlock] at hg; subst hg; exact lt_of_block hb
theorem Ob.sl {w : World} {B n d : Nat} {s : Option Addr} {f : Nat → Nat} (h : Ob w B (.slice s n d) n f) (hf : ∀ i, i < n → f i < 256) : Sl w s n f := qi5 h hf
theorem Ob.congr {w : World} {B n : Nat} {v : Value} {f f' : Nat → Nat} (h : Ob w B v n f) (e : ∀ i, i < n → f i = f' i) : Ob w B v n f' := own_cong h e
theorem Ob.mono {w : World} {B B' n : Nat} {v : Value} {f : Nat → Nat} (h : Ob w B v n f) (hB : B' ≤ B) : Ob w B' v n f := own_mono h hB
theorem Ob.none {w : World} {B n d : Nat} {s : Option Addr} {f : Nat → Nat} (h : Ob w B (.slice s n d) n f) : s = Option.none → n = 0 ∧ d = 0 := qg4 h
theorem Ob.some {w : World} {B n d : Nat} {s : Option Addr} {f : Nat → Nat} (h : Ob w B (.slice s n d) n f) (hn : 0 < n) : ∃ g, s = Option.some ⟨g, 0, Option.none⟩ := own_addr h hn
theorem Ob.cell {w : World} {B n d g i : Nat} {f : Nat → Nat} (h : Ob w B (.slice (Option.some ⟨g, 0, Option.none⟩) n d) n f) (hi : i < n) : w.cell? ⟨g, i, Option.none⟩ = Option.some (.int .u8 (f i : Nat)) := own_byte h hi
theorem Ob.free {w : World} {B n d g : Nat} {f : Nat → Nat} (h : Ob w B (.slice (Option.some ⟨g, 0, Option.none⟩) n d) n f) (i : Nat) : w.frozen? ⟨g, i, Option.none⟩ = false := World.ownsRow.frozenAt h i
theorem Ob.set {w : World} {B n d g : Nat} {f : Nat → Nat} (h : Ob w B (.slice (Option.some ⟨g, 0, Option.none⟩) n d) n f) (j v : Nat) : Ob (w.setCell ⟨g, j, Option.none⟩ (.int .u8 (v : Int))) B (.slice (Option.some ⟨g, 0, Option.none⟩) n d) n (fun i => if i = j then v else f i) := own_set h
theorem Ob.room {w : World} {B n d : Nat} {s : Option Addr} {f : Nat → Nat} (h : Ob w B (.slice s n d) n f) : n ≤ d := by
 rcases h.2 with ⟨e, h0⟩ | ⟨g, cap, cur, e, _, _, hc, _⟩
 ·cases e; omega
 ·cases e; omega
/-- A copy into bytes of the call's own, from place p on. -/
theorem qdl {ops : Array Oper} {rest : List Oper} {op : Oper} {a : Act} {w : World} {Q : Exit → Act → World → Prop} (hgd : op.guard = Option.none) (d s : Operand) (ho : op.op = .call { callee := .builtin .copy, args := #[d, s], argTypes := #[22, 22] })
  (B g p n c m dn dc sc : Nat) (b o : Nat) (f h : Nat → Nat) (hd : a.eval d = .slice (Option.some ⟨g, p, Option.none⟩) m dc) (hs : a.eval s = .slice (Option.some ⟨b, o, Option.none⟩) c sc) (hr : Ob w B (.slice (Option.some ⟨g, 0, Option.none⟩) n dn) n f) (hsl : Sl w (Option.some ⟨b, o, Option.none⟩) c h) (hm : c ≤ m) (hfit : p + c ≤ n)
  (k : ∀ w', Hid (Ob w' B (.slice (Option.some ⟨g, 0, Option.none⟩) n dn) n (cpf f h p c)) → Hid (w.grownBy w' (Option.some g)) → wpList Tryz.prog ops Q rest (a.put op.dst (goInt c)) w') : wpList Tryz.prog ops Q (op :: rest) a w := by
 rcases hr.2 with ⟨e, _⟩ | ⟨g', cap, cur, e, hb, hg, hcap, hmax, hsz, ht⟩
 ·cases e
 ·cases e
  have hlen : (row c h).toList.length = c := by simp [qa8]
  have hsrc : ∀ j v, (row c h).toList[j]? = Option.some v → w.cell? ((⟨b, o, Option.none⟩ : Addr).add j) = Option.some v := qbl hsl (Below.refl _ _)
  have hcur : cur.size = dn := by omega
  refine wpList_copy_own hgd d s 22 22 ho 5 Tryz.underlying22 qex g p m dc ⟨b, o, Option.none⟩ c sc hd hs cur 5 hg (row c h).toList (by rw [hlen]; exact (Nat.min_eq_left hm).symm) hsrc (by rw [hlen]; omega) (qbm c h) ?_
  rw [hlen]
  refine k _ ⟨by simp [qa8], .inr ⟨g, dn, _, rfl, hb, setRow_heap w g _ _ _ _ hg, hcap, hmax, by simp [qa8]; omega, ?_⟩⟩ (qag _ _ _)
  rw [Nat.mul_one] at ht ⊢
  rw [← qd7 n p c f h hfit, ← ht]
  have hpn : p ≤ n := by omega
  rw [List.take_append, List.take_append, List.take_take, List.take_take, Nat.min_eq_right hpn, Nat.min_eq_left hpn]
  have l1 : (List.take p cur.toList).length = p := by simp; omega
  rw [l1, hlen, List.take_of_length_le (l := (row c h).toList) (by rw [hlen]; omega), List.drop_take, Nat.sub_sub]
end Go.Proofs.YtnfbbddoaeofgaaGreat
