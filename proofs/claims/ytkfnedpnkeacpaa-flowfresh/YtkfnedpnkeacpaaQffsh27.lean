/-
  Stage 21: what Trim's loops keep.
  Stage 21: Trim, of the program (made by gen34f.py).
-/
import Derived.Test.YtkfnedpnkeacpaaQffsh00
import Derived.Test.YtkfnedpnkeacpaaQffsh26
set_option maxRecDepth 100000
set_option maxHeartbeats 16000000
namespace Go.Proofs.Ytkfnedpnkeacpaa
open Go.RowKit
/-- A node's terms with new numbers. -/
def rnt (F : Fl) (m : Nat → Bool) (v : Nat) : List Trm := (List.range (tn F v)).map fun j => (((ct m (tv F v j) : Nat) : Int), F.fc (v - F.ni) j)
/-- The nodes that are kept, below v. -/
def nlm (F : Fl) (m : Nat → Bool) : Nat → List (List Trm)
 | 0 => []
 | v + 1 => nlm F m v ++ (if F.ni ≤ v ∧ m v = true then [rnt F m v] else [])
theorem qdy {F : Fl} {m : Nat → Bool} {v : Nat} (h : ¬ (F.ni ≤ v ∧ m v = true)) : nlm F m (v + 1) = nlm F m v := by
 show nlm F m v ++ (if F.ni ≤ v ∧ m v = true then [rnt F m v] else []) = _
 rw [if_neg h, List.append_nil]
theorem qda {F : Fl} {m : Nat → Bool} {v : Nat} (h : F.ni ≤ v ∧ m v = true) : nlm F m (v + 1) = nlm F m v ++ [rnt F m v] := by
 show nlm F m v ++ (if F.ni ≤ v ∧ m v = true then [rnt F m v] else []) = _
 rw [if_pos h]
theorem qfc (F : Fl) (m : Nat → Bool) : ∀ v, (nlm F m v).length ≤ v := by
 intro v
 induction v with
 | zero => exact Nat.le_refl _
 | succ v ih =>
  by_cases h : F.ni ≤ v ∧ m v = true
  ·rw [qda h, List.length_append]; show _ + 1 ≤ _; omega
  ·rw [qdy h]; omega
/-- What the first loop of Trim keeps. -/
structure TrI (w wr : World) (V g1 g2 N : Nat) (F : Fl) (m : Nat → Bool) (a b c : Option Addr) (p q r : Nat) (vi vn : Value) (v k : Nat) (g : Nat → Nat) : Prop where
 vf : Vf wr w.heap.size 28 #[.slice a F.ni p, .slice b F.nn q, .slice c F.no r]
 vr : Vf wr (w.heap.size + 1) 28 #[.slice none 0 0, .slice none 0 0, .slice none 0 0]
 vt : Vf wr V 28 #[vi, vn, .slice none 0 0]
 hV : w.heap.size + 1 < V
 h1 : g1 < V
 h2 : g2 < V
 mks : Ga wr g1 4 N (fun i => .bool (m i))
 nb : Ga wr g2 3 N (fun i => .int .i64 (ct m i : Nat))
 inp : Jo wr (V + 1) 3 .i64 vi k (fun i => (F.inp (g i)).toNat)
 en : En (fun x => m x = true) (min v F.ni) k g
 nodes : Nw wr (V + 1) vn (nlm F m v)
 below : Below w.heap.size w wr
theorem TrI.later {w wr w2 : World} {V g1 g2 N : Nat} {F : Fl} {m : Nat → Bool} {a b c : Option Addr} {p q r : Nat} {vi vn : Value} {v k : Nat} {g : Nat → Nat} (h : TrI w wr V g1 g2 N F m a b c p q r vi vn v k g) (hb : Below wr.heap.size wr w2) : TrI w w2 V g1 g2 N F m a b c p q r vi vn v k g :=
 ⟨h.vf.later hb, h.vr.later hb, h.vt.later hb, h.hV, h.h1, h.h2, h.mks.later hb, h.nb.later hb, h.inp.later hb, h.en, h.nodes.later hb, jtwo h.below hb⟩
theorem qao {w : World} {B V : Nat} {e : TypeId} {s n : Nat} {v : Value} {xs : List Value} (h : w.ownsRow B e s v n xs) (hV : V < B) : v.ownBlock = none ∨ v.ownBlock ≠ some V := by
 cases hv : v.ownBlock with
 | none => exact .inl rfl
 | some g => exact .inr fun e2 => by cases e2; have := qac h V hv; omega
theorem qaq {w : World} {B V : Nat} {e : TypeId} {s n : Nat} {v : Value} {xs : List Value} (h : w.ownsRow B e s v n xs) (hV : V < B) : v.ownBlock ≠ some V := fun e2 => by have := qac h V e2; omega
theorem Nw.store {w : World} {B V i : Nat} {v x : Value} {N : List (List Trm)} (h : Nw w B v N) (hV : V < B) : Nw (w.setCell ⟨V, i, none⟩ x) B v N := by
 obtain ⟨ws, q1, q2⟩ := h
 have gs := qa2 w V i x
 refine ⟨ws, World.ownsRow.kept q1 gs (qao q1 hV), fun j L hj => ?_⟩
 obtain ⟨x, hx, ht⟩ := q2 j L hj
 exact ⟨x, hx, ht.kept gs (qao ht hV)⟩
/-- An input more. -/
theorem TrI.put_i {w wr w8 : World} {V g1 g2 N : Nat} {F : Fl} {m : Nat → Bool} {a b c : Option Addr} {p q r : Nat} {vi vn v' : Value} {v k x : Nat} {g : Nat → Nat} {o : Obj} (h : TrI w wr V g1 g2 N F m a b c p q r vi vn v k g)
  (hv : v < F.ni) (hm : m v = true) (hx : (F.inp v).toNat = x) (hown : w8.ownsRow (V + 1) 3 1 v' (k + 1) ((jrow .i64 k (fun i => (F.inp (g i)).toNat)).toList ++ [.int .i64 (x : Int)])) (hg : (wr.alloc o).grownBy w8 vi.ownBlock) :
  TrI w (w8.setCell ⟨V, 0, none⟩ v') V g1 g2 N F m a b c p q r v' vn (v + 1) (k + 1) (fun i => if i = k then v else g i) := by
 have I := h.later (jlow wr o)
 have hVl := h.vt.lt
 obtain ⟨p1, p2⟩ := qcj (B := V + 1) h.inp (by omega) hown hg
 have hV := h.hV
 have h1 := h.h1
 have h2 := h.h2
 have gs := qa2 w8 V 0 v'
 have hb : ∀ b, b ≤ V → vi.ownBlock ≠ some b := fun b hb => qaq h.inp (by omega)
 refine ⟨(I.vf.kept hg (hb _ (by omega))).kept gs (by simp; omega), (I.vr.kept hg (hb _ (by omega))).kept gs (by simp; omega), (I.vt.kept hg (hb V (Nat.le_refl _))).put 0 v', hV, h1, h2, (I.mks.kept hg (hb _ (by omega))).kept gs (by simp; omega), (I.nb.kept hg (hb _ (by omega))).kept gs (by simp; omega), Jo.kept (p1.congr fun t _ => ?_) gs (qao p1 (by omega)), ?_, ?_, ?_⟩
 ·by_cases e : t = k
  ·rw [if_pos e]; show x = (F.inp (if t = k then v else g t)).toNat; rw [if_pos e, hx]
  ·rw [if_neg e]; show (F.inp (g t)).toNat = (F.inp (if t = k then v else g t)).toNat; rw [if_neg e]
 ·have := h.en
  rw [show min v F.ni = v by omega] at this
  rw [show min (v + 1) F.ni = v + 1 by omega]
  exact this.yes hm
 ·rw [qdy (by omega)]
  exact Nw.store (I.nodes.kept I.inp hg (by decide) (by decide)) (by omega)
 ·exact (h.below.trans (p2.mono (show w.heap.size ≤ V + 1 by omega))).setCell (show w.heap.size ≤ V by omega) _
/-- A node more. -/
theorem TrI.put_n {w wr w5 w8 : World} {V g1 g2 N : Nat} {F : Fl} {m : Nat → Bool} {a b c : Option Addr} {p q r : Nat} {vi vn v' u : Value} {v k : Nat} {g : Nat → Nat} {T : List Trm} (h : TrI w wr V g1 g2 N F m a b c p q r vi vn v k g)
  (hv : F.ni ≤ v) (hm : m v = true) (hb5 : Below wr.heap.size wr w5) (hT : T = rnt F m v) (hu : Tw w5 (V + 1) u T)
  (ho : ∀ vs : List Value, w5.ownsRow (V + 1) 59 1 vn (nlm F m v).length vs → w8.ownsRow (V + 1) 59 1 v' ((nlm F m v).length + 1) (vs ++ [u]) ∧ w5.grownBy w8 vn.ownBlock) :
  TrI w (w8.setCell ⟨V, 1, none⟩ v') V g1 g2 N F m a b c p q r vi v' (v + 1) k g := by
 have I := h.later hb5
 obtain ⟨vs, k1, k2⟩ := I.nodes
 obtain ⟨o1, o2⟩ := ho vs k1
 have hV := h.hV
 have h1 := h.h1
 have h2 := h.h2
 have gs := qa2 w8 V 1 v'
 have hb : ∀ b, b ≤ V → vn.ownBlock ≠ some b := fun b hb => qaq k1 (by omega)
 have N8 : Nw w8 (V + 1) v' (nlm F m (v + 1)) := by
  rw [qda ⟨hv, hm⟩, ← hT]
  exact Nw.push I.nodes hu ho
 have i8 : Jo w8 (V + 1) 3 .i64 vi k (fun i => (F.inp (g i)).toNat) := I.inp.kept o2 (qat I.inp k1 (by decide))
 refine ⟨(I.vf.kept o2 (hb _ (by omega))).kept gs (by simp; omega), (I.vr.kept o2 (hb _ (by omega))).kept gs (by simp; omega), (I.vt.kept o2 (hb V (Nat.le_refl _))).put 1 v', hV, h1, h2, (I.mks.kept o2 (hb _ (by omega))).kept gs (by simp; omega), (I.nb.kept o2 (hb _ (by omega))).kept gs (by simp; omega), Jo.kept i8 gs (qao i8 (by omega)), ?_, Nw.store N8 (by omega), ?_⟩
 ·rw [show min (v + 1) F.ni = min v F.ni by omega]; exact h.en
 ·have b8 : Below w.heap.size w w8 := I.below.grown o2 I.below.size (fun g e => by
   by_cases hg : g ≤ V
   ·exact absurd e (hb g hg)
   ·omega)
  exact b8.setCell (show w.heap.size ≤ V by omega) _
/-- A value that is not kept. -/
theorem TrI.skip {w wr : World} {V g1 g2 N : Nat} {F : Fl} {m : Nat → Bool} {a b c : Option Addr} {p q r : Nat} {vi vn : Value} {v k : Nat} {g : Nat → Nat} (h : TrI w wr V g1 g2 N F m a b c p q r vi vn v k g) (hm : m v = false) : TrI w wr V g1 g2 N F m a b c p q r vi vn (v + 1) k g := by
 refine ⟨h.vf, h.vr, h.vt, h.hV, h.h1, h.h2, h.mks, h.nb, h.inp, ?_, by rw [qdy (by simp [hm])]; exact h.nodes, h.below⟩
 by_cases e : v < F.ni
 ·have := h.en
  rw [show min v F.ni = v by omega] at this
  rw [show min (v + 1) F.ni = v + 1 by omega]
  exact this.no (by simp [hm])
 ·rw [show min (v + 1) F.ni = min v F.ni by omega]; exact h.en
/-- What the second loop of Trim keeps. -/
structure TrO (w wr : World) (V B g2 N : Nat) (F : Fl) (m : Nat → Bool) (a b c : Option Addr) (p q r : Nat) (vi vn vo : Value) (k o : Nat) (g : Nat → Nat) : Prop where
 vf : Vf wr w.heap.size 28 #[.slice a F.ni p, .slice b F.nn q, .slice c F.no r]
 vr : Vf wr (w.heap.size + 1) 28 #[.slice none 0 0, .slice none 0 0, .slice none 0 0]
 vt : Vf wr V 28 #[vi, vn, vo]
 hV : w.heap.size + 1 < V
 h2 : g2 < V
 hB : V < B
 hB2 : B ≤ wr.heap.size
 nb : Ga wr g2 3 N (fun i => .int .i64 (ct m i : Nat))
 inp : Jo wr (V + 1) 3 .i64 vi k (fun i => (F.inp (g i)).toNat)
 old : ∀ g, vi.ownBlock = some g → g < B
 nodes : Nw wr (V + 1) vn (nlm F m N)
 outs : Jo wr B 3 .i64 vo o (fun i => ct m (F.out i).toNat)
 below : Below w.heap.size w wr
theorem TrI.out {w wr : World} {V g1 g2 N : Nat} {F : Fl} {m : Nat → Bool} {a b c : Option Addr} {p q r : Nat} {vi vn : Value} {k : Nat} {g : Nat → Nat} (h : TrI w wr V g1 g2 N F m a b c p q r vi vn N k g) : TrO w wr V wr.heap.size g2 N F m a b c p q r vi vn (.slice none 0 0) k 0 g :=
 ⟨h.vf, h.vr, h.vt, h.hV, h.h2, h.vt.lt, Nat.le_refl _, h.nb, h.inp, fun _ hg => (h.inp.base hg).2, h.nodes, Jo.nil _ _ _ _ _, h.below⟩
theorem TrO.later {w wr w2 : World} {V B g2 N : Nat} {F : Fl} {m : Nat → Bool} {a b c : Option Addr} {p q r : Nat} {vi vn vo : Value} {k o : Nat} {g : Nat → Nat} (h : TrO w wr V B g2 N F m a b c p q r vi vn vo k o g) (hb : Below wr.heap.size wr w2) : TrO w w2 V B g2 N F m a b c p q r vi vn vo k o g :=
 ⟨h.vf.later hb, h.vr.later hb, h.vt.later hb, h.hV, h.h2, h.hB, by have := hb.size; have := h.hB2; omega, h.nb.later hb, h.inp.later hb, h.old, h.nodes.later hb, h.outs.later hb, jtwo h.below hb⟩
/-- An out more. -/
theorem TrO.put {w wr w8 : World} {V B g2 N : Nat} {F : Fl} {m : Nat → Bool} {a b c : Option Addr} {p q r : Nat} {vi vn vo v' : Value} {k o x : Nat} {g : Nat → Nat} {ob : Obj} (h : TrO w wr V B g2 N F m a b c p q r vi vn vo k o g)
  (hx : ct m (F.out o).toNat = x) (hown : w8.ownsRow B 3 1 v' (o + 1) ((jrow .i64 o (fun i => ct m (F.out i).toNat)).toList ++ [.int .i64 (x : Int)])) (hg : (wr.alloc ob).grownBy w8 vo.ownBlock) :
  TrO w (w8.setCell ⟨V, 2, none⟩ v') V B g2 N F m a b c p q r vi vn v' k (o + 1) g := by
 have I := h.later (jlow wr ob)
 obtain ⟨p1, p2⟩ := qcj (B := B) h.outs h.hB2 hown hg
 have hV := h.hV
 have hB := h.hB
 have h2 := h.h2
 have gs := qa2 w8 V 2 v'
 have hb : ∀ b, b < B → vo.ownBlock ≠ some b := fun b hb => qaq h.outs hb
 have i8 : Jo w8 (V + 1) 3 .i64 vi k (fun i => (F.inp (g i)).toNat) := I.inp.kept hg (by
  cases hv : vi.ownBlock with
  | none => exact .inl rfl
  | some g => exact .inr fun e => hb g (h.old g hv) e.symm)
 refine ⟨(I.vf.kept hg (hb _ (by omega))).kept gs (by simp; omega), (I.vr.kept hg (hb _ (by omega))).kept gs (by simp; omega), (I.vt.kept hg (hb V hB)).put 2 v', hV, h2, hB, ?_, (I.nb.kept hg (hb _ (by omega))).kept gs (by simp; omega), Jo.kept i8 gs (qao i8 (by omega)), h.old, Nw.store (I.nodes.kept I.outs hg (by decide) (by decide)) (by omega), Jo.kept (p1.congr fun t _ => ?_) gs (qao p1 hB), ?_⟩
 ·have h3 := hg.size
  have h4 := h.hB2
  have h5 := (jlow wr ob).size
  simp
  omega
 ·by_cases e : t = o
  ·rw [if_pos e, e, hx]
  ·rw [if_neg e]
 ·have := h.below.size
  exact (h.below.trans (p2.mono (show w.heap.size ≤ B by omega))).setCell (show w.heap.size ≤ V by omega) _
/-- The trimmed flow. -/
def trF (F : Fl) (m : Nat → Bool) (N k : Nat) (g : Nat → Nat) : Fl :=
 ⟨k, fun i => (((F.inp (g i)).toNat : Nat) : Int), (nlm F m N).length, fun i => ((nlm F m N).getD i []).length, fun i j => (((nlm F m N).getD i []).getD j (0, 0)).1, fun i j => (((nlm F m N).getD i []).getD j (0, 0)).2, F.no, fun i => ((ct m (F.out i).toNat : Nat) : Int)⟩
open Go.RowKit
theorem nlm_ok {w : World} {a b c : Option Addr} {F : Fl} (h : FlR w a b c F) (m : Nat → Bool) : ∀ v, v ≤ F.ni + F.nn → ∀ L ∈ nlm F m v, L.length ≤ 140737488351232 ∧ ∀ x ∈ L, x.2 < 256 := by
 intro v
 induction v with
 | zero => intro _ L hL; cases hL
 | succ v ih =>
  intro hv L hL
  by_cases hc : F.ni ≤ v ∧ m v = true
  ·rw [qda hc] at hL
   rcases List.mem_append.1 hL with h1 | h1
   ·exact ih (by omega) L h1
   ·rw [List.mem_singleton.1 h1]
    obtain ⟨hn, x, o, t, d, _, _, ht⟩ := h.nodes (v - F.ni) (by omega)
    have e : tn F v = F.nt (v - F.ni) := if_neg (by omega)
    refine ⟨by unfold rnt; rw [List.length_map, List.length_range, e]; exact hn, fun x hx => ?_⟩
    unfold rnt at hx
    obtain ⟨j, hj, rfl⟩ := List.mem_map.1 hx
    rw [e] at hj
    exact (ht j (by simpa using hj)).1
  ·rw [qdy hc] at hL
   exact ih (by omega) L hL
theorem tr_flr {w wr w9 : World} {V B g2 N : Nat} {F : Fl} {m : Nat → Bool} {a b c : Option Addr} {p q r : Nat} {x y z : Option Addr} {d1 d2 d3 n : Nat} {k : Nat} {g : Nat → Nat} (hF : FlR w a b c F) (hM : MayP F) (hN : F.ni + F.nn = N) (h : TrO w wr V B g2 N F m a b c p q r (.slice x k d1) (.slice y n d2) (.slice z F.no d3) k F.no g) (hk : k ≤ 64) (hg : wr.grownBy w9 (some (w.heap.size + 1))) : n = (nlm F m N).length ∧ FlR w9 x y z (trF F m N k g) := by
 have hV := h.hV
 have hB := h.hB
 have ho := hM.o64
 have n9 : Nw w9 (V + 1) (.slice y n d2) (nlm F m N) := by
  obtain ⟨vs, k1, k2⟩ := h.nodes
  refine ⟨vs, World.ownsRow.kept k1 hg (qab k1 h.vr (by decide)), fun i L hi => ?_⟩
  obtain ⟨x, hx, ht⟩ := k2 i L hi
  exact ⟨x, hx, ht.kept hg (qab ht h.vr (by decide))⟩
 have i9 := h.inp.kept hg (qab h.inp h.vr (by decide))
 have o9 := h.outs.kept hg (qab h.outs h.vr (by decide))
 have h1 := n9.ndl (nlm_ok hF m N (by omega))
 have h2 := qfc F m N
 have h3 := hM.n4
 have h4 := hM.inp.le
 exact ⟨h1.1, ⟨by show k ≤ _; omega, by show (nlm F m N).length ≤ _; omega, by show F.no ≤ _; omega, i9.jl, h1.2, o9.jl⟩⟩
theorem tm_ge {F : Fl} (hM : MayP F) {v : Nat} (hv : v < F.ni + F.nn) : ∀ j, j < tn F v → j ≤ tv F v j := by
 intro j
 induction j with
 | zero => intro _; omega
 | succ j ih =>
  intro hj
  have h1 := ih (by omega)
  have h2 := hM.term hv hj
  have h3 := hM.term hv (show j < tn F v by omega)
  have e : tn F v = F.nt (v - F.ni) := if_neg (by have := h2.2.2; omega)
  have h4 := (hM.nodes (v - F.ni) (by have := h2.2.2; omega) (j + 1) (by rw [← e]; exact hj)).2.2.2 (by omega)
  rw [Nat.add_sub_cancel, h2.1, h3.1] at h4
  omega
theorem tl_le {F : Fl} {N v tl : Nat} (hM : MayP F) (hN : F.ni + F.nn = N) (hv : v < N) (ht : tn F v = tl) (h : N ≤ 4160) : tl ≤ 4160 := by
 by_cases h0 : tl = 0
 ·omega
 ·have h1 := tm_ge hM (v := v) (by omega) (tl - 1) (by omega)
  have h2 := (hM.term (v := v) (j := tl - 1) (by omega) (by omega)).2.1
  omega
end Go.Proofs.Ytkfnedpnkeacpaa
