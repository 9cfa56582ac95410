/-
  Stage 21: Of, of the program.
-/
import Derived.Test.YtkfnedpnkeacpaaQffsh00
import Derived.Test.YtkfnedpnkeacpaaQffsh15
set_option maxRecDepth 100000
set_option maxHeartbeats 16000000
namespace Go.Proofs.Ytkfnedpnkeacpaa
open Go.RowKit
theorem qah {ops : Array Oper} {op : Oper} {a : Act} {w : World} {K : Act → World → Prop} {Q : Exit → Act → World → Prop} {E : Prop} (hgd : op.guard = none) (s x : Operand) (t : TypeId)
  (ho : op.op = .call { callee := .builtin .append, args := #[s, x], argTypes := #[t, t] })
  (base : Nat) (e : TypeId) (i : TypeInfo) (z : Value) (size bytes : Nat) (ht : Try.prog.underlying t = some (.slice e)) (hi : Try.prog.info? e = some i) (hz : i.zero = some z)
  (hsize : i.size = size) (hby : i.bytes = bytes) (hzs : z.cells.size = size) (hsz : 0 < size)
  (v : Value) (n : Nat) (xs : List Value) (hs : a.eval s = v) (hown : w.ownsRow base e size v n xs)
  (ad : Addr) (m c : Nat) (news : List Value) (hx : a.eval x = .slice (some ad) m c) (hl : news.length = m * size) (hnews : ∀ j u, news[j]? = some u → w.cell? (ad.add j) = some u) (h1 : ∀ u ∈ news, u.oneCell' = true)
  (h63 : n + m ≤ maxLen) (hbytes : (n + m) * bytes ≤ 140737488355328) (hbase : base ≤ w.heap.size)
  (h : ∀ v' w', w'.ownsRow base e size v' (n + m) (xs ++ news) → w.grownBy w' v.ownBlock → K (a.put op.dst v') w') : if Region.wanted op (yielded ops a.tmps) = true then Oper.wp Try.prog op a w K Q else E := by
 have hw : Region.wanted op (yielded ops a.tmps) = true := by simp [Region.wanted, hgd]
 rw [if_pos hw]
 exact wp_append_own w s x t ho base e i z size bytes ht hi hz hsize hby hzs hsz v n xs hs hown ad m c news hx hl hnews h1 h63 hbytes hbase fun v' w' h2 h3 _ => h v' w' h2 h3
/-- The rows' terms. -/
def nds (F : Nat → Nat) (c m : Nat) (f : Nat → Nat) (i : Nat) : List (List Trm) := (List.range i).map fun t => tof (fun j => F (t * c + j)) f m
theorem nds_succ (F : Nat → Nat) (c m : Nat) (f : Nat → Nat) (i : Nat) : nds F c m f (i + 1) = nds F c m f i ++ [tof (fun j => F (i * c + j)) f m] := by
 unfold nds
 rw [List.range_succ, List.map_append]
 rfl
theorem qb0 (F : Nat → Nat) (c m : Nat) (f : Nat → Nat) (i : Nat) : (nds F c m f i).length = i := by simp [nds]
theorem qbh (F : Nat → Nat) (c m : Nat) (f : Nat → Nat) (i t : Nat) (h : t < i) : (nds F c m f i).getD t [] = tof (fun j => F (t * c + j)) f m := by
 simp [nds, h]
/-- The flow of a matrix, whose columns f 0 .. f (m - 1) are used. -/
def ofF (r c : Nat) (F : Nat → Nat) (m : Nat) (f : Nat → Nat) : Fl :=
 ⟨m, fun i => (f i : Int), r, fun t => (tof (fun j => F (t * c + j)) f m).length, fun t j => ((tof (fun j => F (t * c + j)) f m).getD j (0, 0)).1, fun t j => ((tof (fun j => F (t * c + j)) f m).getD j (0, 0)).2, r, fun t => (m : Int) + (t : Int)⟩
theorem Ndl.congr {w : World} {b : Option Addr} {m : Nat} {nt nt' : Nat → Nat} {f f' : Nat → Nat → Int} {g g' : Nat → Nat → Nat} (h : Ndl w b m nt f g) (e1 : ∀ i, i < m → nt i = nt' i) (e2 : ∀ i, i < m → f i = f' i) (e3 : ∀ i, i < m → g i = g' i) : Ndl w b m nt' f' g' := fun i hi => by
 obtain ⟨h1, x, o, t, d, e, c, ht⟩ := h i hi
 rw [e1 i hi] at h1 c ht
 rw [e2 i hi, e3 i hi] at ht
 exact ⟨h1, x, o, t, d, e, c, ht⟩
/-- What the loop of Of keeps. -/
structure FoI (w wr : World) (r c n k V : Nat) (a ps : Option Addr) (m pd i : Nat) (F f : Nat → Nat) (vn vo : Value) : Prop where
 vm : Vf wr w.heap.size 24 #[.int .i64 (r : Int), .int .i64 (c : Int), .slice a n k]
 vr : Vf wr (w.heap.size + 1) 28 #[.slice none 0 0, .slice none 0 0, .slice none 0 0]
 vf : Vf wr V 28 #[.slice ps m pd, vn, vo]
 hV : w.heap.size + 1 < V
 inp : Jo wr (w.heap.size + 1) 3 .i64 (.slice ps m pd) m f
 old : ∀ g, (Value.slice ps m pd).ownBlock = some g → g < V
 nodes : Nw wr (V + 1) vn (nds F c m f i)
 outs : Jo wr (V + 1) 3 .i64 vo i (fun t => m + t)
 below : Below w.heap.size w wr
theorem FoI.later {w wr w2 : World} {r c n k V : Nat} {a ps : Option Addr} {m pd i : Nat} {F f : Nat → Nat} {vn vo : Value} (h : FoI w wr r c n k V a ps m pd i F f vn vo) (hb : Below wr.heap.size wr w2) : FoI w w2 r c n k V a ps m pd i F f vn vo :=
 ⟨h.vm.later hb, h.vr.later hb, h.vf.later hb, h.hV, h.inp.later hb, h.old, h.nodes.later hb, h.outs.later hb, jtwo h.below hb⟩
theorem nds_ok {F : Nat → Nat} {r c n m : Nat} {f : Nat → Nat} (R : Rt r c n) (hF : ∀ i, i < n → F i < 256) (hm : m ≤ 64) (hf : ∀ i, i < m → f i < c) : ∀ L ∈ nds F c m f r, L.length ≤ 140737488351232 ∧ ∀ x ∈ L, x.2 < 256 := by
 intro L hL
 unfold nds at hL
 obtain ⟨t, ht, rfl⟩ := List.mem_map.1 hL
 have ht : t < r := by simpa using ht
 refine ⟨by have := tof_len (fun j => F (t * c + j)) f m; omega, tof_ok m (fun i hi => hF _ (R.at ht (hf i hi)))⟩
theorem FoI.flr {w wr : World} {r c n k V : Nat} {a ps : Option Addr} {m pd : Nat} {F f : Nat → Nat} {b e : Option Addr} {q s : Nat} (h : FoI w wr r c n k V a ps m pd r F f (.slice b r q) (.slice e r s)) (R : Rt r c n) (hF : ∀ i, i < n → F i < 256) (hm : m ≤ 64) (hf : ∀ i, i < m → f i < c) : FlR wr ps b e (ofF r c F m f) := by
 have hr := R.r64
 have h1 := (h.nodes.ndl (nds_ok R hF hm hf)).2
 rw [qb0] at h1
 exact ⟨by show m ≤ _; omega, by show r ≤ _; omega, by show r ≤ _; omega, h.inp.jl, h1.congr (fun t ht => by rw [qbh _ _ _ _ _ _ ht]; rfl) (fun t ht => by funext j; rw [qbh _ _ _ _ _ _ ht]; rfl) (fun t ht => by funext j; rw [qbh _ _ _ _ _ _ ht]; rfl), fun i hi => by
  obtain ⟨x, o, ee, hc⟩ := h.outs.jl i hi
  exact ⟨x, o, ee, by rw [hc]; show some (Value.int .i64 ((m + i : Nat) : Int)) = some (Value.int .i64 ((m : Int) + (i : Int))); rw [Int.natCast_add]⟩⟩
theorem FoI.put1 {w wr w5 w8 : World} {r c n k V : Nat} {a ps : Option Addr} {m pd i : Nat} {F f : Nat → Nat} {vn vo u v' : Value} {T : List Trm} (h : FoI w wr r c n k V a ps m pd i F f vn vo) (hb : Below wr.heap.size wr w5) (hT : T = tof (fun j => F (i * c + j)) f m) (hu : Tw w5 (V + 1) u T)
  (ho : ∀ vs : List Value, w5.ownsRow (V + 1) 59 1 vn (nds F c m f i).length vs → w8.ownsRow (V + 1) 59 1 v' ((nds F c m f i).length + 1) (vs ++ [u]) ∧ w5.grownBy w8 vn.ownBlock) :
  Vf (w8.setCell ⟨V, 1, none⟩ v') V 28 #[.slice ps m pd, v', vo] ∧ Vf (w8.setCell ⟨V, 1, none⟩ v') w.heap.size 24 #[.int .i64 (r : Int), .int .i64 (c : Int), .slice a n k] ∧ Vf (w8.setCell ⟨V, 1, none⟩ v') (w.heap.size + 1) 28 #[.slice none 0 0, .slice none 0 0, .slice none 0 0]
  ∧ Jo (w8.setCell ⟨V, 1, none⟩ v') (w.heap.size + 1) 3 .i64 (.slice ps m pd) m f ∧ Nw (w8.setCell ⟨V, 1, none⟩ v') (V + 1) v' (nds F c m f (i + 1)) ∧ Jo (w8.setCell ⟨V, 1, none⟩ v') (V + 1) 3 .i64 vo i (fun t => m + t) ∧ Below w.heap.size w (w8.setCell ⟨V, 1, none⟩ v') := by
 have I := h.later hb
 obtain ⟨vs, k1, k2⟩ := I.nodes
 obtain ⟨o1, o2⟩ := ho vs k1
 have hVb : ∀ b, b ≤ V → vn.ownBlock ≠ some b := fun b hb e => by
  have : V + 1 ≤ b := by
   rcases k1.2 with ⟨e1, _⟩ | ⟨g', cap, cur, e1, hB, _⟩
   ·rw [e1] at e; simp [Value.ownBlock] at e
   ·rw [e1] at e; simp [Value.ownBlock] at e; omega
  omega
 have hV := h.hV
 have f8 : Vf w8 V 28 #[.slice ps m pd, vn, vo] := I.vf.kept o2 (hVb V (Nat.le_refl _))
 have gs := qa2 w8 V 1 v'
 have N8 : Nw w8 (V + 1) v' (nds F c m f (i + 1)) := by
  rw [nds_succ, ← hT]
  exact Nw.push I.nodes hu ho
 have nb : ∀ {v : Value} {T2 : TypeId} {s2 n2 : Nat} {xs : List Value} , w8.ownsRow (V + 1) T2 s2 v n2 xs → v.ownBlock = none ∨ v.ownBlock ≠ some V := fun hh => by
  rename_i v T2 s2 n2 xs
  cases hv : v.ownBlock with
  | none => exact .inl rfl
  | some g =>
   refine .inr fun e => ?_
   cases e
   rcases hh.2 with ⟨e1, _⟩ | ⟨g', cap, cur, e1, hB, _⟩
   ·rw [e1] at hv; simp [Value.ownBlock] at hv
   ·rw [e1] at hv; simp [Value.ownBlock] at hv; omega
 have inp8 : Jo w8 (w.heap.size + 1) 3 .i64 (.slice ps m pd) m f := I.inp.kept o2 (qat I.inp k1 (by decide))
 have outs8 : Jo w8 (V + 1) 3 .i64 vo i (fun t => m + t) := I.outs.kept o2 (qat I.outs k1 (by decide))
 refine ⟨f8.put 1 v', (I.vm.kept o2 (hVb _ (by omega))).kept gs (by simp; omega), (I.vr.kept o2 (hVb _ (by omega))).kept gs (by simp; omega), inp8.kept gs ?_, ?_, outs8.kept gs (nb outs8), ?_⟩
 ·cases hv : (Value.slice ps m pd).ownBlock with
  | none => exact .inl rfl
  | some g => exact .inr fun e => by cases e; have := h.old _ hv; omega
 ·obtain ⟨ws, q1, q2⟩ := N8
  refine ⟨ws, World.ownsRow.kept q1 gs (nb q1), fun j L hj => ?_⟩
  obtain ⟨x, hx, ht⟩ := q2 j L hj
  exact ⟨x, hx, ht.kept gs (nb ht)⟩
 ·have b8 : Below w.heap.size w w8 := I.below.grown o2 I.below.size (fun g e => by
   by_cases hg : g ≤ V
   ·exact absurd e (hVb g hg)
   ·omega)
  exact b8.setCell (show w.heap.size ≤ V by omega) _
end Go.Proofs.Ytkfnedpnkeacpaa
