/-
  Stage 12: y in the place of a name; memory that goes on being read while other blocks are written.
-/
import Derived.Test.YtgmndjbicandfaaDoorQnnes00
import Derived.Test.YtgmndjbicandfaaDoorQnnes23
import Derived.Test.YtgmndjbicandfaaDoorQnnes24
import Derived.Maps.AppendAt
set_option maxRecDepth 100000
set_option maxHeartbeats 16000000
namespace Go.Proofs.YtgmndjbicandfaaDoor
open Go.RowKit
/-- Is it that name? -/
def hitX (s : ByteArray) (T : Xt) : Bool := decide ((T []).k = 2) && sbq (T []).nm s
def xputP (s : ByteArray) (Y : Xt) : List Nat → Xt → Lx
 | [], T => if hitX s T then Y [] else T []
 | i :: p, T => if hitX s T then Y (i :: p) else xputP s Y p (kid T i)
/-- An expression with Y in the place of each name s. -/
def xput (s : ByteArray) (Y : Xt) (T : Xt) : Xt := fun p => xputP s Y p T
theorem qd3 {s : ByteArray} {Y T : Xt} (h : hitX s T = true) : xput s Y T = Y := by
 funext p
 cases p with
 | nil => show (if hitX s T then Y [] else T []) = _; rw [h]; rfl
 | cons i p => show (if hitX s T then Y (i :: p) else xputP s Y p (kid T i)) = _; rw [h]; rfl
theorem qe3 {s : ByteArray} {Y T : Xt} (h : hitX s T = false) : xput s Y T = mkX (T []) (fun i => xput s Y (kid T i)) := by
 funext p
 cases p with
 | nil => show (if hitX s T then Y [] else T []) = T []; rw [h]; rfl
 | cons i p => show (if hitX s T then Y (i :: p) else xputP s Y p (kid T i)) = xputP s Y p (kid T i); rw [h]; rfl
theorem qae {w u : World} {a : Addr} {v : Value} (h : w.cell? a = some v) (hb : u.heap[a.block]? = w.heap[a.block]?) : u.cell? a = some v := by
 rw [← h]
 unfold World.cell?
 rw [hb]
theorem cell_blk {w : World} {a : Addr} {v : Value} (h : w.cell? a = some v) : a.block < w.heap.size := by
 unfold World.cell? at h
 split at h
 ·rename_i hg
  exact lt_of_block hg
 ·cases h
theorem XA.agree {w u : World} (hb : ∀ b, b < w.heap.size → u.heap[b]? = w.heap[b]?) : ∀ {d b o : Nat} {T : Xt}, XA d w b o T → XA d u b o T := by
 intro d
 induction d with
 | zero => intro _ _ _ _; trivial
 | succ d ih =>
  intro b o T h
  obtain ⟨a, cap, h0, h1, h2, h3, h4, h5, hok, hl⟩ := h
  have hB := hb b (cell_blk h0)
  refine ⟨a, cap, qae h0 hB, qae h1 hB, qae h2 hB, qae h3 hB, qae h4 hB, qae h5 hB, hok, fun i hi => ?_⟩
  obtain ⟨b', o', e, h⟩ := hl i hi
  exact ⟨b', o', e, ih h⟩
theorem XV.agree {w u : World} {v : Value} {T : Xt} (h : XV w v T) (hb : ∀ b, b < w.heap.size → u.heap[b]? = w.heap[b]?) : XV u v T := by
 obtain ⟨⟨a, cap, e, hl⟩, hok⟩ := h
 exact ⟨⟨a, cap, e, fun d i hi => by obtain ⟨b, o, e, h⟩ := hl d i hi; exact ⟨b, o, e, h.agree hb⟩⟩, hok⟩
/-- They agree below block s and from block t on. -/
def AgT (s t : Nat) (w u : World) : Prop := ∀ b, b < w.heap.size → (b < s ∨ t ≤ b) → u.heap[b]? = w.heap[b]?
/-- An expression that reads blocks below s and from t on alone. -/
def StX (s t : Nat) (w : World) (v : Value) (T : Xt) : Prop := ∀ u, AgT s t w u → XV u v T
theorem StX.now {s t : Nat} {w : World} {v : Value} {T : Xt} (h : StX s t w v T) : XV w v T := h w (fun _ _ _ => rfl)
theorem StX.old {w0 w : World} {v : Value} {T : Xt} (h : XV w0 v T) (hb : Below w0.heap.size w0 w) (t : Nat) : StX w0.heap.size t w v T := fun u hu => h.agree (fun b hl => by rw [hu b (Nat.lt_of_lt_of_le hl hb.size) (.inl hl), hb.block b hl])
theorem StX.later {s t : Nat} {w w' : World} {v : Value} {T : Xt} (h : StX s t w v T) (hb : Below w.heap.size w w') : StX s t w' v T := fun u hu => h u (fun b hl hr => by rw [hu b (Nat.lt_of_lt_of_le hl hb.size) hr, hb.block b hl])
theorem StX.weak {s t t' : Nat} {w : World} {v : Value} {T : Xt} (h : StX s t w v T) (ht : t' ≤ t) : StX s t' w v T := fun u hu => h u (fun b hl hr => hu b hl (hr.imp id (fun g => by omega)))
/-- The cells of an expression that reads blocks below s and from t on alone, but for g. -/
def StC (s t : Nat) (g : Option Nat) (w : World) (cs : List Value) (T : Xt) : Prop := ∀ u, (∀ b, b < w.heap.size → (b < s ∨ t ≤ b) → some b ≠ g → u.heap[b]? = w.heap[b]?) → XC u cs T
theorem StX.cells {s t t1 : Nat} {g : Option Nat} {w : World} {cs : Array Value} {T : Xt} (h : StX s t1 w (.agg cs) T) (ht : t ≤ t1) (hg : ∀ x, g = some x → s ≤ x ∧ x < t1) : StC s t g w cs.toList T := fun u hu => by
 obtain ⟨⟨a, cap, e, hl⟩, hok⟩ := h u (fun b hb hr => hu b hb (hr.imp id (fun q => by omega)) (fun e => by have := hg b e.symm; omega))
 cases e
 exact ⟨a, cap, rfl, hok, hl⟩
theorem StC.later {s t : Nat} {g : Option Nat} {w w' : World} {cs : List Value} {T : Xt} (h : StC s t g w cs T) (hb : Below w.heap.size w w') : StC s t g w' cs T := fun u hu => h u (fun b hl hr hn => by rw [hu b (Nat.lt_of_lt_of_le hl hb.size) hr hn, hb.block b hl])
theorem StC.app {s t : Nat} {g g' : Option Nat} {w w' : World} {cs : List Value} {T : Xt} (h : StC s t g w cs T) (hg : w.grownBy w' g) (hl : g' = g ∨ g' = some w.heap.size) : StC s t g' w' cs T := fun u hu => h u (fun b hb hr hn => by
 rw [hu b (Nat.lt_of_lt_of_le hb hg.size) hr (fun e => by rcases hl with rfl | rfl; exact hn e; cases e; omega), hg.block b hb hn])
/-- The cells of element j. -/
def seg6 (cs : List Value) (j : Nat) : List Value := (cs.drop (j * 6)).take 6
theorem seg6_at (cs : List Value) (j q : Nat) (hq : q < 6) : (seg6 cs j)[q]? = cs[j * 6 + q]? := by
 unfold seg6
 rw [List.getElem?_take, if_pos hq, List.getElem?_drop]
theorem qb9 {cs ds : List Value} {j n : Nat} (hl : cs.length = n * 6) (hj : j < n) : seg6 (cs ++ ds) j = seg6 cs j := by
 unfold seg6
 rw [List.drop_append_of_le_length (by omega), List.take_append_of_le_length (by rw [List.length_drop]; omega)]
theorem qba {cs ds : List Value} {n : Nat} (hl : cs.length = n * 6) (hd : ds.length = 6) : seg6 (cs ++ ds) n = ds := by
 unfold seg6
 rw [← hl, List.drop_left, List.take_of_length_le (by omega)]
/-- A list of the call's own, read in every world that agrees with this one. -/
theorem qb1 {s t B n : Nat} {w : World} {vp : Value} {cs : List Value} {F : Nat → Xt} (ho : w.ownsRow B 25 6 vp n cs) (ht : t ≤ B) (hF : ∀ j, j < n → StC s t vp.ownBlock w (seg6 cs j) (F j)) : ∃ a cap, vp = .slice a n cap ∧ ∀ u, AgT s t w u → ∀ d, XL d u a n F := by
 rcases ho with ⟨hlen, ⟨e, h0⟩ | ⟨g, cap, cur, e, hB, hb, hn, _, hs, hc⟩⟩
 ·exact ⟨none, 0, by rw [e, h0], fun u _ d i hi => by omega⟩
 ·refine ⟨some ⟨g, 0, none⟩, cap, e, fun u hu d i hi => ⟨g, 0, rfl, ?_⟩⟩
  have hg : u.heap[g]? = some (.cells cur 25 (0, 0)) := by rw [hu g (lt_of_block hb) (.inr (by omega))]; exact hb
  refine (hF i hi u (fun b h1 h2 _ => hu b h1 h2)).at_ (fun j hj => ?_) d
  rw [seg6_at _ _ _ hj, ← hc, cell_of_row u g _ _ _ _ hg, Nat.zero_add, List.getElem?_take, if_pos (by omega), Array.getElem?_toList]
theorem qbv {x y z u v t : Value} (h0 : x.oneCell' = true) (h1 : y.oneCell' = true) (h2 : z.oneCell' = true) (h3 : u.oneCell' = true) (h4 : v.oneCell' = true) (h5 : t.oneCell' = true) : ∀ q ∈ [x, y, z, u, v, t], q.oneCell' = true := by
 intro q hq
 simp only [List.mem_cons, List.not_mem_nil, or_false] at hq
 rcases hq with rfl | rfl | rfl | rfl | rfl | rfl <;> assumption
end Go.Proofs.YtgmndjbicandfaaDoor
