/-
  Contracts of the program's tree: a line of tokens (line, put, text).
-/
import Derived.Test.YtgmndjbicandfaaDoorDc
import Derived.Test.YtgmndjbicandfaaDoorGb
namespace Go.Proofs.YtgmndjbicandfaaDoor
open Go.RowKit
theorem mkf10 : ∀ (fn : Fn) (first cap : Array Value) (w : World), (Instr.makeFunc fn first cap).run Tryd.prog w = .ok (.func fn first cap) w := fun _ _ _ _ => rfl
/-- The cells of a token, of tokens. -/
def tvc (t : TV) : List Value := [.int .u8 (t.k : Int), .string t.tx, .int .i64 t.n, .int .i64 t.ln, .int .i64 t.cl]
def tvr (L : List TV) : List Value := L.flatMap tvc
theorem tvr_snoc (L : List TV) (t : TV) : tvr (L ++ [t]) = tvr L ++ tvc t := by simp [tvr]
theorem tvr_len : ∀ L : List TV, (tvr L).length = L.length * 5 := by
  intro L
  induction L with
  | nil => rfl
  | cons t L ih =>
    rw [show tvr (t :: L) = tvc t ++ tvr L from rfl, List.length_append, ih, List.length_cons]
    show 5 + _ = _
    omega
/-- A list of tokens of the call's own. -/
def Tvl (w : World) (B : Nat) (v : Value) (L : List TV) : Prop := w.ownsRow B 96 5 v L.length (tvr L)
theorem Tvl.nil (w : World) (B : Nat) : Tvl w B (.slice none 0 0) [] := World.ownsRow_nil _ _ _ _
theorem Tvl.later {w w' : World} {B : Nat} {v : Value} {L : List TV} (h : Tvl w B v L) (hb : Below w.heap.size w w') : Tvl w' B v L := World.ownsRow.kept h (jgrown.mpr hb) (by cases hv : v.ownBlock <;> simp)
theorem Tvl.kept {w w' : World} {B : Nat} {v : Value} {L : List TV} {row : Option Nat} (h : Tvl w B v L) (hg : w.grownBy w' row) (hne : v.ownBlock = none ∨ v.ownBlock ≠ row) : Tvl w' B v L := World.ownsRow.kept h hg hne
theorem Tvl.form {w : World} {B : Nat} {v : Value} {L : List TV} (h : Tvl w B v L) : ∃ a d, v = .slice a L.length d := by
  rcases h.2 with ⟨e, h0⟩ | ⟨g, cap, cur, e, _⟩
  · exact ⟨none, 0, by rw [e, h0]⟩
  · exact ⟨_, _, e⟩
theorem Tvl.base {w : World} {B : Nat} {v : Value} {L : List TV} (h : Tvl w B v L) {g : Nat} (hg : v.ownBlock = some g) : B ≤ g ∧ g < w.heap.size := by
  rcases h.2 with ⟨e, _⟩ | ⟨g', cap, cur, e, hB, hb, _⟩
  · rw [e] at hg; simp [Value.ownBlock] at hg
  · rw [e] at hg; simp [Value.ownBlock] at hg; subst hg; exact ⟨hB, lt_of_block hb⟩
theorem tvr_get : ∀ (L : List TV) (i : Nat) (t : TV), L[i]? = some t → ∀ j, j < 5 → (tvr L)[i * 5 + j]? = (tvc t)[j]? := by
  intro L
  induction L with
  | nil => intro i t h; simp at h
  | cons u L ih =>
    intro i t h j hj
    have hl : (tvc u).length = 5 := rfl
    rw [show tvr (u :: L) = tvc u ++ tvr L from rfl]
    cases i with
    | zero =>
      simp only [List.getElem?_cons_zero, Option.some.injEq] at h
      subst h
      rw [List.getElem?_append_left (by omega)]
      congr 1
      omega
    | succ i =>
      rw [List.getElem?_append_right (by omega), hl, show (i + 1) * 5 + j - 5 = i * 5 + j by omega]
      exact ih i t (by simpa using h) j hj
/-- Such a list as tokens in memory. -/
theorem Tvl.toks {w : World} {B d : Nat} {a : Option Addr} {L : List TV} (h : Tvl w B (.slice a L.length d) L) (hok : ∀ t ∈ L, TvOk t) : Toks w a L.length (gtv L) := by
  refine ⟨fun i hi => ?_, fun i hi => by rw [gtv_at hi]; exact hok _ (List.getElem_mem hi)⟩
  rw [gtv_at hi]
  rcases h.2 with ⟨_, h0⟩ | ⟨g, cap, cur, e, _⟩
  · omega
  · cases e
    have hg := fun j (hj : j < 5) => tvr_get L i L[i] (by simp [hi]) j hj
    have hc : ∀ j, j < 5 → w.cell? ⟨g, 0 + i * 5 + j, none⟩ = (tvc L[i])[j]? := fun j hj => by
      rw [Nat.zero_add, World.ownsRow.cellAt h (i * 5 + j) (by omega)]
      exact hg j hj
    exact ⟨g, 0, rfl, hc 0 (by decide), hc 1 (by decide), hc 2 (by decide), hc 3 (by decide), hc 4 (by decide)⟩
theorem Vn.kept {w w' : World} {b : Nat} {T : TypeId} {xs : Array Value} {row : Option Nat} (h : Vn w b T xs) (hg : w.grownBy w' row) (hne : some b ≠ row) : Vn w' b T xs := by
  have := h.lt
  unfold Vn at *
  rw [hg.block b this hne]
  exact h
/-- Nothing is changed but the line: its variable, and lists of tokens. -/
structure Gw (bc : Nat) (w w' : World) : Prop where
  size : w.heap.size ≤ w'.heap.size
  same : ∀ b, b < w.heap.size → b ≠ bc → (∀ xs q, w.heap[b]? ≠ some (.cells xs 96 q)) → w'.heap[b]? = w.heap[b]?
theorem Gw.refl (bc : Nat) (w : World) : Gw bc w w := ⟨Nat.le_refl _, fun _ _ _ _ => rfl⟩
theorem Gw.trans {bc : Nat} {w w1 w2 : World} (h : Gw bc w w1) (g : Gw bc w1 w2) : Gw bc w w2 := by
  refine ⟨Nat.le_trans h.size g.size, fun b hb hn ho => ?_⟩
  have e := h.same b hb hn ho
  rw [g.same b (Nat.lt_of_lt_of_le hb h.size) hn (fun xs q => by rw [e]; exact ho xs q), e]
theorem Gw.of {bc : Nat} {w w' : World} (hb : Below w.heap.size w w') : Gw bc w w' := ⟨hb.size, fun b h _ _ => hb.block b h⟩
/-- A variable that is none of the line's. -/
structure Bx (w : World) (bc b : Nat) (T : TypeId) (xs : Array Value) : Prop where
  var : Vn w b T xs
  ne : b ≠ bc
  own : T ≠ 96
theorem Bx.step {w w' : World} {bc b : Nat} {T : TypeId} {xs : Array Value} (h : Bx w bc b T xs) (g : Gw bc w w') : Bx w' bc b T xs := by
  have hlt := h.var.lt
  refine ⟨?_, h.ne, h.own⟩
  have hv := h.var
  unfold Vn at *
  rw [g.same b hlt h.ne (fun ys q e => by rw [hv] at e; cases e; exact h.own rfl)]
  exact hv
theorem Bx.cell {w : World} {bc b : Nat} {T : TypeId} {xs : Array Value} (h : Bx w bc b T xs) (i : Nat) (v : Value) (hv : xs[i]? = some v) : w.cell? ⟨b, i, none⟩ = some v := h.var.cell i v hv
/-- What a line's text is. -/
theorem join_of {L : List TV} {b : List UInt8} (h : TkF L b) : JoinA (gtv L) L.length (if b.length ≤ 65536 then ⟨b.toArray⟩ else ⟨#[]⟩) (if b.length ≤ 65536 then 0 else 4) := by
  have hm : ∀ i, i < L.length → mayB (gtv L i) = true := fun i hi => by rw [gtv_at hi]; exact (h.ok _ (List.getElem_mem hi)).1
  obtain ⟨m, hm1⟩ : ∃ m, L.length = m + 1 := by
    cases hL : L with
    | nil => exact absurd hL h.ne
    | cons t r => exact ⟨r.length, rfl⟩
  have hj := jn_all L
  have hl := jn_len (gtv L) m
  rw [← hm1] at hl
  rw [h.by_] at hj
  have hs : (jn (gtv L) L.length).size = b.length := by rw [← hj, Array.length_toList]; rfl
  by_cases hb : b.length ≤ 65536
  · rw [if_pos hb, if_pos hb]
    refine .inr (.inr ⟨rfl, hm, by omega, ?_⟩)
    rw [← hj]
  · rw [if_neg hb, if_neg hb]
    exact .inr (.inl ⟨rfl, rfl, hm, by omega⟩)
end Go.Proofs.YtgmndjbicandfaaDoor
