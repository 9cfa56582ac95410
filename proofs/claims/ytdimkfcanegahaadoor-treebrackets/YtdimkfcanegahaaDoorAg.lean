/-
  Contracts of the token's reference: Like; Cut of a text that is too long.
-/
import Derived.Test.YtdimkfcanegahaaDoorAf
namespace Go.Proofs.YtdimkfcanegahaaDoor
open Go.RowKit
/-- A token in memory. -/
structure TV where
  k : Nat
  tx : ByteArray
  n : Int
  ln : Int
  cl : Int
/-- The token i of a list in memory. -/
def TvAt (w : World) (x : Option Addr) (i : Nat) (v : TV) : Prop := ∃ b o, x = some ⟨b, o, none⟩ ∧ w.cell? ⟨b, o + i * 5, none⟩ = some (.int .u8 (v.k : Int)) ∧ w.cell? ⟨b, o + i * 5 + 1, none⟩ = some (.string v.tx) ∧ w.cell? ⟨b, o + i * 5 + 2, none⟩ = some (.int .i64 v.n) ∧ w.cell? ⟨b, o + i * 5 + 3, none⟩ = some (.int .i64 v.ln) ∧ w.cell? ⟨b, o + i * 5 + 4, none⟩ = some (.int .i64 v.cl)
theorem TvAt.later {w w' : World} {x : Option Addr} {i : Nat} {v : TV} (h : TvAt w x i v) (hb : Below w.heap.size w w') : TvAt w' x i v := by
  obtain ⟨b, o, e, h0, h1, h2, h3, h4⟩ := h
  have hl := jcell_lt h0
  have he : ∀ q, w'.cell? ⟨b, q, none⟩ = w.cell? ⟨b, q, none⟩ := fun q => by unfold World.cell?; rw [hb.block b hl]
  exact ⟨b, o, e, by rw [he]; exact h0, by rw [he]; exact h1, by rw [he]; exact h2, by rw [he]; exact h3, by rw [he]; exact h4⟩
/-- The token that a cutting tells. -/
def tvo (s : ByteArray) (t : Tk) : TV := ⟨t.kind, ttx s t, (t.num : Nat), (lnn s t.lo : Nat), (cln s t.lo : Nat)⟩
theorem trow_get (s : ByteArray) : ∀ (L : List Tk) (i : Nat) (t : Tk), L[i]? = some t → ∀ j, j < 5 → (trow s L)[i * 5 + j]? = (tcs s t)[j]? := by
  intro L
  induction L with
  | nil => intro i t h; simp at h
  | cons u L ih =>
    intro i t h j hj
    have hl : (tcs s u).length = 5 := rfl
    rw [show trow s (u :: L) = tcs s u ++ trow s L from rfl]
    cases i with
    | zero =>
      simp only [List.getElem?_cons_zero, Option.some.injEq] at h
      subst h
      rw [List.getElem?_append_left (by omega)]
      congr 1
      omega
    | succ i =>
      rw [List.getElem?_append_right (by omega), hl, show (i + 1) * 5 + j - 5 = i * 5 + j by omega]
      exact ih i t (by simpa using h) j hj
theorem Tls.tv {w : World} {B d : Nat} {a : Option Addr} {s : ByteArray} {L : List Tk} (h : Tls w B (.slice a L.length d) s L) (i : Nat) (hi : i < L.length) : TvAt w a i (tvo s L[i]) := by
  rcases h.2 with ⟨_, h0⟩ | ⟨g, cap, cur, e, _⟩
  · omega
  · cases e
    have hg := fun j (hj : j < 5) => trow_get s L i L[i] (by simp [hi]) j hj
    have hc : ∀ j, j < 5 → w.cell? ⟨g, 0 + i * 5 + j, none⟩ = (tcs s L[i])[j]? := fun j hj => by
      rw [Nat.zero_add, World.ownsRow.cellAt h (i * 5 + j) (by omega)]
      exact hg j hj
    exact ⟨g, 0, rfl, hc 0 (by decide), hc 1 (by decide), hc 2 (by decide), hc 3 (by decide), hc 4 (by decide)⟩
end Go.Proofs.YtdimkfcanegahaaDoor
