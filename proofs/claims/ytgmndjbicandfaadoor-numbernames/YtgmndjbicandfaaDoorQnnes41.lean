/-
  Contracts of the program's tree: May.
-/
import Derived.Test.YtgmndjbicandfaaDoorQnnes00
import Derived.Test.YtgmndjbicandfaaDoorQnnes40
set_option maxRecDepth 100000
set_option maxHeartbeats 16000000
namespace Go.Proofs.YtgmndjbicandfaaDoor
open Go.RowKit
theorem range19 {w : World} {b o : Nat} {y0 y1 y2 y3 y4 y5 y6 y7 y8 y9 y10 y11 y12 y13 y14 y15 y16 y17 y18 : Value} (h0 : w.cell? ⟨b, o, none⟩ = some y0) (h1 : w.cell? ⟨b, o + 1, none⟩ = some y1) (h2 : w.cell? ⟨b, o + 2, none⟩ = some y2) (h3 : w.cell? ⟨b, o + 3, none⟩ = some y3) (h4 : w.cell? ⟨b, o + 4, none⟩ = some y4) (h5 : w.cell? ⟨b, o + 5, none⟩ = some y5) (h6 : w.cell? ⟨b, o + 6, none⟩ = some y6) (h7 : w.cell? ⟨b, o + 7, none⟩ = some y7) (h8 : w.cell? ⟨b, o + 8, none⟩ = some y8) (h9 : w.cell? ⟨b, o + 9, none⟩ = some y9) (h10 : w.cell? ⟨b, o + 10, none⟩ = some y10) (h11 : w.cell? ⟨b, o + 11, none⟩ = some y11) (h12 : w.cell? ⟨b, o + 12, none⟩ = some y12) (h13 : w.cell? ⟨b, o + 13, none⟩ = some y13) (h14 : w.cell? ⟨b, o + 14, none⟩ = some y14) (h15 : w.cell? ⟨b, o + 15, none⟩ = some y15) (h16 : w.cell? ⟨b, o + 16, none⟩ = some y16) (h17 : w.cell? ⟨b, o + 17, none⟩ = some y17) (h18 : w.cell? ⟨b, o + 18, none⟩ = some y18) : w.rangeAt b o [y0, y1, y2, y3, y4, y5, y6, y7, y8, y9, y10, y11, y12, y13, y14, y15, y16, y17, y18] := by
 intro j v hj
 rcases j with _ | j
 ·have e : y0 = v := by simpa using hj
  rw [← e]
  exact h0
 rcases j with _ | j
 ·have e : y1 = v := by simpa using hj
  rw [← e]
  exact h1
 rcases j with _ | j
 ·have e : y2 = v := by simpa using hj
  rw [← e]
  exact h2
 rcases j with _ | j
 ·have e : y3 = v := by simpa using hj
  rw [← e]
  exact h3
 rcases j with _ | j
 ·have e : y4 = v := by simpa using hj
  rw [← e]
  exact h4
 rcases j with _ | j
 ·have e : y5 = v := by simpa using hj
  rw [← e]
  exact h5
 rcases j with _ | j
 ·have e : y6 = v := by simpa using hj
  rw [← e]
  exact h6
 rcases j with _ | j
 ·have e : y7 = v := by simpa using hj
  rw [← e]
  exact h7
 rcases j with _ | j
 ·have e : y8 = v := by simpa using hj
  rw [← e]
  exact h8
 rcases j with _ | j
 ·have e : y9 = v := by simpa using hj
  rw [← e]
  exact h9
 rcases j with _ | j
 ·have e : y10 = v := by simpa using hj
  rw [← e]
  exact h10
 rcases j with _ | j
 ·have e : y11 = v := by simpa using hj
  rw [← e]
  exact h11
 rcases j with _ | j
 ·have e : y12 = v := by simpa using hj
  rw [← e]
  exact h12
 rcases j with _ | j
 ·have e : y13 = v := by simpa using hj
  rw [← e]
  exact h13
 rcases j with _ | j
 ·have e : y14 = v := by simpa using hj
  rw [← e]
  exact h14
 rcases j with _ | j
 ·have e : y15 = v := by simpa using hj
  rw [← e]
  exact h15
 rcases j with _ | j
 ·have e : y16 = v := by simpa using hj
  rw [← e]
  exact h16
 rcases j with _ | j
 ·have e : y17 = v := by simpa using hj
  rw [← e]
  exact h17
 rcases j with _ | j
 ·have e : y18 = v := by simpa using hj
  rw [← e]
  exact h18
 ·simp at hj
/-- The cells of an item of a list, in letters. -/
theorem Its.at_ {w : World} {a : Option Addr} {n : Nat} {F : Nat → It} (h : Its w a n F) {i : Nat} (hi : i < n) : ∃ (b o k pl nl vk vl vc sk na ca np cp nr cr lc : Nat) (nm vm sm : ByteArray) (vn vln vcl sln scl ln cl : Int) (va aa pa ra la : Option Addr) (T : Xt) (S : St) (G : Nat → Xt), a = some ⟨b, o, none⟩ ∧ F i = ⟨k, nm, T, S, pl, nl, G, ln, cl⟩ ∧ XV w (.agg #[.int .u8 (vk : Int), .int .i64 vn, .string vm, .slice va vl vc, .int .i64 vln, .int .i64 vcl]) T ∧ SV w (.agg #[.int .u8 (sk : Int), .string sm, .slice aa na ca, .slice pa np cp, .slice ra nr cr, .int .i64 sln, .int .i64 scl]) S ∧ (∀ d, XL d w la nl G) ∧ k < 256 ∧ pl < 256 ∧ nm.size ≤ 140737488351232 ∧ nl ≤ 140737488351232 ∧
  ∀ w', Below w.heap.size w w' → w'.rangeAt b (o + i * 19) [.int .u8 (k : Int), .string nm, .int .u8 (vk : Int), .int .i64 vn, .string vm, .slice va vl vc, .int .i64 vln, .int .i64 vcl, .int .u8 (sk : Int), .string sm, .slice aa na ca, .slice pa np cp, .slice ra nr cr, .int .i64 sln, .int .i64 scl, .int .u8 (pl : Int), .slice la nl lc, .int .i64 ln, .int .i64 cl] := by
 obtain ⟨b, o, e, hI⟩ := h i hi
 obtain ⟨la, lc, hc16, hl⟩ := hI.lst
 obtain ⟨va, vc, x0, x1, x2, x3, x4, x5, xok, _⟩ := hI.val 1
 obtain ⟨aa, pa, ra, ca, cp, cr, s0, s1, s2, s3, s4, s5, s6, sok, sa, sr, _⟩ := hI.shp 1
 refine ⟨b, o, _, _, _, _, _, vc, _, _, ca, _, cp, _, cr, lc, _, _, _, _, _, _, _, _, _, _, va, aa, pa, ra, la, (F i).val, (F i).shp, (F i).list, e, rfl, ⟨⟨va, vc, rfl, fun d j hj => ?_⟩, xok⟩, ⟨⟨aa, pa, ra, ca, cp, cr, rfl, sa, sr, fun d j hj => ?_⟩, sok⟩, hl, hI.k8, hI.pl8, hI.nm47, hI.nl47, fun w' hb => range19 (cell_kept hI.c0 hb) (cell_kept hI.c1 hb) (cell_kept x0 hb) (cell_kept x1 hb) (cell_kept x2 hb) (cell_kept x3 hb) (cell_kept x4 hb) (cell_kept x5 hb) (cell_kept s0 hb) (cell_kept s1 hb) (cell_kept s2 hb) (cell_kept s3 hb) (cell_kept s4 hb) (cell_kept s5 hb) (cell_kept s6 hb) (cell_kept hI.c15 hb) (cell_kept hc16 hb) (cell_kept hI.c17 hb) (cell_kept hI.c18 hb)⟩
 ·obtain ⟨va', vc', _, _, _, g3, _, _, _, hk⟩ := hI.val (d + 1)
  rw [x3] at g3
  cases g3
  exact hk j hj
 ·obtain ⟨aa', pa', ra', ca', cp', cr', _, _, _, g3, _, _, _, _, _, _, hk⟩ := hI.shp (d + 1)
  rw [s3] at g3
  cases g3
  exact hk j hj
end Go.Proofs.YtgmndjbicandfaaDoor
