/-
  Stage 10: items and descriptions are told by their texts. No Go in sight.
-/
import Derived.Test.YtdimkfcanegahaaDoorCo
namespace Go.Proofs.YtdimkfcanegahaaDoor
open Go.RowKit
/-- The zero expression, the zero shape. -/
def ZX (T : Xt) : Prop := (T []).k = 0 ∧ (T []).n = 0 ∧ (T []).nm = ⟨#[]⟩ ∧ (T []).len = 0
def ZS (S : St) : Prop := (S []).k = 0 ∧ (S []).nm = ⟨#[]⟩ ∧ (S []).na = 0 ∧ (S []).nr = 0 ∧ (S []).np = 0
theorem ZX.like {T U : Xt} (h : ZX T) (g : ZX U) : xlk 16 T U := ⟨by rw [h.1, g.1], by rw [h.2.1, g.2.1], by rw [h.2.2.1, g.2.2.1], by rw [h.2.2.2, g.2.2.2], fun i hi => by have := h.2.2.2; omega⟩
theorem ZS.like {S U : St} (h : ZS S) (g : ZS U) : slk 16 S U := by
  obtain ⟨h1, h2, h3, h4, h5⟩ := h
  obtain ⟨g1, g2, g3, g4, g5⟩ := g
  exact ⟨by rw [h1, g1], by rw [h2, g2], by omega, fun i hi => by omega, by omega, fun i hi => by omega, by omega, fun i hi => by omega⟩
/-- An item may be. -/
def MI (I : It) : Prop :=
  (I.k = 1 ∧ I.pl = 0 ∧ NameP I.nm ∧ MX 16 I.val ∧ ZS I.shp ∧ I.nl = 0) ∨
  (I.k = 2 ∧ I.pl = 0 ∧ NameP I.nm ∧ ZX I.val ∧ MS 16 I.shp ∧ I.nl = 0) ∨
  (I.k = 3 ∧ I.pl = 0 ∧ NameP I.nm ∧ ZX I.val ∧ ZS I.shp ∧ I.nl = 0) ∨
  (I.k = 4 ∧ I.pl = 0 ∧ I.nm = ⟨#[]⟩ ∧ MX 16 I.val ∧ ZS I.shp ∧ I.nl = 0) ∨
  (I.k = 6 ∧ I.pl = 0 ∧ I.nm = ⟨#[]⟩ ∧ MX 16 I.val ∧ ZS I.shp ∧ I.nl = 0) ∨
  (I.k = 5 ∧ I.pl = 1 ∧ I.nm = ⟨#[]⟩ ∧ ZX I.val ∧ ZS I.shp ∧ I.nl = 0) ∨
  (I.k = 5 ∧ I.pl = 2 ∧ I.nm = ⟨#[]⟩ ∧ ZX I.val ∧ ZS I.shp ∧ I.nl = 0) ∨
  (I.k = 5 ∧ I.pl = 3 ∧ I.nm = ⟨#[]⟩ ∧ MX 16 I.val ∧ ZS I.shp ∧ I.nl = 0) ∨
  (I.k = 5 ∧ I.pl = 4 ∧ I.nm = ⟨#[]⟩ ∧ ZX I.val ∧ ZS I.shp ∧ (1 ≤ I.nl ∧ ∀ i, i < I.nl → MX 16 (I.list i)))
/-- The bytes of an item's text. -/
def iby (I : It) : List UInt8 :=
  if I.k = 1 then 99 :: 111 :: 110 :: 115 :: 116 :: 32 :: (I.nm.data.toList ++ 32 :: 61 :: 32 :: (xby 16 I.val ++ 32 :: 59 :: 10 :: [])) else
  if I.k = 2 then 99 :: 111 :: 100 :: 101 :: 32 :: (I.nm.data.toList ++ 32 :: 61 :: 32 :: (sby 16 I.shp ++ 32 :: 59 :: 10 :: [])) else
  if I.k = 3 then 117 :: 115 :: 101 :: 32 :: (I.nm.data.toList ++ 32 :: 59 :: 10 :: []) else
  if I.k = 4 then 100 :: 111 :: 109 :: 97 :: 105 :: 110 :: 115 :: 32 :: (xby 16 I.val ++ 32 :: 59 :: 10 :: []) else
  if I.k = 6 then 116 :: 111 :: 108 :: 101 :: 114 :: 97 :: 116 :: 101 :: 32 :: (xby 16 I.val ++ 32 :: 59 :: 10 :: []) else
  if I.pl = 1 then 112 :: 108 :: 97 :: 99 :: 101 :: 32 :: 114 :: 111 :: 119 :: 32 :: 59 :: 10 :: [] else
  if I.pl = 2 then 112 :: 108 :: 97 :: 99 :: 101 :: 32 :: 115 :: 112 :: 114 :: 101 :: 97 :: 100 :: 32 :: 59 :: 10 :: [] else
  if I.pl = 3 then 112 :: 108 :: 97 :: 99 :: 101 :: 32 :: 115 :: 112 :: 105 :: 114 :: 97 :: 108 :: 32 :: (xby 16 I.val ++ 32 :: 59 :: 10 :: []) else
  112 :: 108 :: 97 :: 99 :: 101 :: 32 :: 108 :: 105 :: 115 :: 116 :: 32 :: 91 :: 32 :: (rtr 16 I.list I.nl 0 ++ 32 :: 93 :: 32 :: 59 :: 10 :: [])
/-- The same but for places. -/
def ilk (I J : It) : Prop := I.k = J.k ∧ I.pl = J.pl ∧ I.nm = J.nm ∧ xlk 16 I.val J.val ∧ slk 16 I.shp J.shp ∧ I.nl = J.nl ∧ ∀ i, i < I.nl → xlk 16 (I.list i) (J.list i)
theorem iby_const {I : It} (hk : I.k = 1) : iby I = 99 :: 111 :: 110 :: 115 :: 116 :: 32 :: (I.nm.data.toList ++ 32 :: 61 :: 32 :: (xby 16 I.val ++ 32 :: 59 :: 10 :: [])) := by
  unfold iby
  rw [if_pos hk]
theorem iby_code {I : It} (hk : I.k = 2) : iby I = 99 :: 111 :: 100 :: 101 :: 32 :: (I.nm.data.toList ++ 32 :: 61 :: 32 :: (sby 16 I.shp ++ 32 :: 59 :: 10 :: [])) := by
  unfold iby
  rw [if_neg (by omega), if_pos hk]
theorem iby_use {I : It} (hk : I.k = 3) : iby I = 117 :: 115 :: 101 :: 32 :: (I.nm.data.toList ++ 32 :: 59 :: 10 :: []) := by
  unfold iby
  rw [if_neg (by omega), if_neg (by omega), if_pos hk]
theorem iby_domains {I : It} (hk : I.k = 4) : iby I = 100 :: 111 :: 109 :: 97 :: 105 :: 110 :: 115 :: 32 :: (xby 16 I.val ++ 32 :: 59 :: 10 :: []) := by
  unfold iby
  rw [if_neg (by omega), if_neg (by omega), if_neg (by omega), if_pos hk]
theorem iby_tolerate {I : It} (hk : I.k = 6) : iby I = 116 :: 111 :: 108 :: 101 :: 114 :: 97 :: 116 :: 101 :: 32 :: (xby 16 I.val ++ 32 :: 59 :: 10 :: []) := by
  unfold iby
  rw [if_neg (by omega), if_neg (by omega), if_neg (by omega), if_neg (by omega), if_pos hk]
theorem iby_row {I : It} (hk : I.k = 5) (hp : I.pl = 1) : iby I = 112 :: 108 :: 97 :: 99 :: 101 :: 32 :: 114 :: 111 :: 119 :: 32 :: 59 :: 10 :: [] := by
  unfold iby
  rw [if_neg (by omega), if_neg (by omega), if_neg (by omega), if_neg (by omega), if_neg (by omega), if_pos hp]
theorem iby_spread {I : It} (hk : I.k = 5) (hp : I.pl = 2) : iby I = 112 :: 108 :: 97 :: 99 :: 101 :: 32 :: 115 :: 112 :: 114 :: 101 :: 97 :: 100 :: 32 :: 59 :: 10 :: [] := by
  unfold iby
  rw [if_neg (by omega), if_neg (by omega), if_neg (by omega), if_neg (by omega), if_neg (by omega), if_neg (by omega), if_pos hp]
theorem iby_spiral {I : It} (hk : I.k = 5) (hp : I.pl = 3) : iby I = 112 :: 108 :: 97 :: 99 :: 101 :: 32 :: 115 :: 112 :: 105 :: 114 :: 97 :: 108 :: 32 :: (xby 16 I.val ++ 32 :: 59 :: 10 :: []) := by
  unfold iby
  rw [if_neg (by omega), if_neg (by omega), if_neg (by omega), if_neg (by omega), if_neg (by omega), if_neg (by omega), if_neg (by omega), if_pos hp]
theorem iby_list {I : It} (hk : I.k = 5) (hp : I.pl = 4) : iby I = 112 :: 108 :: 97 :: 99 :: 101 :: 32 :: 108 :: 105 :: 115 :: 116 :: 32 :: 91 :: 32 :: (rtr 16 I.list I.nl 0 ++ 32 :: 93 :: 32 :: 59 :: 10 :: []) := by
  unfold iby
  rw [if_neg (by omega), if_neg (by omega), if_neg (by omega), if_neg (by omega), if_neg (by omega), if_neg (by omega), if_neg (by omega), if_neg (by omega)]
set_option maxHeartbeats 4000000 in
/-- An item is told by its text, and where it ends. -/
theorem iby_one {I J : It} {r s : List UInt8} (hI : MI I) (hJ : MI J) (e : iby I ++ r = iby J ++ s) : ilk I J ∧ r = s := by
  rcases hI with ⟨k1, p1, n1, v1, s1, l1⟩ | ⟨k1, p1, n1, v1, s1, l1⟩ | ⟨k1, p1, n1, v1, s1, l1⟩ | ⟨k1, p1, n1, v1, s1, l1⟩ | ⟨k1, p1, n1, v1, s1, l1⟩ | ⟨k1, p1, n1, v1, s1, l1⟩ | ⟨k1, p1, n1, v1, s1, l1⟩ | ⟨k1, p1, n1, v1, s1, l1⟩ | ⟨k1, p1, n1, v1, s1, l1⟩ <;>
    rcases hJ with ⟨k2, p2, n2, v2, s2, l2⟩ | ⟨k2, p2, n2, v2, s2, l2⟩ | ⟨k2, p2, n2, v2, s2, l2⟩ | ⟨k2, p2, n2, v2, s2, l2⟩ | ⟨k2, p2, n2, v2, s2, l2⟩ | ⟨k2, p2, n2, v2, s2, l2⟩ | ⟨k2, p2, n2, v2, s2, l2⟩ | ⟨k2, p2, n2, v2, s2, l2⟩ | ⟨k2, p2, n2, v2, s2, l2⟩
  · rw [iby_const k1, iby_const k2] at e
    have e1 : I.nm.data.toList ++ (32 :: 61 :: 32 :: (xby 16 I.val ++ 32 :: 59 :: 10 :: r)) = J.nm.data.toList ++ (32 :: 61 :: 32 :: (xby 16 J.val ++ 32 :: 59 :: 10 :: s)) := List.append_cancel_left (show [99, 111, 110, 115, 116, 32] ++ (I.nm.data.toList ++ (32 :: 61 :: 32 :: (xby 16 I.val ++ 32 :: 59 :: 10 :: r))) = [99, 111, 110, 115, 116, 32] ++ (J.nm.data.toList ++ (32 :: 61 :: 32 :: (xby 16 J.val ++ 32 :: 59 :: 10 :: s))) by simpa using e)
    obtain ⟨g1, g2⟩ := stp_one _ _ _ _ (name_by n1).1 (name_by n2).1 (.inr ⟨_, rfl⟩) (.inr ⟨_, rfl⟩) e1
    have e2 := List.append_cancel_left (show [32, 61, 32] ++ (xby 16 I.val ++ (32 :: 59 :: 10 :: r)) = [32, 61, 32] ++ (xby 16 J.val ++ (32 :: 59 :: 10 :: s)) from g2)
    obtain ⟨g3, g4⟩ := xby_one 16 _ _ _ _ v1 v2 (.inr ⟨_, rfl⟩) (.inr ⟨_, rfl⟩) e2
    have g5 : r = s := List.append_cancel_left (show [32, 59, 10] ++ r = [32, 59, 10] ++ s from g4)
    exact ⟨⟨by rw [k1, k2], by rw [p1, p2], by_eq g1, g3, s1.like s2, by rw [l1, l2], fun i hi => by omega⟩, g5⟩
  · rw [iby_const k1, iby_code k2] at e
    simp at e
  · rw [iby_const k1, iby_use k2] at e
    simp at e
  · rw [iby_const k1, iby_domains k2] at e
    simp at e
  · rw [iby_const k1, iby_tolerate k2] at e
    simp at e
  · rw [iby_const k1, iby_row k2 p2] at e
    simp at e
  · rw [iby_const k1, iby_spread k2 p2] at e
    simp at e
  · rw [iby_const k1, iby_spiral k2 p2] at e
    simp at e
  · rw [iby_const k1, iby_list k2 p2] at e
    simp at e
  · rw [iby_code k1, iby_const k2] at e
    simp at e
  · rw [iby_code k1, iby_code k2] at e
    have e1 : I.nm.data.toList ++ (32 :: 61 :: 32 :: (sby 16 I.shp ++ 32 :: 59 :: 10 :: r)) = J.nm.data.toList ++ (32 :: 61 :: 32 :: (sby 16 J.shp ++ 32 :: 59 :: 10 :: s)) := List.append_cancel_left (show [99, 111, 100, 101, 32] ++ (I.nm.data.toList ++ (32 :: 61 :: 32 :: (sby 16 I.shp ++ 32 :: 59 :: 10 :: r))) = [99, 111, 100, 101, 32] ++ (J.nm.data.toList ++ (32 :: 61 :: 32 :: (sby 16 J.shp ++ 32 :: 59 :: 10 :: s))) by simpa using e)
    obtain ⟨g1, g2⟩ := stp_one _ _ _ _ (name_by n1).1 (name_by n2).1 (.inr ⟨_, rfl⟩) (.inr ⟨_, rfl⟩) e1
    have e2 := List.append_cancel_left (show [32, 61, 32] ++ (sby 16 I.shp ++ (32 :: 59 :: 10 :: r)) = [32, 61, 32] ++ (sby 16 J.shp ++ (32 :: 59 :: 10 :: s)) from g2)
    obtain ⟨g3, g4⟩ := sby_one 16 _ _ _ _ s1 s2 (.inr ⟨_, rfl⟩) (.inr ⟨_, rfl⟩) e2
    have g5 : r = s := List.append_cancel_left (show [32, 59, 10] ++ r = [32, 59, 10] ++ s from g4)
    exact ⟨⟨by rw [k1, k2], by rw [p1, p2], by_eq g1, v1.like v2, g3, by rw [l1, l2], fun i hi => by omega⟩, g5⟩
  · rw [iby_code k1, iby_use k2] at e
    simp at e
  · rw [iby_code k1, iby_domains k2] at e
    simp at e
  · rw [iby_code k1, iby_tolerate k2] at e
    simp at e
  · rw [iby_code k1, iby_row k2 p2] at e
    simp at e
  · rw [iby_code k1, iby_spread k2 p2] at e
    simp at e
  · rw [iby_code k1, iby_spiral k2 p2] at e
    simp at e
  · rw [iby_code k1, iby_list k2 p2] at e
    simp at e
  · rw [iby_use k1, iby_const k2] at e
    simp at e
  · rw [iby_use k1, iby_code k2] at e
    simp at e
  · rw [iby_use k1, iby_use k2] at e
    have e1 : I.nm.data.toList ++ (32 :: 59 :: 10 :: r) = J.nm.data.toList ++ (32 :: 59 :: 10 :: s) := List.append_cancel_left (show [117, 115, 101, 32] ++ (I.nm.data.toList ++ (32 :: 59 :: 10 :: r)) = [117, 115, 101, 32] ++ (J.nm.data.toList ++ (32 :: 59 :: 10 :: s)) by simpa using e)
    obtain ⟨g1, g2⟩ := stp_one _ _ _ _ (name_by n1).1 (name_by n2).1 (.inr ⟨_, rfl⟩) (.inr ⟨_, rfl⟩) e1
    have g5 : r = s := List.append_cancel_left (show [32, 59, 10] ++ r = [32, 59, 10] ++ s from g2)
    exact ⟨⟨by rw [k1, k2], by rw [p1, p2], by_eq g1, v1.like v2, s1.like s2, by rw [l1, l2], fun i hi => by omega⟩, g5⟩
  · rw [iby_use k1, iby_domains k2] at e
    simp at e
  · rw [iby_use k1, iby_tolerate k2] at e
    simp at e
  · rw [iby_use k1, iby_row k2 p2] at e
    simp at e
  · rw [iby_use k1, iby_spread k2 p2] at e
    simp at e
  · rw [iby_use k1, iby_spiral k2 p2] at e
    simp at e
  · rw [iby_use k1, iby_list k2 p2] at e
    simp at e
  · rw [iby_domains k1, iby_const k2] at e
    simp at e
  · rw [iby_domains k1, iby_code k2] at e
    simp at e
  · rw [iby_domains k1, iby_use k2] at e
    simp at e
  · rw [iby_domains k1, iby_domains k2] at e
    have e1 : xby 16 I.val ++ (32 :: 59 :: 10 :: r) = xby 16 J.val ++ (32 :: 59 :: 10 :: s) := List.append_cancel_left (show [100, 111, 109, 97, 105, 110, 115, 32] ++ (xby 16 I.val ++ (32 :: 59 :: 10 :: r)) = [100, 111, 109, 97, 105, 110, 115, 32] ++ (xby 16 J.val ++ (32 :: 59 :: 10 :: s)) by simpa using e)
    obtain ⟨g1, g2⟩ := xby_one 16 _ _ _ _ v1 v2 (.inr ⟨_, rfl⟩) (.inr ⟨_, rfl⟩) e1
    have g5 : r = s := List.append_cancel_left (show [32, 59, 10] ++ r = [32, 59, 10] ++ s from g2)
    exact ⟨⟨by rw [k1, k2], by rw [p1, p2], by rw [n1, n2], g1, s1.like s2, by rw [l1, l2], fun i hi => by omega⟩, g5⟩
  · rw [iby_domains k1, iby_tolerate k2] at e
    simp at e
  · rw [iby_domains k1, iby_row k2 p2] at e
    simp at e
  · rw [iby_domains k1, iby_spread k2 p2] at e
    simp at e
  · rw [iby_domains k1, iby_spiral k2 p2] at e
    simp at e
  · rw [iby_domains k1, iby_list k2 p2] at e
    simp at e
  · rw [iby_tolerate k1, iby_const k2] at e
    simp at e
  · rw [iby_tolerate k1, iby_code k2] at e
    simp at e
  · rw [iby_tolerate k1, iby_use k2] at e
    simp at e
  · rw [iby_tolerate k1, iby_domains k2] at e
    simp at e
  · rw [iby_tolerate k1, iby_tolerate k2] at e
    have e1 : xby 16 I.val ++ (32 :: 59 :: 10 :: r) = xby 16 J.val ++ (32 :: 59 :: 10 :: s) := List.append_cancel_left (show [116, 111, 108, 101, 114, 97, 116, 101, 32] ++ (xby 16 I.val ++ (32 :: 59 :: 10 :: r)) = [116, 111, 108, 101, 114, 97, 116, 101, 32] ++ (xby 16 J.val ++ (32 :: 59 :: 10 :: s)) by simpa using e)
    obtain ⟨g1, g2⟩ := xby_one 16 _ _ _ _ v1 v2 (.inr ⟨_, rfl⟩) (.inr ⟨_, rfl⟩) e1
    have g5 : r = s := List.append_cancel_left (show [32, 59, 10] ++ r = [32, 59, 10] ++ s from g2)
    exact ⟨⟨by rw [k1, k2], by rw [p1, p2], by rw [n1, n2], g1, s1.like s2, by rw [l1, l2], fun i hi => by omega⟩, g5⟩
  · rw [iby_tolerate k1, iby_row k2 p2] at e
    simp at e
  · rw [iby_tolerate k1, iby_spread k2 p2] at e
    simp at e
  · rw [iby_tolerate k1, iby_spiral k2 p2] at e
    simp at e
  · rw [iby_tolerate k1, iby_list k2 p2] at e
    simp at e
  · rw [iby_row k1 p1, iby_const k2] at e
    simp at e
  · rw [iby_row k1 p1, iby_code k2] at e
    simp at e
  · rw [iby_row k1 p1, iby_use k2] at e
    simp at e
  · rw [iby_row k1 p1, iby_domains k2] at e
    simp at e
  · rw [iby_row k1 p1, iby_tolerate k2] at e
    simp at e
  · rw [iby_row k1 p1, iby_row k2 p2] at e
    have e1 : r = s := List.append_cancel_left (show [112, 108, 97, 99, 101, 32, 114, 111, 119, 32, 59, 10] ++ r = [112, 108, 97, 99, 101, 32, 114, 111, 119, 32, 59, 10] ++ s from e)
    exact ⟨⟨by rw [k1, k2], by rw [p1, p2], by rw [n1, n2], v1.like v2, s1.like s2, by rw [l1, l2], fun i hi => by omega⟩, e1⟩
  · rw [iby_row k1 p1, iby_spread k2 p2] at e
    simp at e
  · rw [iby_row k1 p1, iby_spiral k2 p2] at e
    simp at e
  · rw [iby_row k1 p1, iby_list k2 p2] at e
    simp at e
  · rw [iby_spread k1 p1, iby_const k2] at e
    simp at e
  · rw [iby_spread k1 p1, iby_code k2] at e
    simp at e
  · rw [iby_spread k1 p1, iby_use k2] at e
    simp at e
  · rw [iby_spread k1 p1, iby_domains k2] at e
    simp at e
  · rw [iby_spread k1 p1, iby_tolerate k2] at e
    simp at e
  · rw [iby_spread k1 p1, iby_row k2 p2] at e
    simp at e
  · rw [iby_spread k1 p1, iby_spread k2 p2] at e
    have e1 : r = s := List.append_cancel_left (show [112, 108, 97, 99, 101, 32, 115, 112, 114, 101, 97, 100, 32, 59, 10] ++ r = [112, 108, 97, 99, 101, 32, 115, 112, 114, 101, 97, 100, 32, 59, 10] ++ s from e)
    exact ⟨⟨by rw [k1, k2], by rw [p1, p2], by rw [n1, n2], v1.like v2, s1.like s2, by rw [l1, l2], fun i hi => by omega⟩, e1⟩
  · rw [iby_spread k1 p1, iby_spiral k2 p2] at e
    simp at e
  · rw [iby_spread k1 p1, iby_list k2 p2] at e
    simp at e
  · rw [iby_spiral k1 p1, iby_const k2] at e
    simp at e
  · rw [iby_spiral k1 p1, iby_code k2] at e
    simp at e
  · rw [iby_spiral k1 p1, iby_use k2] at e
    simp at e
  · rw [iby_spiral k1 p1, iby_domains k2] at e
    simp at e
  · rw [iby_spiral k1 p1, iby_tolerate k2] at e
    simp at e
  · rw [iby_spiral k1 p1, iby_row k2 p2] at e
    simp at e
  · rw [iby_spiral k1 p1, iby_spread k2 p2] at e
    simp at e
  · rw [iby_spiral k1 p1, iby_spiral k2 p2] at e
    have e1 : xby 16 I.val ++ (32 :: 59 :: 10 :: r) = xby 16 J.val ++ (32 :: 59 :: 10 :: s) := List.append_cancel_left (show [112, 108, 97, 99, 101, 32, 115, 112, 105, 114, 97, 108, 32] ++ (xby 16 I.val ++ (32 :: 59 :: 10 :: r)) = [112, 108, 97, 99, 101, 32, 115, 112, 105, 114, 97, 108, 32] ++ (xby 16 J.val ++ (32 :: 59 :: 10 :: s)) by simpa using e)
    obtain ⟨g1, g2⟩ := xby_one 16 _ _ _ _ v1 v2 (.inr ⟨_, rfl⟩) (.inr ⟨_, rfl⟩) e1
    have g5 : r = s := List.append_cancel_left (show [32, 59, 10] ++ r = [32, 59, 10] ++ s from g2)
    exact ⟨⟨by rw [k1, k2], by rw [p1, p2], by rw [n1, n2], g1, s1.like s2, by rw [l1, l2], fun i hi => by omega⟩, g5⟩
  · rw [iby_spiral k1 p1, iby_list k2 p2] at e
    simp at e
  · rw [iby_list k1 p1, iby_const k2] at e
    simp at e
  · rw [iby_list k1 p1, iby_code k2] at e
    simp at e
  · rw [iby_list k1 p1, iby_use k2] at e
    simp at e
  · rw [iby_list k1 p1, iby_domains k2] at e
    simp at e
  · rw [iby_list k1 p1, iby_tolerate k2] at e
    simp at e
  · rw [iby_list k1 p1, iby_row k2 p2] at e
    simp at e
  · rw [iby_list k1 p1, iby_spread k2 p2] at e
    simp at e
  · rw [iby_list k1 p1, iby_spiral k2 p2] at e
    simp at e
  · rw [iby_list k1 p1, iby_list k2 p2] at e
    have e1 : rtr 16 I.list I.nl 0 ++ (32 :: 93 :: 32 :: 59 :: 10 :: r) = rtr 16 J.list J.nl 0 ++ (32 :: 93 :: 32 :: 59 :: 10 :: s) := List.append_cancel_left (show [112, 108, 97, 99, 101, 32, 108, 105, 115, 116, 32, 91, 32] ++ (rtr 16 I.list I.nl 0 ++ (32 :: 93 :: 32 :: 59 :: 10 :: r)) = [112, 108, 97, 99, 101, 32, 108, 105, 115, 116, 32, 91, 32] ++ (rtr 16 J.list J.nl 0 ++ (32 :: 93 :: 32 :: 59 :: 10 :: s)) by simpa using e)
    obtain ⟨g1, g2, g3⟩ := rtr_one 16 _ _ _ _ 0 0 _ _ l1.1 l2.1 (fun k hk => by rw [Nat.zero_add]; exact l1.2 k hk) (fun k hk => by rw [Nat.zero_add]; exact l2.2 k hk) ⟨93, _, rfl, by decide⟩ ⟨93, _, rfl, by decide⟩ e1
    have g4 : r = s := List.append_cancel_left (show [32, 93, 32, 59, 10] ++ r = [32, 93, 32, 59, 10] ++ s from g3)
    exact ⟨⟨by rw [k1, k2], by rw [p1, p2], by rw [n1, n2], v1.like v2, s1.like s2, g1, fun i hi => by have := g2 i hi; rw [Nat.zero_add] at this; exact this⟩, g4⟩
/-- The bytes of a description's text, from i on. -/
def dby (F : Nat → It) : Nat → Nat → List UInt8
  | 0, _ => []
  | n + 1, i => iby (F i) ++ dby F n (i + 1)
theorem iby_some {I : It} (h : MI I) : ∃ c t, iby I = c :: t := by
  rcases h with ⟨k1, p1, n1, v1, s1, l1⟩ | ⟨k1, p1, n1, v1, s1, l1⟩ | ⟨k1, p1, n1, v1, s1, l1⟩ | ⟨k1, p1, n1, v1, s1, l1⟩ | ⟨k1, p1, n1, v1, s1, l1⟩ | ⟨k1, p1, n1, v1, s1, l1⟩ | ⟨k1, p1, n1, v1, s1, l1⟩ | ⟨k1, p1, n1, v1, s1, l1⟩ | ⟨k1, p1, n1, v1, s1, l1⟩
  · rw [iby_const k1]
    exact ⟨_, _, rfl⟩
  · rw [iby_code k1]
    exact ⟨_, _, rfl⟩
  · rw [iby_use k1]
    exact ⟨_, _, rfl⟩
  · rw [iby_domains k1]
    exact ⟨_, _, rfl⟩
  · rw [iby_tolerate k1]
    exact ⟨_, _, rfl⟩
  · rw [iby_row k1 p1]
    exact ⟨_, _, rfl⟩
  · rw [iby_spread k1 p1]
    exact ⟨_, _, rfl⟩
  · rw [iby_spiral k1 p1]
    exact ⟨_, _, rfl⟩
  · rw [iby_list k1 p1]
    exact ⟨_, _, rfl⟩
/-- Two descriptions have one text just if they are the same. -/
theorem dby_one (F G : Nat → It) : ∀ (n m i j : Nat), (∀ k, k < n → MI (F (i + k))) → (∀ k, k < m → MI (G (j + k))) → dby F n i = dby G m j → n = m ∧ ∀ k, k < n → ilk (F (i + k)) (G (j + k)) := by
  intro n
  induction n with
  | zero =>
    intro m i j _ hG e
    cases m with
    | zero => exact ⟨rfl, fun k hk => by omega⟩
    | succ m =>
      obtain ⟨c, t, h⟩ := iby_some (hG 0 (by omega))
      rw [Nat.add_zero] at h
      have e : [] = iby (G j) ++ dby G m (j + 1) := e
      rw [h] at e
      cases e
  | succ n ih =>
    intro m i j hF hG e
    cases m with
    | zero =>
      obtain ⟨c, t, h⟩ := iby_some (hF 0 (by omega))
      rw [Nat.add_zero] at h
      have e : iby (F i) ++ dby F n (i + 1) = [] := e
      rw [h] at e
      cases e
    | succ m =>
      have e : iby (F i) ++ dby F n (i + 1) = iby (G j) ++ dby G m (j + 1) := e
      obtain ⟨h1, h2⟩ := iby_one (by have := hF 0 (by omega); exact this) (by have := hG 0 (by omega); exact this) e
      obtain ⟨g1, g2⟩ := ih m (i + 1) (j + 1) (fun k hk => by have := hF (k + 1) (by omega); rw [show i + (k + 1) = i + 1 + k by omega] at this; exact this) (fun k hk => by have := hG (k + 1) (by omega); rw [show j + (k + 1) = j + 1 + k by omega] at this; exact this) h2
      refine ⟨by omega, fun k hk => ?_⟩
      cases k with
      | zero => exact h1
      | succ k =>
        have := g2 k (by omega)
        rw [show i + (k + 1) = i + 1 + k by omega, show j + (k + 1) = j + 1 + k by omega]
        exact this
end Go.Proofs.YtdimkfcanegahaaDoor
