/-
  Contracts of the token's reference: Cut.
-/
import Derived.Test.YtdimkfcanegahaaDoorAe
namespace Go.Proofs.YtdimkfcanegahaaDoor
open Go.RowKit
theorem sizeKind : (Tryd.prog.info? 81).map (·.size) = some 1 := by kernel_rfl
theorem sizeStr : (Tryd.prog.info? 9).map (·.size) = some 1 := by kernel_rfl
theorem sizeInt : (Tryd.prog.info? 3).map (·.size) = some 1 := by kernel_rfl
theorem all3 {x y z : Value} (h0 : x.oneCell' = true) (h1 : y.oneCell' = true) (h2 : z.oneCell' = true) : (#[x, y, z] : Array Value).all (·.oneCell') = true := by simp [h0, h1, h2]
theorem all5 {x y z u v : Value} (h0 : x.oneCell' = true) (h1 : y.oneCell' = true) (h2 : z.oneCell' = true) (h3 : u.oneCell' = true) (h4 : v.oneCell' = true) : (#[x, y, z, u, v] : Array Value).all (·.oneCell') = true := by simp [h0, h1, h2, h3, h4]
/-- Where a cutting stands: in a remark or not. -/
def Stc (s : ByteArray) (rm : Bool) (p : Nat) (R : List Tk) (E a : Nat) : Prop :=
  (rm = false ∧ Cuts s p R E a) ∨ (rm = true ∧ ∃ e, p ≤ e ∧ e ≤ s.size ∧ (∀ j, p ≤ j → j < e → tb s j ≠ 10) ∧ (e < s.size → tb s e = 10) ∧ Cuts s e R E a)
theorem Cuts.end {s : ByteArray} {p E a : Nat} {R : List Tk} (h : Cuts s p R E a) (hp : p = s.size) : R = [] ∧ E = 0 := by
  rcases h.inv with ⟨_, h1, h2, _⟩ | ⟨h, _⟩ | ⟨e, h1, h2, _⟩ | ⟨e, L', h, _⟩ | ⟨e, L', h, _⟩ | ⟨e, h, _⟩ | ⟨e, L', h, _⟩ | ⟨e, h, _⟩ | ⟨e, h, _⟩ | ⟨L', h, _⟩ | ⟨h, _⟩
  · exact ⟨h1, h2⟩
  all_goals omega
theorem Stc.end {s : ByteArray} {rm : Bool} {p E a : Nat} {R : List Tk} (h : Stc s rm p R E a) (hp : p = s.size) : R = [] ∧ E = 0 := by
  rcases h with ⟨_, h⟩ | ⟨_, e, h1, h2, _, _, h⟩
  · exact h.end hp
  · exact h.end (by omega)
theorem cls_ten : isB 10 = true ∧ isL 10 = false ∧ isD 10 = false ∧ isS 10 = false := by decide
theorem cls_rem : isB 35 = false ∧ isL 35 = false ∧ isD 35 = false ∧ isS 35 = false := by decide
theorem Cuts.ten {s : ByteArray} {p E a : Nat} {R : List Tk} (h : Cuts s p R E a) (hp : p < s.size) (h10 : tb s p = 10) : Cuts s (p + 1) R E a := by
  obtain ⟨b1, b2, b3, b4⟩ := cls_ten
  rcases h.inv with ⟨h, _⟩ | ⟨_, _, h⟩ | ⟨e, _, _, h, _⟩ | ⟨e, L', _, h, _⟩ | ⟨e, L', _, h, _⟩ | ⟨e, _, h, _⟩ | ⟨e, L', _, h, _⟩ | ⟨e, _, h, _⟩ | ⟨e, _, h, _⟩ | ⟨L', _, h, _⟩ | ⟨_, h, _⟩
  · omega
  · exact h
  · omega
  · rw [h10, b2] at h; cases h
  · rw [h10, b2] at h; cases h
  · rw [h10, b2] at h; cases h
  · rw [h10, b3] at h; cases h
  · rw [h10, b3] at h; cases h
  · rw [h10, b3] at h; cases h
  · rw [h10, b4] at h; cases h
  · rw [h10, b1] at h; cases h
theorem blank_cls {c : Nat} (h : isB c = true) : isL c = false ∧ isD c = false ∧ isS c = false := by
  rcases isB_iff.1 h with rfl | rfl | rfl <;> decide
theorem letter_cls {c : Nat} (h : isL c = true) : c ≠ 10 ∧ isD c = false ∧ isS c = false := by
  have h1 := isL_iff.1 h
  refine ⟨by omega, isD_f (by omega), ?_⟩
  cases hc : isS c with
  | false => rfl
  | true => have := isS_iff.1 hc; omega
theorem digit_cls {c : Nat} (h : isD c = true) : c ≠ 10 ∧ isL c = false := by
  have h1 := isD_iff.1 h
  exact ⟨by omega, isL_f (by omega)⟩
theorem sign_cls {c : Nat} (h : isS c = true) : c ≠ 10 ∧ isL c = false ∧ isD c = false := by
  have h1 := isS_iff.1 h
  exact ⟨by omega, isL_f (by omega), isD_f (by omega)⟩
theorem name_of {s x : ByteArray} {p e c : Nat} (hE : Ends s true p e) (hes : e ≤ s.size) (hpe : p < e) (hL : isL c = true) (hc : tb s p = c) (h16 : e - p ≤ 16) (hW : isW x = false) (hx : s.extract p e = x) : NameP x := by
  subst hx
  refine ⟨by rw [size_extract hes]; omega, by rw [size_extract hes]; exact h16, by rw [tb_extract (by omega) hes, Nat.add_zero, hc]; exact hL, hW, fun j hj => ?_⟩
  rw [size_extract hes] at hj
  rw [tb_extract (by omega) hes]
  have := hE.all (p + j) (by omega) (by omega)
  rw [Bool.or_comm]
  simpa using this
theorem tcs_eq {s x : ByteArray} {k p e n ln cl : Nat} (hx : (if k = 3 then ⟨#[]⟩ else s.extract p e) = x) (hl : lnn s p = ln) (hc : cln s p = cl) : tcs s ⟨k, p, e, n⟩ = [.int .u8 (k : Int), .string x, .int .i64 (n : Int), .int .i64 (ln : Int), .int .i64 (cl : Int)] := by
  unfold tcs ttx
  simp only [hx, hl, hc]
theorem Tls.push {w2 : World} {B : Nat} {v' : Value} {s : ByteArray} {L : List Tk} {t : Tk} {xs : List Value} {n : Nat} (hx : tcs s t = xs) (hn : n = L.length + 1) (hown : w2.ownsRow B 83 5 v' n (trow s L ++ xs)) : Tls w2 B v' s (L ++ [t]) := by
  unfold Tls
  rw [trow_snoc, List.length_append, hx]
  subst hn
  exact hown
theorem own_lt {v : Value} {b : Nat} (h : ∀ g, v.ownBlock = some g → g < b) : v.ownBlock = none ∨ v.ownBlock ≠ some b := by
  cases hv : v.ownBlock with
  | none => exact .inl rfl
  | some g => exact .inr (fun e => by have := h g hv; have : g = b := by simpa using e
                                      omega)
theorem Ends.line {s : ByteArray} {lt : Bool} {p e : Nat} (h : Ends s lt p e) : lnn s e = lnn s p ∧ cln s e = cln s p + (e - p) := by
  have := lc_line (s := s) (p := p) (e - p) (fun j a b => by
    have h1 := h.all j a (by have := h.le; omega)
    intro h2
    rw [h2] at h1
    have h3 := cls_ten
    rw [h3.2.2.1, h3.2.1] at h1
    cases lt <;> cases h1)
  rw [show p + (e - p) = e by have := h.le; omega] at this
  exact this
end Go.Proofs.YtdimkfcanegahaaDoor
