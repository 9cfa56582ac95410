/-
  Stage 13: all names that are used are known.
-/
import Derived.Test.YtemhodenkgngmaaDoorQkkwn00
import Derived.Test.YtemhodenkgngmaaDoorQkkwn48
import Derived.Deep.QuietTactic
import Derived.BigQuiet
set_option maxRecDepth 100000
set_option maxHeartbeats 16000000
namespace Go.Proofs.YtemhodenkgngmaaDoor
open Go.RowKit Go.Shelf Go.Maps Go.Sort
theorem wfl_zero {E : ByteArray → Option Nat} : ∀ {U : List Us}, wfl E U = (0, 0, 0) → ∀ u ∈ U, E u.nm = some u.k := by
 intro U
 induction U with
 | nil => intro _ u hu; cases hu
 | cons x r ih =>
  intro h u hu
  have h : (match E x.nm with | none => ((121 : Int), x.ln, x.cl) | some k => if k = x.k then wfl E r else (131, x.ln, x.cl)) = (0, 0, 0) := h
  cases hE : E x.nm with
  | none => rw [hE] at h; cases h
  | some k =>
   rw [hE] at h
   dsimp only at h
   by_cases hk : k = x.k
   ·rw [if_pos hk] at h
    rcases List.mem_cons.1 hu with rfl | hu
    ·rw [hE, hk]
    ·exact ih h u hu
   ·rw [if_neg hk] at h; cases h
theorem stp_used {i : Nat} {I : It} {T U : List Sy} (h : stp i I T = .ok U) : ∀ u ∈ ius I, ∃ y ∈ T, y.nm = u.nm := by
 intro u hu
 unfold stp at h
 split at h
 ·cases h
 ·rename_i hw
  have hz := wfl_zero (Classical.not_not.1 hw) u hu
  refine Classical.byContradiction (fun hc => ?_)
  have : skd T u.nm = none := qci.2 (fun y hy e => hc ⟨y, hy, e⟩)
  rw [this] at hz
  cases hz
theorem tbl_used {F : Nat → It} : ∀ {n : Nat} {T : List Sy}, tbl F n = .ok T → ∀ i, i < n → ∀ u ∈ ius (F i), ∃ y ∈ T, y.nm = u.nm := by
 intro n
 induction n with
 | zero => intro T _ i hi; omega
 | succ n ih =>
  intro T h i hi u hu
  rw [qbd] at h
  cases hn : tbl F n with
  | error qq => obtain ⟨c, l1, l2⟩ := qq; rw [hn] at h; cases h
  | ok V =>
   rw [hn] at h
   obtain ⟨R, e⟩ := stp_ok h
   have hV : ∃ y ∈ V, y.nm = u.nm := by
    by_cases ei : i = n
    ·subst ei; exact stp_used h u hu
    ·exact ih hn i (by omega) u hu
   obtain ⟨y, hy, e2⟩ := hV
   exact ⟨y, by rw [e]; exact List.mem_append_left _ hy, e2⟩
theorem lok_at {F : Nat → Sy} {s : ByteArray} {i : Nat} (hs : (F i).nm = s) : ∀ (d j : Nat), j ≤ i → i < j + d → (∀ q, j ≤ q → q < i → (F q).nm ≠ s) → lok F s d j = (F i, true) := by
 intro d
 induction d with
 | zero => intro j h1 h2 _; omega
 | succ d ih =>
  intro j h1 h2 h3
  by_cases e : j = i
  ·subst e
   rw [qeu (by rw [hs]; exact qbc s)]
  ·rw [lok_no (qdl (h3 j (Nat.le_refl _) (by omega)))]
   exact ih (j + 1) (by omega) (by omega) (fun q a b => h3 q (by omega) b)
theorem split_at {T : List Sy} {i : Nat} (hi : i < T.length) : T = T.take i ++ T.getD i sy0 :: T.drop (i + 1) := by
 have e : T.getD i sy0 = T[i] := by rw [List.getD_eq_getElem?_getD, List.getElem?_eq_getElem hi]; rfl
 rw [e, ← List.drop_eq_getElem_cons hi, List.take_append_drop]
theorem TR.at_i {F : Nat → It} {n : Nat} {T : List Sy} (h : TR F n T) {i : Nat} (hi : i < T.length) : SyR F n (T.take i) (T.getD i sy0) := h _ _ _ (split_at hi)
theorem qdx {T : List Sy} {i q : Nat} (hq : q < i) (hi : i < T.length) : T.getD q sy0 ∈ T.take i := by
 have hl : (T.take i).length = i := by rw [List.length_take]; omega
 have e : T.getD q sy0 = (T.take i).getD q sy0 := by rw [List.getD_eq_getElem?_getD, List.getD_eq_getElem?_getD, List.getElem?_take, if_pos hq]
 rw [e]
 exact qcj (by omega)
theorem TR.look {F : Nat → It} {n : Nat} {T : List Sy} (h : TR F n T) {i : Nat} (hi : i < T.length) : lok (fun j => T.getD j sy0) (T.getD i sy0).nm T.length 0 = (T.getD i sy0, true) :=
 lok_at (F := fun j => T.getD j sy0) rfl T.length 0 (by omega) (by omega) (fun q _ hq => (qci.1 (h.at_i hi).new) _ (qdx hq hi))
theorem TR.find {F : Nat → It} {n : Nat} {T : List Sy} (h : TR F n T) {s : ByteArray} (hs : ∃ y ∈ T, y.nm = s) : ∃ y, lok (fun j => T.getD j sy0) s T.length 0 = (y, true) := by
 obtain ⟨y, hy, rfl⟩ := hs
 obtain ⟨i, hi, rfl⟩ := List.getElem_of_mem hy
 have e : T.getD i sy0 = T[i] := by rw [List.getD_eq_getElem?_getD, List.getElem?_eq_getElem hi]; rfl
 have := h.look hi
 rw [e] at this
 exact ⟨_, this⟩
/-- Texts lie at a slice's address. -/
def StL (w : World) (a : Option Addr) (L : List (List UInt8)) : Prop := ∀ i x, L[i]? = some x → ∃ b o, a = some ⟨b, o, none⟩ ∧ w.cell? ⟨b, o + i, none⟩ = some (.string ⟨x.toArray⟩)
theorem StL.later {w w' : World} {a : Option Addr} {L : List (List UInt8)} (h : StL w a L) (hb : Below w.heap.size w w') : StL w' a L := fun i x hx => by
 obtain ⟨b, o, e, h1⟩ := h i x hx
 exact ⟨b, o, e, cell_kept h1 hb⟩
theorem own_str {w : World} {B n : Nat} {v : Value} {L : List (List UInt8)} (h : w.ownsRow B 9 1 v n (L.map encStr)) (hL : L.length = n) : ∃ a d, v = .slice a L.length d ∧ StL w a L := by
 rcases h.2 with ⟨e, h0⟩ | ⟨g, cap, cur, e, hr⟩
 ·refine ⟨none, 0, by rw [e, hL, h0], fun i x hx => ?_⟩
  have := (List.getElem?_eq_some_iff.1 hx).1
  omega
 ·refine ⟨some ⟨g, 0, none⟩, cap, by rw [e, hL], fun i x hx => ⟨g, 0, rfl, ?_⟩⟩
  have hc := World.ownsRow.cells h (g := g) (by rw [e]; rfl) i (encStr x) (by rw [List.getElem?_map, hx]; rfl)
  rw [Addr.add_mid] at hc
  exact hc
/-- Used's answer, whatever is asked. -/
theorem qfb (w : World) (a : Option Addr) (n c : Nat) (F : Nat → It) (hI : Its w a n F) (hn : n ≤ 549755813888) (hw : Wt9 w) :
  Calls Tryd.prog 17 #[.slice a n c] w fun e w' => (∃ v x, e = .returned (.tuple #[v, .int .i64 x])) ∧ Below w.heap.size w w' := by
 cases hm : mayD F n with
 | false => exact (qfa w a n c F hI hn hw hm).mono (fun e w' h => ⟨⟨_, _, h.1⟩, h.2⟩)
 | true => exact (qdw w a n c F hI hn hw hm).mono (fun e w' h => by obtain ⟨⟨v, h1, _⟩, h2⟩ := h; exact ⟨⟨_, _, h1⟩, h2⟩)
theorem its_name {w : World} {a : Option Addr} {n : Nat} {F : Nat → It} (h : Its w a n F) {q : Nat} (hq : q < n) : ∃ b o, a = some ⟨b, o, none⟩ ∧ w.cell? ⟨b, o + q * 19 + 1, none⟩ = some (.string (F q).nm) := by
 obtain ⟨b, o, e, hI⟩ := h q hq
 exact ⟨b, o, e, hI.c1⟩
end Go.Proofs.YtemhodenkgngmaaDoor
