/-
  Cut whole; the program's token, as the checks use it. (Over the scratch seat: by the reference.)
-/
import Derived.Test.YtdimkfcanegahaaDoorAg
namespace Go.Proofs.YtdimkfcanegahaaDoor
open Go.RowKit
/-- What Cut tells of a text. -/
def CutA (s : ByteArray) (L : List Tk) (E a : Nat) : Prop := (65536 < s.size ∧ L = [] ∧ E = 4 ∧ a = 0) ∨ (s.size ≤ 65536 ∧ Cuts s 0 L E a)
theorem cuta_ex (s : ByteArray) : ∃ L E a, CutA s L E a := by
  by_cases h : 65536 < s.size
  · exact ⟨[], 4, 0, .inl ⟨h, rfl, rfl, rfl⟩⟩
  · obtain ⟨L, E, a, hc⟩ := cut_ex s s.size 0 (by omega)
    exact ⟨L, E, a, .inr ⟨by omega, hc⟩⟩
theorem cut_form (s : ByteArray) (E a : Nat) : ∃ f0 f1 f2 : Int, Hid ((if E = 0 then #[.int .i64 0, .int .i64 0, .int .i64 0] else #[.int .i64 (E : Int), .int .i64 (lnn s a : Nat), .int .i64 (cln s a : Nat)]) = #[Value.int .i64 f0, .int .i64 f1, .int .i64 f2]) := by
  by_cases hE : E = 0
  · exact ⟨0, 0, 0, if_pos hE⟩
  · exact ⟨_, _, _, if_neg hE⟩
theorem CutP.use {w w' : World} {e : Ending} {s : ByteArray} {L : List Tk} {E a m : Nat} {f0 f1 f2 : Int} (h : CutP w w' e s L E a) (hf : (if E = 0 then #[.int .i64 0, .int .i64 0, .int .i64 0] else #[.int .i64 (E : Int), .int .i64 (lnn s a : Nat), .int .i64 (cln s a : Nat)]) = #[Value.int .i64 f0, .int .i64 f1, .int .i64 f2]) (hm : (if E = 0 then L.length else 0) = m) :
    ∃ (x : Option Addr) (d : Nat), e = .returned (.tuple #[.slice x m d, .agg #[.int .i64 f0, .int .i64 f1, .int .i64 f2]]) ∧ (∀ i, i < m → TvAt w' x i (tvo s (L.getD i ⟨0, 0, 0, 0⟩))) ∧ Below w.heap.size w w' := by
  obtain ⟨v, he, h1, h2, hb⟩ := h
  rw [hf] at he
  by_cases hE : E = 0
  · rw [if_pos hE] at hm
    subst hm
    obtain ⟨x, d, rfl, _⟩ := (h1 hE).form
    refine ⟨x, d, he, fun i hi => ?_, hb⟩
    have := (h1 hE).tv i hi
    rw [List.getD_eq_getElem?_getD, List.getElem?_eq_getElem hi]
    exact this
  · rw [if_neg hE] at hm
    subst hm
    have := h2 hE
    subst this
    exact ⟨none, 0, he, fun i hi => by omega, hb⟩
theorem Cuts.len {s : ByteArray} {p E a : Nat} {L : List Tk} (h : Cuts s p L E a) (hp : p ≤ s.size) : L.length + p ≤ s.size := by
  have := Cuts.ind (s := s) (M := fun p L _ _ => p ≤ s.size → L.length + p ≤ s.size) (fun p h _ => by simp; omega) (fun p L E a h1 _ ih _ => by have := ih (by omega); omega)
    (fun p e L E a h1 h2 ih _ => by have := ih h2; omega)
    (fun p e L E a h1 h2 h3 _ ih _ => by have := h3.more h1 (by rw [h2]; simp); have := ih h3.fits; simp; omega)
    (fun p e L E a h1 h2 h3 _ _ ih _ => by have := h3.more h1 (by rw [h2]; simp); have := ih h3.fits; simp; omega)
    (fun p e L E a h1 h2 h3 _ ih _ => by have := h3.more h1 (by rw [h2]; rfl); have := ih h3.fits; simp; omega)
    (fun p L E a h1 _ ih _ => by have := ih (by omega); simp; omega) (fun p a h1 _ => by simp; omega) h
  exact this hp
theorem cut_len {s : ByteArray} {L : List Tk} {E a : Nat} (h : CutA s L E a) : L.length ≤ 140737488351232 := by
  rcases h with ⟨_, rfl, _, _⟩ | ⟨h1, h2⟩
  · simp
  · have := h2.len (Nat.zero_le _); omega
end Go.Proofs.YtdimkfcanegahaaDoor
