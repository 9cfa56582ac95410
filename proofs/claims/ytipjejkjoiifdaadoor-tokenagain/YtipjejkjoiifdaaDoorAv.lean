/-
  What TokenAgain needs: tokens that are cut may be, and stand one behind the other.
-/
import Derived.Test.YtipjejkjoiifdaaDoorAu
namespace Go.Proofs.YtipjejkjoiifdaaDoor
open Go.RowKit
theorem lc_lt {s : ByteArray} {p : Nat} : ∀ q, p < q → lnn s p < lnn s q ∨ (lnn s p = lnn s q ∧ cln s p < cln s q) := by
  intro q
  induction q with
  | zero => intro h; omega
  | succ q ih =>
    intro h
    rw [lnn_succ, cln_succ]
    by_cases e : p = q
    · subst e
      by_cases h10 : tb s p = 10
      · rw [if_pos h10, if_pos h10]; omega
      · rw [if_neg h10, if_neg h10]; omega
    · rcases ih (by omega) with h1 | ⟨h1, h2⟩
      · by_cases h10 : tb s q = 10
        · rw [if_pos h10]; omega
        · rw [if_neg h10]; omega
      · by_cases h10 : tb s q = 10
        · rw [if_pos h10]; omega
        · rw [if_neg h10, if_neg h10]; omega
/-- What is known of the tokens that are cut from p on. -/
def TkP (s : ByteArray) (p : Nat) (L : List Tk) : Prop := (∀ t ∈ L, p ≤ t.lo ∧ t.lo < s.size ∧ t.kind < 256 ∧ t.num ≤ 2147483647 ∧ mayB (tvo s t) = true) ∧ L.Pairwise (fun x y => x.lo < y.lo)
theorem TkP.nil (s : ByteArray) (p : Nat) : TkP s p [] := ⟨fun t ht => by simp at ht, List.Pairwise.nil⟩
theorem TkP.le {s : ByteArray} {p q : Nat} {L : List Tk} (h : TkP s q L) (hp : p ≤ q) : TkP s p L := ⟨fun t ht => ⟨by have := (h.1 t ht).1; omega, (h.1 t ht).2⟩, h.2⟩
theorem TkP.cons {s : ByteArray} {p e : Nat} {L : List Tk} {t : Tk} (h : TkP s e L) (hp : p < e) (ht : t.lo = p) (h1 : p < s.size) (h2 : t.kind < 256) (h3 : t.num ≤ 2147483647) (h4 : mayB (tvo s t) = true) : TkP s p (t :: L) := by
  refine ⟨fun u hu => ?_, List.Pairwise.cons (fun u hu => by have := (h.1 u hu).1; omega) h.2⟩
  rcases List.mem_cons.1 hu with rfl | hu
  · exact ⟨by omega, by omega, h2, h3, h4⟩
  · exact ⟨by have := (h.1 u hu).1; omega, (h.1 u hu).2⟩
theorem cut_toks {s : ByteArray} {p E a : Nat} {L : List Tk} (h : Cuts s p L E a) : TkP s p L :=
  Cuts.ind (s := s) (M := fun p L _ _ => TkP s p L) (fun p _ => TkP.nil s p) (fun p L E a _ _ ih => ih.le (by omega)) (fun p e L E a h1 _ ih => ih.le (by omega))
    (fun p e L E a h1 h2 h3 h4 ih => ih.cons (h3.more h1 (by rw [h2]; simp)) rfl h1 (by show 2 < 256; omega) (by show 0 ≤ _; omega) (by
      show (decide ((0 : Int) = 0) && isW (s.extract p e)) = true
      rw [h4]; rfl))
    (fun p e L E a h1 h2 h3 h4 h5 ih => ih.cons (h3.more h1 (by rw [h2]; simp)) rfl h1 (by show 1 < 256; omega) (by show 0 ≤ _; omega) (by
      show (decide ((0 : Int) = 0) && isN (s.extract p e)) = true
      rw [isN_iff.2 (name_of h3 h3.fits (h3.more h1 (by rw [h2]; simp)) h2 rfl h5 h4 rfl)]; rfl))
    (fun p e L E a h1 h2 h3 h4 ih => ih.cons (h3.more h1 (by rw [h2]; rfl)) rfl h1 (by show 3 < 256; omega) h4.2 (by
      show (decide ((ByteArray.mk #[]).size = 0) && (decide ((0 : Int) ≤ ((nvl s p (e - p) : Nat) : Int)) && decide (((nvl s p (e - p) : Nat) : Int) ≤ 2147483647))) = true
      have := h4.2
      rw [decide_eq_true (show (0 : Int) ≤ ((nvl s p (e - p) : Nat) : Int) by omega), decide_eq_true (show ((nvl s p (e - p) : Nat) : Int) ≤ 2147483647 by omega)]
      rfl))
    (fun p L E a h1 h2 ih => ih.cons (by omega) rfl h1 (by show 4 < 256; omega) (by show 0 ≤ _; omega) (by
      show (decide ((0 : Int) = 0) && (decide ((s.extract p (p + 1)).size = 1) && isS (tb (s.extract p (p + 1)) 0))) = true
      have h2' : isS (tb s (p + 0)) = true := h2
      rw [size_extract (by omega), tb_extract (by omega) (by omega), h2', show p + 1 - p = 1 by omega]
      rfl))
    (fun p a _ => TkP.nil s p) h
/-- The tokens that are cut, as tokens in memory. -/
def kof (s : ByteArray) (L : List Tk) (i : Nat) : TV := tvo s (L.getD i ⟨0, 0, 0, 0⟩)
theorem kof_facts {s : ByteArray} {L : List Tk} {E a : Nat} (hs : s.size ≤ 65536) (h : Cuts s 0 L E a) : (∀ i, i < L.length → TvOk (kof s L i) ∧ mayB (kof s L i) = true ∧ 1 ≤ (kof s L i).ln ∧ 1 ≤ (kof s L i).cl ∧ (kof s L i).ln ≤ 70000 ∧ (kof s L i).cl ≤ 70000) ∧
    ∀ i j, i < j → j < L.length → (kof s L i).ln < (kof s L j).ln ∨ ((kof s L i).ln = (kof s L j).ln ∧ (kof s L i).cl < (kof s L j).cl) := by
  obtain ⟨h1, h2⟩ := cut_toks h
  have hg : ∀ i (hi : i < L.length), L.getD i ⟨0, 0, 0, 0⟩ = L[i] := fun i hi => by rw [List.getD_eq_getElem?_getD, List.getElem?_eq_getElem hi]; rfl
  refine ⟨fun i hi => ?_, fun i j hij hj => ?_⟩
  · unfold kof
    rw [hg i hi]
    obtain ⟨_, g2, g3, g4, g5⟩ := h1 _ (List.getElem_mem hi)
    have a1 := lnn_le s (L[i]).lo
    have a2 := cln_le s (L[i]).lo
    refine ⟨⟨g3, ?_, ?_, ?_⟩, g5, ?_, ?_, ?_, ?_⟩
    · show (ttx s L[i]).size ≤ _
      unfold ttx
      split
      · show 0 ≤ _; omega
      · rw [ByteArray.size_extract]; omega
    · show _ ≤ ((L[i].num : Nat) : Int); omega
    · show ((L[i].num : Nat) : Int) ≤ _; omega
    · show 1 ≤ ((lnn s L[i].lo : Nat) : Int); omega
    · show 1 ≤ ((cln s L[i].lo : Nat) : Int); omega
    · show ((lnn s L[i].lo : Nat) : Int) ≤ 70000; omega
    · show ((cln s L[i].lo : Nat) : Int) ≤ 70000; omega
  · have hlt : (L[i]'(by omega)).lo < (L[j]'hj).lo := List.pairwise_iff_getElem.1 h2 i j (by omega) hj hij
    unfold kof
    rw [hg i (by omega), hg j hj]
    have := lc_lt (s := s) _ hlt
    show ((lnn s (L[i]'(by omega)).lo : Nat) : Int) < ((lnn s L[j].lo : Nat) : Int) ∨ (((lnn s (L[i]'(by omega)).lo : Nat) : Int) = ((lnn s L[j].lo : Nat) : Int) ∧ ((cln s (L[i]'(by omega)).lo : Nat) : Int) < ((cln s L[j].lo : Nat) : Int))
    omega
theorem cut_nil : CutA ⟨#[]⟩ [] 0 0 := .inr ⟨by show 0 ≤ _; omega, Cuts.done rfl⟩
theorem cut_err {s : ByteArray} {L : List Tk} {E a : Nat} (h : CutA s L E a) : E ≤ 90 := by
  rcases h with ⟨_, _, rfl, _⟩ | ⟨_, h⟩
  · omega
  · exact Cuts.ind (s := s) (M := fun _ _ E _ => E ≤ 90) (fun _ _ => by omega) (fun _ _ _ _ _ _ ih => ih) (fun _ _ _ _ _ _ _ ih => ih) (fun _ _ _ _ _ _ _ _ _ ih => ih) (fun _ _ _ _ _ _ _ _ _ _ ih => ih) (fun _ _ _ _ _ _ _ _ _ ih => ih) (fun _ _ _ _ _ _ ih => ih) (fun _ _ _ => by omega) h
end Go.Proofs.YtipjejkjoiifdaaDoor
