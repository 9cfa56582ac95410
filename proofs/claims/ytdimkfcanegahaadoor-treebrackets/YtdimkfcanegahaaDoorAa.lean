/-
  The mathematics of stage 9: bytes of a text, lines and columns, how a text is cut. No Go in sight.
-/
import Derived.Test.YtdimkfcanegahaaDoorMath
namespace Go.Proofs.YtdimkfcanegahaaDoor
/-- The byte i of a text. -/
def tb (s : ByteArray) (i : Nat) : Nat := if h : i < s.size then s[i].toNat else 0
theorem tb_at {s : ByteArray} {i : Nat} (h : i < s.size) : s[i].toNat = tb s i := by unfold tb; rw [dif_pos h]
theorem tb_lt (s : ByteArray) (i : Nat) : tb s i < 256 := by
  unfold tb
  split
  · exact UInt8.toNat_lt _
  · omega
/-- A letter, a digit, a sign, a blank. -/
def isL (c : Nat) : Bool := decide (97 ≤ c ∧ c ≤ 122)
def isD (c : Nat) : Bool := decide (48 ≤ c ∧ c ≤ 57)
def sgs : List Nat := [61, 59, 44, 40, 41, 91, 93, 43, 45, 42, 47, 37]
def isS (c : Nat) : Bool := sgs.contains c
def isB (c : Nat) : Bool := decide (c = 32 ∨ c = 9 ∨ c = 10)
theorem isL_iff {c : Nat} : isL c = true ↔ 97 ≤ c ∧ c ≤ 122 := by unfold isL; exact decide_eq_true_iff
theorem isD_iff {c : Nat} : isD c = true ↔ 48 ≤ c ∧ c ≤ 57 := by unfold isD; exact decide_eq_true_iff
theorem isB_iff {c : Nat} : isB c = true ↔ c = 32 ∨ c = 9 ∨ c = 10 := by unfold isB; exact decide_eq_true_iff
theorem isS_iff {c : Nat} : isS c = true ↔ c = 61 ∨ c = 59 ∨ c = 44 ∨ c = 40 ∨ c = 41 ∨ c = 91 ∨ c = 93 ∨ c = 43 ∨ c = 45 ∨ c = 42 ∨ c = 47 ∨ c = 37 := by
  unfold isS sgs
  simp
/-- The line and the column of a place. -/
def lnn (s : ByteArray) : Nat → Nat
  | 0 => 1
  | p + 1 => if tb s p = 10 then lnn s p + 1 else lnn s p
def cln (s : ByteArray) : Nat → Nat
  | 0 => 1
  | p + 1 => if tb s p = 10 then 1 else cln s p + 1
theorem lnn_succ (s : ByteArray) (p : Nat) : lnn s (p + 1) = if tb s p = 10 then lnn s p + 1 else lnn s p := rfl
theorem cln_succ (s : ByteArray) (p : Nat) : cln s (p + 1) = if tb s p = 10 then 1 else cln s p + 1 := rfl
theorem lnn_le (s : ByteArray) : ∀ p, 1 ≤ lnn s p ∧ lnn s p ≤ p + 1 := by
  intro p
  induction p with
  | zero => exact ⟨Nat.le_refl _, Nat.le_refl _⟩
  | succ p ih => unfold lnn; split <;> omega
theorem cln_le (s : ByteArray) : ∀ p, 1 ≤ cln s p ∧ cln s p ≤ p + 1 := by
  intro p
  induction p with
  | zero => exact ⟨Nat.le_refl _, Nat.le_refl _⟩
  | succ p ih => unfold cln; split <;> omega
/-- Behind bytes of one line. -/
theorem lc_line {s : ByteArray} {p : Nat} : ∀ k, (∀ j, p ≤ j → j < p + k → tb s j ≠ 10) → lnn s (p + k) = lnn s p ∧ cln s (p + k) = cln s p + k := by
  intro k
  induction k with
  | zero => intro _; exact ⟨rfl, rfl⟩
  | succ k ih =>
    intro h
    obtain ⟨h1, h2⟩ := ih (fun j a b => h j a (by omega))
    have h3 := h (p + k) (by omega) (by omega)
    rw [← Nat.add_assoc]
    rw [lnn_succ, cln_succ, if_neg h3, if_neg h3]
    exact ⟨h1, by rw [h2, Nat.add_assoc]⟩
/-- What begins at p goes on to e: digits (and letters). -/
structure Ends (s : ByteArray) (lt : Bool) (p e : Nat) : Prop where
  le : p ≤ e
  fits : e ≤ s.size
  all : ∀ j, p ≤ j → j < e → (isD (tb s j) || lt && isL (tb s j)) = true
  stop : e < s.size → (isD (tb s e) || lt && isL (tb s e)) = false
theorem Ends.one {s : ByteArray} {lt : Bool} {p e d : Nat} (h : Ends s lt p e) (g : Ends s lt p d) : e = d := by
  rcases Nat.lt_trichotomy e d with x | x | x
  · have h1 := g.all e h.le x
    have h2 := h.stop (by have := g.fits; omega)
    rw [h1] at h2
    cases h2
  · exact x
  · have h1 := h.all d g.le x
    have h2 := g.stop (by have := h.fits; omega)
    rw [h1] at h2
    cases h2
theorem ends_ex (s : ByteArray) (lt : Bool) : ∀ k p, p + k = s.size → ∃ e, Ends s lt p e := by
  intro k
  induction k with
  | zero => intro p h; exact ⟨p, Nat.le_refl _, by omega, fun j a b => by omega, fun x => by omega⟩
  | succ k ih =>
    intro p h
    cases hc : (isD (tb s p) || lt && isL (tb s p)) with
    | false => exact ⟨p, Nat.le_refl _, by omega, fun j a b => by omega, fun _ => hc⟩
    | true =>
      obtain ⟨e, h1, h2, h3, h4⟩ := ih (p + 1) (by omega)
      refine ⟨e, by omega, h2, fun j a b => ?_, h4⟩
      by_cases e : j = p
      · rw [e]; exact hc
      · exact h3 j (by omega) b
/-- The number of k digits from p on. -/
def nvl (s : ByteArray) (p : Nat) : Nat → Nat
  | 0 => 0
  | k + 1 => 10 * nvl s p k + (tb s (p + k) - 48)
theorem nvl_mono (s : ByteArray) (p k : Nat) : ∀ d, nvl s p k ≤ nvl s p (k + d) := by
  intro d
  induction d with
  | zero => exact Nat.le_refl _
  | succ d ih => show _ ≤ 10 * nvl s p (k + d) + _; omega
/-- The digits from p to e are a number. -/
def NumOk (s : ByteArray) (p e : Nat) : Prop := ¬ (tb s p = 48 ∧ 1 < e - p) ∧ nvl s p (e - p) ≤ 2147483647
/-- The words. -/
def wds : List ByteArray := [⟨#[99, 111, 100, 101]⟩, ⟨#[99, 111, 110, 115, 116]⟩, ⟨#[99, 114, 111, 115, 115]⟩, ⟨#[100, 111, 109, 97, 105, 110, 115]⟩, ⟨#[106, 111, 105, 110]⟩, ⟨#[108, 105, 115, 116]⟩, ⟨#[108, 111, 99, 97, 108]⟩, ⟨#[109, 97, 116, 114, 105, 120]⟩, ⟨#[112, 108, 97, 99, 101]⟩, ⟨#[112, 114, 111, 100, 117, 99, 116]⟩, ⟨#[112, 121, 114, 97, 109, 105, 100]⟩, ⟨#[114, 101, 101, 100]⟩, ⟨#[114, 111, 119]⟩, ⟨#[115, 112, 105, 114, 97, 108]⟩, ⟨#[115, 112, 114, 101, 97, 100]⟩, ⟨#[116, 111, 108, 101, 114, 97, 116, 101]⟩, ⟨#[117, 115, 101]⟩]
def isW (x : ByteArray) : Bool := decide (x.data ∈ wds.map ByteArray.data)
theorem isW_iff {x : ByteArray} : isW x = true ↔ x ∈ wds := by
  unfold isW
  rw [decide_eq_true_iff, List.mem_map]
  constructor
  · rintro ⟨y, hy, e⟩
    obtain ⟨z⟩ := y
    obtain ⟨u⟩ := x
    cases e
    exact hy
  · intro h
    exact ⟨x, h, rfl⟩
theorem tl_ne {x y : ByteArray} (h : y ≠ x) : (y.toList == x.toList) = false := by
  rw [ByteArray.toList_eq, ByteArray.toList_eq]
  cases hc : y.data.toList == x.data.toList with
  | false => rfl
  | true =>
    have e : y.data.toList = x.data.toList := by simpa using hc
    obtain ⟨z⟩ := y
    obtain ⟨u⟩ := x
    exact absurd (congrArg ByteArray.mk (Array.toList_inj.1 e)) h
/-- Letters and digits, a letter first, 1 to 16, no word. -/
structure NameP (x : ByteArray) : Prop where
  pos : 1 ≤ x.size
  most : x.size ≤ 16
  first : isL (tb x 0) = true
  noWord : isW x = false
  all : ∀ j, j < x.size → (isL (tb x j) || isD (tb x j)) = true
/-- A token: its kind, where it begins and ends, its number. -/
structure Tk where
  kind : Nat
  lo : Nat
  hi : Nat
  num : Nat
/-- How a text is cut from p on, in f steps: the tokens, the error and its place. -/
def CutF (s : ByteArray) : Nat → Nat → List Tk → Nat → Nat → Prop
  | 0, _, _, _, _ => False
  | f + 1, p, L, E, a =>
    (p = s.size ∧ L = [] ∧ E = 0 ∧ a = 0) ∨
    (p < s.size ∧ isB (tb s p) = true ∧ CutF s f (p + 1) L E a) ∨
    (∃ e, p < e ∧ e ≤ s.size ∧ tb s p = 35 ∧ (∀ j, p ≤ j → j < e → tb s j ≠ 10) ∧ (e < s.size → tb s e = 10) ∧ CutF s f e L E a) ∨
    (∃ e L', p < s.size ∧ isL (tb s p) = true ∧ Ends s true p e ∧ isW (s.extract p e) = true ∧ CutF s f e L' E a ∧ L = ⟨2, p, e, 0⟩ :: L') ∨
    (∃ e L', p < s.size ∧ isL (tb s p) = true ∧ Ends s true p e ∧ isW (s.extract p e) = false ∧ e - p ≤ 16 ∧ CutF s f e L' E a ∧ L = ⟨1, p, e, 0⟩ :: L') ∨
    (∃ e, p < s.size ∧ isL (tb s p) = true ∧ Ends s true p e ∧ isW (s.extract p e) = false ∧ 16 < e - p ∧ L = [] ∧ E = 90 ∧ p = a) ∨
    (∃ e L', p < s.size ∧ isD (tb s p) = true ∧ Ends s false p e ∧ NumOk s p e ∧ (e < s.size → isL (tb s e) = false) ∧ CutF s f e L' E a ∧ L = ⟨3, p, e, nvl s p (e - p)⟩ :: L') ∨
    (∃ e, p < s.size ∧ isD (tb s p) = true ∧ Ends s false p e ∧ ¬ NumOk s p e ∧ L = [] ∧ E = 90 ∧ p = a) ∨
    (∃ e, p < s.size ∧ isD (tb s p) = true ∧ Ends s false p e ∧ NumOk s p e ∧ e < s.size ∧ isL (tb s e) = true ∧ L = [] ∧ E = 90 ∧ e = a) ∨
    (∃ L', p < s.size ∧ isS (tb s p) = true ∧ CutF s f (p + 1) L' E a ∧ L = ⟨4, p, p + 1, 0⟩ :: L') ∨
    (p < s.size ∧ isB (tb s p) = false ∧ tb s p ≠ 35 ∧ isL (tb s p) = false ∧ isD (tb s p) = false ∧ isS (tb s p) = false ∧ L = [] ∧ E = 90 ∧ p = a)
/-- How a text is cut from p on. -/
def Cuts (s : ByteArray) (p : Nat) (L : List Tk) (E a : Nat) : Prop := ∃ f, CutF s f p L E a
theorem Cuts.done {s : ByteArray} {p : Nat} (h : p = s.size) : Cuts s p [] 0 0 := ⟨1, .inl ⟨h, rfl, rfl, rfl⟩⟩
theorem Cuts.skip {s : ByteArray} {p E a : Nat} {L : List Tk} (h1 : p < s.size) (h2 : isB (tb s p) = true) (h : Cuts s (p + 1) L E a) : Cuts s p L E a := by
  obtain ⟨f, h⟩ := h
  exact ⟨f + 1, .inr (.inl ⟨h1, h2, h⟩)⟩
theorem Cuts.rem {s : ByteArray} {p e E a : Nat} {L : List Tk} (h1 : p < e) (h2 : e ≤ s.size) (h3 : tb s p = 35) (h4 : ∀ j, p ≤ j → j < e → tb s j ≠ 10) (h5 : e < s.size → tb s e = 10) (h : Cuts s e L E a) : Cuts s p L E a := by
  obtain ⟨f, h⟩ := h
  exact ⟨f + 1, .inr (.inr (.inl ⟨e, h1, h2, h3, h4, h5, h⟩))⟩
theorem Cuts.word {s : ByteArray} {p e E a : Nat} {L : List Tk} (h1 : p < s.size) (h2 : isL (tb s p) = true) (h3 : Ends s true p e) (h4 : isW (s.extract p e) = true) (h : Cuts s e L E a) : Cuts s p (⟨2, p, e, 0⟩ :: L) E a := by
  obtain ⟨f, h⟩ := h
  exact ⟨f + 1, .inr (.inr (.inr (.inl ⟨e, L, h1, h2, h3, h4, h, rfl⟩)))⟩
theorem Cuts.name {s : ByteArray} {p e E a : Nat} {L : List Tk} (h1 : p < s.size) (h2 : isL (tb s p) = true) (h3 : Ends s true p e) (h4 : isW (s.extract p e) = false) (h5 : e - p ≤ 16) (h : Cuts s e L E a) : Cuts s p (⟨1, p, e, 0⟩ :: L) E a := by
  obtain ⟨f, h⟩ := h
  exact ⟨f + 1, .inr (.inr (.inr (.inr (.inl ⟨e, L, h1, h2, h3, h4, h5, h, rfl⟩))))⟩
theorem Cuts.long {s : ByteArray} {p e : Nat} (h1 : p < s.size) (h2 : isL (tb s p) = true) (h3 : Ends s true p e) (h4 : isW (s.extract p e) = false) (h5 : 16 < e - p) : Cuts s p [] 90 p :=
  ⟨1, .inr (.inr (.inr (.inr (.inr (.inl ⟨e, h1, h2, h3, h4, h5, rfl, rfl, rfl⟩)))))⟩
theorem Cuts.num {s : ByteArray} {p e E a : Nat} {L : List Tk} (h1 : p < s.size) (h2 : isD (tb s p) = true) (h3 : Ends s false p e) (h4 : NumOk s p e) (h5 : e < s.size → isL (tb s e) = false) (h : Cuts s e L E a) : Cuts s p (⟨3, p, e, nvl s p (e - p)⟩ :: L) E a := by
  obtain ⟨f, h⟩ := h
  exact ⟨f + 1, .inr (.inr (.inr (.inr (.inr (.inr (.inl ⟨e, L, h1, h2, h3, h4, h5, h, rfl⟩))))))⟩
theorem Cuts.numX {s : ByteArray} {p e : Nat} (h1 : p < s.size) (h2 : isD (tb s p) = true) (h3 : Ends s false p e) (h4 : ¬ NumOk s p e) : Cuts s p [] 90 p :=
  ⟨1, .inr (.inr (.inr (.inr (.inr (.inr (.inr (.inl ⟨e, h1, h2, h3, h4, rfl, rfl, rfl⟩)))))))⟩
theorem Cuts.numL {s : ByteArray} {p e : Nat} (h1 : p < s.size) (h2 : isD (tb s p) = true) (h3 : Ends s false p e) (h4 : NumOk s p e) (h5 : e < s.size) (h6 : isL (tb s e) = true) : Cuts s p [] 90 e :=
  ⟨1, .inr (.inr (.inr (.inr (.inr (.inr (.inr (.inr (.inl ⟨e, h1, h2, h3, h4, h5, h6, rfl, rfl, rfl⟩))))))))⟩
theorem Cuts.sign {s : ByteArray} {p E a : Nat} {L : List Tk} (h1 : p < s.size) (h2 : isS (tb s p) = true) (h : Cuts s (p + 1) L E a) : Cuts s p (⟨4, p, p + 1, 0⟩ :: L) E a := by
  obtain ⟨f, h⟩ := h
  exact ⟨f + 1, .inr (.inr (.inr (.inr (.inr (.inr (.inr (.inr (.inr (.inl ⟨L, h1, h2, h, rfl⟩)))))))))⟩
theorem Cuts.bad {s : ByteArray} {p : Nat} (h1 : p < s.size) (h2 : isB (tb s p) = false) (h3 : tb s p ≠ 35) (h4 : isL (tb s p) = false) (h5 : isD (tb s p) = false) (h6 : isS (tb s p) = false) : Cuts s p [] 90 p :=
  ⟨1, .inr (.inr (.inr (.inr (.inr (.inr (.inr (.inr (.inr (.inr ⟨h1, h2, h3, h4, h5, h6, rfl, rfl, rfl⟩)))))))))⟩
/-- By which way a text is cut, and that what is left is cut. -/
theorem Cuts.inv {s : ByteArray} {p E a : Nat} {L : List Tk} (h : Cuts s p L E a) :
    (p = s.size ∧ L = [] ∧ E = 0 ∧ a = 0) ∨
    (p < s.size ∧ isB (tb s p) = true ∧ Cuts s (p + 1) L E a) ∨
    (∃ e, p < e ∧ e ≤ s.size ∧ tb s p = 35 ∧ (∀ j, p ≤ j → j < e → tb s j ≠ 10) ∧ (e < s.size → tb s e = 10) ∧ Cuts s e L E a) ∨
    (∃ e L', p < s.size ∧ isL (tb s p) = true ∧ Ends s true p e ∧ isW (s.extract p e) = true ∧ Cuts s e L' E a ∧ L = ⟨2, p, e, 0⟩ :: L') ∨
    (∃ e L', p < s.size ∧ isL (tb s p) = true ∧ Ends s true p e ∧ isW (s.extract p e) = false ∧ e - p ≤ 16 ∧ Cuts s e L' E a ∧ L = ⟨1, p, e, 0⟩ :: L') ∨
    (∃ e, p < s.size ∧ isL (tb s p) = true ∧ Ends s true p e ∧ isW (s.extract p e) = false ∧ 16 < e - p ∧ L = [] ∧ E = 90 ∧ p = a) ∨
    (∃ e L', p < s.size ∧ isD (tb s p) = true ∧ Ends s false p e ∧ NumOk s p e ∧ (e < s.size → isL (tb s e) = false) ∧ Cuts s e L' E a ∧ L = ⟨3, p, e, nvl s p (e - p)⟩ :: L') ∨
    (∃ e, p < s.size ∧ isD (tb s p) = true ∧ Ends s false p e ∧ ¬ NumOk s p e ∧ L = [] ∧ E = 90 ∧ p = a) ∨
    (∃ e, p < s.size ∧ isD (tb s p) = true ∧ Ends s false p e ∧ NumOk s p e ∧ e < s.size ∧ isL (tb s e) = true ∧ L = [] ∧ E = 90 ∧ e = a) ∨
    (∃ L', p < s.size ∧ isS (tb s p) = true ∧ Cuts s (p + 1) L' E a ∧ L = ⟨4, p, p + 1, 0⟩ :: L') ∨
    (p < s.size ∧ isB (tb s p) = false ∧ tb s p ≠ 35 ∧ isL (tb s p) = false ∧ isD (tb s p) = false ∧ isS (tb s p) = false ∧ L = [] ∧ E = 90 ∧ p = a) := by
  obtain ⟨f, h⟩ := h
  cases f with
  | zero => exact h.elim
  | succ f =>
    rcases h with h | ⟨h1, h2, h⟩ | ⟨e, h1, h2, h3, h4, h5, h⟩ | ⟨e, L', h1, h2, h3, h4, h, hl⟩ | ⟨e, L', h1, h2, h3, h4, h5, h, hl⟩ | h | ⟨e, L', h1, h2, h3, h4, h5, h, hl⟩ | h | h | ⟨L', h1, h2, h, hl⟩ | h
    · exact .inl h
    · exact .inr (.inl ⟨h1, h2, f, h⟩)
    · exact .inr (.inr (.inl ⟨e, h1, h2, h3, h4, h5, f, h⟩))
    · exact .inr (.inr (.inr (.inl ⟨e, L', h1, h2, h3, h4, ⟨f, h⟩, hl⟩)))
    · exact .inr (.inr (.inr (.inr (.inl ⟨e, L', h1, h2, h3, h4, h5, ⟨f, h⟩, hl⟩))))
    · exact .inr (.inr (.inr (.inr (.inr (.inl h)))))
    · exact .inr (.inr (.inr (.inr (.inr (.inr (.inl ⟨e, L', h1, h2, h3, h4, h5, ⟨f, h⟩, hl⟩))))))
    · exact .inr (.inr (.inr (.inr (.inr (.inr (.inr (.inl h)))))))
    · exact .inr (.inr (.inr (.inr (.inr (.inr (.inr (.inr (.inl h))))))))
    · exact .inr (.inr (.inr (.inr (.inr (.inr (.inr (.inr (.inr (.inl ⟨L', h1, h2, ⟨f, h⟩, hl⟩)))))))))
    · exact .inr (.inr (.inr (.inr (.inr (.inr (.inr (.inr (.inr (.inr h)))))))))
/-- What holds at the ends and goes over from what is left. -/
theorem Cuts.ind {s : ByteArray} {M : Nat → List Tk → Nat → Nat → Prop}
    (done : ∀ p, p = s.size → M p [] 0 0)
    (skip : ∀ p L E a, p < s.size → isB (tb s p) = true → M (p + 1) L E a → M p L E a)
    (rem : ∀ p e L E a, p < e → e ≤ s.size → M e L E a → M p L E a)
    (word : ∀ p e L E a, p < s.size → isL (tb s p) = true → Ends s true p e → isW (s.extract p e) = true → M e L E a → M p (⟨2, p, e, 0⟩ :: L) E a)
    (name : ∀ p e L E a, p < s.size → isL (tb s p) = true → Ends s true p e → isW (s.extract p e) = false → e - p ≤ 16 → M e L E a → M p (⟨1, p, e, 0⟩ :: L) E a)
    (num : ∀ p e L E a, p < s.size → isD (tb s p) = true → Ends s false p e → NumOk s p e → M e L E a → M p (⟨3, p, e, nvl s p (e - p)⟩ :: L) E a)
    (sign : ∀ p L E a, p < s.size → isS (tb s p) = true → M (p + 1) L E a → M p (⟨4, p, p + 1, 0⟩ :: L) E a)
    (fault : ∀ p a, p < s.size → M p [] 90 a) : ∀ {p : Nat} {L : List Tk} {E a : Nat}, Cuts s p L E a → M p L E a := by
  intro p L E a h
  obtain ⟨f, h⟩ := h
  induction f generalizing p L E a with
  | zero => exact h.elim
  | succ f ih =>
    rcases h with ⟨h1, rfl, rfl, rfl⟩ | ⟨h1, h2, h⟩ | ⟨e, h1, h2, h3, h4, h5, h⟩ | ⟨e, L', h1, h2, h3, h4, h, rfl⟩ | ⟨e, L', h1, h2, h3, h4, h5, h, rfl⟩ | ⟨e, h1, _, _, _, _, rfl, rfl, _⟩ | ⟨e, L', h1, h2, h3, h4, h5, h, rfl⟩ | ⟨e, h1, _, _, _, rfl, rfl, _⟩ | ⟨e, h1, _, _, _, _, _, rfl, rfl, _⟩ | ⟨L', h1, h2, h, rfl⟩ | ⟨h1, _, _, _, _, _, rfl, rfl, _⟩
    · exact done p h1
    · exact skip p L E a h1 h2 (ih h)
    · exact rem p e L E a h1 h2 (ih h)
    · exact word p e L' E a h1 h2 h3 h4 (ih h)
    · exact name p e L' E a h1 h2 h3 h4 h5 (ih h)
    · exact fault p a h1
    · exact num p e L' E a h1 h2 h3 h4 (ih h)
    · exact fault p a h1
    · exact fault p a h1
    · exact sign p L' E a h1 h2 (ih h)
    · exact fault p a h1
theorem rem_ex (s : ByteArray) : ∀ k p, p + k = s.size → ∃ e, p ≤ e ∧ e ≤ s.size ∧ (∀ j, p ≤ j → j < e → tb s j ≠ 10) ∧ (e < s.size → tb s e = 10) := by
  intro k
  induction k with
  | zero => intro p h; exact ⟨p, Nat.le_refl _, by omega, fun j a b => by omega, fun x => by omega⟩
  | succ k ih =>
    intro p h
    by_cases hc : tb s p = 10
    · exact ⟨p, Nat.le_refl _, by omega, fun j a b => by omega, fun _ => hc⟩
    · obtain ⟨e, h1, h2, h3, h4⟩ := ih (p + 1) (by omega)
      refine ⟨e, by omega, h2, fun j a b => ?_, h4⟩
      by_cases e : j = p
      · rw [e]; exact hc
      · exact h3 j (by omega) b
theorem Ends.more {s : ByteArray} {lt : Bool} {p e : Nat} (h : Ends s lt p e) (hp : p < s.size) (hc : (isD (tb s p) || lt && isL (tb s p)) = true) : p < e := by
  rcases Nat.lt_or_ge p e with x | x
  · exact x
  · have : p = e := by have := h.le; omega
    subst this
    rw [h.stop hp] at hc
    cases hc
theorem cut_ex (s : ByteArray) : ∀ k p, p + k = s.size → ∃ L E a, Cuts s p L E a := by
  intro k
  induction k using Nat.strongRecOn with
  | _ k ih =>
    intro p hk
    by_cases h0 : k = 0
    · exact ⟨_, _, _, .done (by omega)⟩
    · have hp : p < s.size := by omega
      have go : ∀ e, p < e → e ≤ s.size → ∃ L E a, Cuts s e L E a := fun e h1 h2 => ih (s.size - e) (by omega) e (by omega)
      cases hB : isB (tb s p) with
      | true =>
        obtain ⟨L, E, a, h⟩ := go (p + 1) (by omega) (by omega)
        exact ⟨_, _, _, .skip hp hB h⟩
      | false =>
        by_cases hR : tb s p = 35
        · obtain ⟨e, h1, h2, h3, h4⟩ := rem_ex s (s.size - p) p (by omega)
          have hpe : p < e := by
            rcases Nat.lt_or_ge p e with x | x
            · exact x
            · have : p = e := by omega
              subst this
              have := h4 hp
              omega
          obtain ⟨L, E, a, h⟩ := go e hpe h2
          exact ⟨_, _, _, .rem hpe h2 hR h3 h4 h⟩
        · cases hL : isL (tb s p) with
          | true =>
            obtain ⟨e, he⟩ := ends_ex s true (s.size - p) p (by omega)
            have hpe := he.more hp (by rw [hL]; simp)
            obtain ⟨L, E, a, h⟩ := go e hpe he.fits
            cases hw : isW (s.extract p e) with
            | true => exact ⟨_, _, _, .word hp hL he hw h⟩
            | false =>
              by_cases h16 : e - p ≤ 16
              · exact ⟨_, _, _, .name hp hL he hw h16 h⟩
              · exact ⟨_, _, _, .long hp hL he hw (by omega)⟩
          | false =>
            cases hD : isD (tb s p) with
            | true =>
              obtain ⟨e, he⟩ := ends_ex s false (s.size - p) p (by omega)
              have hpe := he.more hp (by rw [hD]; rfl)
              obtain ⟨L, E, a, h⟩ := go e hpe he.fits
              by_cases hn : NumOk s p e
              · by_cases hl : e < s.size ∧ isL (tb s e) = true
                · exact ⟨_, _, _, .numL hp hD he hn hl.1 hl.2⟩
                · refine ⟨_, _, _, .num hp hD he hn (fun x => ?_) h⟩
                  cases hx : isL (tb s e) with
                  | false => rfl
                  | true => exact absurd ⟨x, hx⟩ hl
              · exact ⟨_, _, _, .numX hp hD he hn⟩
            | false =>
              cases hS : isS (tb s p) with
              | true =>
                obtain ⟨L, E, a, h⟩ := go (p + 1) (by omega) (by omega)
                exact ⟨_, _, _, .sign hp hS h⟩
              | false => exact ⟨_, _, _, .bad hp hB hR hL hD hS⟩
end Go.Proofs.YtdimkfcanegahaaDoor
