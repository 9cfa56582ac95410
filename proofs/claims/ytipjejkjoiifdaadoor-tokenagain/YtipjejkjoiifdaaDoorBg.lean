/-
  What holds at the jumps of the program's Cut.
-/
import Derived.Test.YtipjejkjoiifdaaDoorBf
namespace Go.Proofs.YtipjejkjoiifdaaDoor
open Go.RowKit
theorem Cuts.blank {s : ByteArray} {p E a : Nat} {R : List Tk} (h : Cuts s p R E a) (hp : p < s.size) (hc : isB (tb s p) = true) : Cuts s (p + 1) R E a := by
  have h0 := isB_iff.1 hc
  rcases h.inv with ⟨h, _⟩ | ⟨_, h, h'⟩ | ⟨e, h1, h2, h, h3, h4, h'⟩ | ⟨e, L', _, h, hE, hW, h', hl⟩ | ⟨e, L', _, h, hE, hW, h5, h', hl⟩ | ⟨e, _, h, hE, hW, h5, hl, h6, h7⟩ | ⟨e, L', _, h, hE, hN, h5, h', hl⟩ | ⟨e, _, h, hE, hN, hl, h6, h7⟩ | ⟨e, _, h, hE, hN, h4, h5, hl, h6, h7⟩ | ⟨L', _, h, h', hl⟩ | ⟨_, hb, hr, hL, hD, hS, hl, h6, h7⟩
  · omega
  · exact h'
  · omega
  · have := isL_iff.1 h; omega
  · have := isL_iff.1 h; omega
  · have := isL_iff.1 h; omega
  · have := isD_iff.1 h; omega
  · have := isD_iff.1 h; omega
  · have := isD_iff.1 h; omega
  · have := isS_iff.1 h; omega
  · rw [hc] at hb; cases hb
theorem Cuts.remark {s : ByteArray} {p E a : Nat} {R : List Tk} (h : Cuts s p R E a) (hp : p < s.size) (hc : tb s p = 35) : ∃ e, p < e ∧ e ≤ s.size ∧ (∀ j, p ≤ j → j < e → tb s j ≠ 10) ∧ (e < s.size → tb s e = 10) ∧ Cuts s e R E a := by
  rcases h.inv with ⟨h, _⟩ | ⟨_, h, h'⟩ | ⟨e, h1, h2, h, h3, h4, h'⟩ | ⟨e, L', _, h, hE, hW, h', hl⟩ | ⟨e, L', _, h, hE, hW, h5, h', hl⟩ | ⟨e, _, h, hE, hW, h5, hl, h6, h7⟩ | ⟨e, L', _, h, hE, hN, h5, h', hl⟩ | ⟨e, _, h, hE, hN, hl, h6, h7⟩ | ⟨e, _, h, hE, hN, h4, h5, hl, h6, h7⟩ | ⟨L', _, h, h', hl⟩ | ⟨_, hb, hr, hL, hD, hS, hl, h6, h7⟩
  · omega
  · have := isB_iff.1 h; omega
  · exact ⟨e, h1, h2, h3, h4, h'⟩
  · have := isL_iff.1 h; omega
  · have := isL_iff.1 h; omega
  · have := isL_iff.1 h; omega
  · have := isD_iff.1 h; omega
  · have := isD_iff.1 h; omega
  · have := isD_iff.1 h; omega
  · have := isS_iff.1 h; omega
  · exact absurd hc hr
theorem Cuts.letter {s : ByteArray} {p E a : Nat} {R : List Tk} (h : Cuts s p R E a) (hp : p < s.size) (hc : isL (tb s p) = true) :
    ∃ e, Ends s true p e ∧ ((isW (s.extract p e) = true ∧ ∃ R', Cuts s e R' E a ∧ R = ⟨2, p, e, 0⟩ :: R') ∨ (isW (s.extract p e) = false ∧ e - p ≤ 16 ∧ ∃ R', Cuts s e R' E a ∧ R = ⟨1, p, e, 0⟩ :: R') ∨ (16 < e - p ∧ E = 90 ∧ p = a)) := by
  have h0 := isL_iff.1 hc
  rcases h.inv with ⟨h, _⟩ | ⟨_, h, h'⟩ | ⟨e, h1, h2, h, h3, h4, h'⟩ | ⟨e, L', _, h, hE, hW, h', hl⟩ | ⟨e, L', _, h, hE, hW, h5, h', hl⟩ | ⟨e, _, h, hE, hW, h5, hl, h6, h7⟩ | ⟨e, L', _, h, hE, hN, h5, h', hl⟩ | ⟨e, _, h, hE, hN, hl, h6, h7⟩ | ⟨e, _, h, hE, hN, h4, h5, hl, h6, h7⟩ | ⟨L', _, h, h', hl⟩ | ⟨_, hb, hr, hL, hD, hS, hl, h6, h7⟩
  · omega
  · have := isB_iff.1 h; omega
  · omega
  · exact ⟨e, hE, .inl ⟨hW, L', h', hl⟩⟩
  · exact ⟨e, hE, .inr (.inl ⟨hW, h5, L', h', hl⟩)⟩
  · exact ⟨e, hE, .inr (.inr ⟨h5, h6, h7⟩)⟩
  · have := isD_iff.1 h; omega
  · have := isD_iff.1 h; omega
  · have := isD_iff.1 h; omega
  · have := isS_iff.1 h; omega
  · rw [hc] at hL; cases hL
theorem Cuts.digit {s : ByteArray} {p E a : Nat} {R : List Tk} (h : Cuts s p R E a) (hp : p < s.size) (hc : isD (tb s p) = true) :
    ∃ e, Ends s false p e ∧ ((NumOk s p e ∧ (e < s.size → isL (tb s e) = false) ∧ ∃ R', Cuts s e R' E a ∧ R = ⟨3, p, e, nvl s p (e - p)⟩ :: R') ∨ (¬ NumOk s p e ∧ E = 90 ∧ p = a) ∨ (NumOk s p e ∧ e < s.size ∧ isL (tb s e) = true ∧ E = 90 ∧ e = a)) := by
  have h0 := isD_iff.1 hc
  rcases h.inv with ⟨h, _⟩ | ⟨_, h, h'⟩ | ⟨e, h1, h2, h, h3, h4, h'⟩ | ⟨e, L', _, h, hE, hW, h', hl⟩ | ⟨e, L', _, h, hE, hW, h5, h', hl⟩ | ⟨e, _, h, hE, hW, h5, hl, h6, h7⟩ | ⟨e, L', _, h, hE, hN, h5, h', hl⟩ | ⟨e, _, h, hE, hN, hl, h6, h7⟩ | ⟨e, _, h, hE, hN, h4, h5, hl, h6, h7⟩ | ⟨L', _, h, h', hl⟩ | ⟨_, hb, hr, hL, hD, hS, hl, h6, h7⟩
  · omega
  · have := isB_iff.1 h; omega
  · omega
  · have := isL_iff.1 h; omega
  · have := isL_iff.1 h; omega
  · have := isL_iff.1 h; omega
  · exact ⟨e, hE, .inl ⟨hN, h5, L', h', hl⟩⟩
  · exact ⟨e, hE, .inr (.inl ⟨hN, h6, h7⟩)⟩
  · exact ⟨e, hE, .inr (.inr ⟨hN, h4, h5, h6, h7⟩)⟩
  · have := isS_iff.1 h; omega
  · rw [hc] at hD; cases hD
theorem Cuts.signed {s : ByteArray} {p E a : Nat} {R : List Tk} (h : Cuts s p R E a) (hp : p < s.size) (hc : isS (tb s p) = true) : ∃ R', Cuts s (p + 1) R' E a ∧ R = ⟨4, p, p + 1, 0⟩ :: R' := by
  have h0 := isS_iff.1 hc
  rcases h.inv with ⟨h, _⟩ | ⟨_, h, h'⟩ | ⟨e, h1, h2, h, h3, h4, h'⟩ | ⟨e, L', _, h, hE, hW, h', hl⟩ | ⟨e, L', _, h, hE, hW, h5, h', hl⟩ | ⟨e, _, h, hE, hW, h5, hl, h6, h7⟩ | ⟨e, L', _, h, hE, hN, h5, h', hl⟩ | ⟨e, _, h, hE, hN, hl, h6, h7⟩ | ⟨e, _, h, hE, hN, h4, h5, hl, h6, h7⟩ | ⟨L', _, h, h', hl⟩ | ⟨_, hb, hr, hL, hD, hS, hl, h6, h7⟩
  · omega
  · have := isB_iff.1 h; omega
  · omega
  · have := isL_iff.1 h; omega
  · have := isL_iff.1 h; omega
  · have := isL_iff.1 h; omega
  · have := isD_iff.1 h; omega
  · have := isD_iff.1 h; omega
  · have := isD_iff.1 h; omega
  · exact ⟨L', h', hl⟩
  · rw [hc] at hS; cases hS
theorem Cuts.other {s : ByteArray} {p E a : Nat} {R : List Tk} (h : Cuts s p R E a) (hp : p < s.size) (h1 : isB (tb s p) = false) (h2 : tb s p ≠ 35) (h3 : isL (tb s p) = false) (h4 : isD (tb s p) = false) (h5 : isS (tb s p) = false) : E = 90 ∧ p = a := by
  rcases h.inv with ⟨h, _⟩ | ⟨_, h, h'⟩ | ⟨e, _, _, h, _⟩ | ⟨e, L', _, h, _⟩ | ⟨e, L', _, h, _⟩ | ⟨e, _, h, _⟩ | ⟨e, L', _, h, _⟩ | ⟨e, _, h, _⟩ | ⟨e, _, h, _⟩ | ⟨L', _, h, _⟩ | ⟨_, hb, hr, hL, hD, hS, hl, h6, h7⟩
  · omega
  · rw [h1] at h; cases h
  · exact absurd h h2
  · rw [h3] at h; cases h
  · rw [h3] at h; cases h
  · rw [h3] at h; cases h
  · rw [h4] at h; cases h
  · rw [h4] at h; cases h
  · rw [h4] at h; cases h
  · rw [h5] at h; cases h
  · exact ⟨h6, h7⟩
theorem word_le : ∀ x ∈ wds, x.size ≤ 9 := by decide
/-- Cut's frame at a jump. -/
def CFr (w0 : World) (s : ByteArray) (a : Act) : Prop := ∃ f : Nat → Value, a = { tmps := #[.string s, undef, .slice none 0 0, .pointer (some ⟨w0.heap.size, 0, none⟩), .pointer (some ⟨w0.heap.size + 1, 0, none⟩), f 5, f 6, f 7, f 8, f 9, f 10, f 11, f 12, f 13, f 14, f 15, f 16, f 17, f 18, f 19, f 20, f 21, f 22, f 23, f 24, f 25, f 26, f 27, f 28, f 29, f 30, f 31, f 32, f 33, f 34, f 35, f 36, f 37, f 38, f 39, f 40, f 41, f 42, f 43, f 44, f 45, f 46, f 47, f 48, f 49, f 50, f 51, f 52, f 53, f 54, f 55, f 56, f 57, f 58, f 59, f 60, f 61, f 62, f 63, f 64, f 65, f 66, f 67, f 68, f 69, f 70, f 71, f 72, f 73, f 74, f 75, f 76, f 77, f 78, f 79, f 80, f 81, f 82, f 83, f 84, f 85, f 86, f 87, f 88, f 89, f 90, f 91, f 92, f 93, f 94, f 95, f 96], defers := [] }
set_option maxRecDepth 20000 in
theorem CFr.mk (w0 : World) (s : ByteArray) (u5 u6 u7 u8 u9 u10 u11 u12 u13 u14 u15 u16 u17 u18 u19 u20 u21 u22 u23 u24 u25 u26 u27 u28 u29 u30 u31 u32 u33 u34 u35 u36 u37 u38 u39 u40 u41 u42 u43 u44 u45 u46 u47 u48 u49 u50 u51 u52 u53 u54 u55 u56 u57 u58 u59 u60 u61 u62 u63 u64 u65 u66 u67 u68 u69 u70 u71 u72 u73 u74 u75 u76 u77 u78 u79 u80 u81 u82 u83 u84 u85 u86 u87 u88 u89 u90 u91 u92 u93 u94 u95 u96 : Value) : CFr w0 s { tmps := #[.string s, undef, .slice none 0 0, .pointer (some ⟨w0.heap.size, 0, none⟩), .pointer (some ⟨w0.heap.size + 1, 0, none⟩), u5, u6, u7, u8, u9, u10, u11, u12, u13, u14, u15, u16, u17, u18, u19, u20, u21, u22, u23, u24, u25, u26, u27, u28, u29, u30, u31, u32, u33, u34, u35, u36, u37, u38, u39, u40, u41, u42, u43, u44, u45, u46, u47, u48, u49, u50, u51, u52, u53, u54, u55, u56, u57, u58, u59, u60, u61, u62, u63, u64, u65, u66, u67, u68, u69, u70, u71, u72, u73, u74, u75, u76, u77, u78, u79, u80, u81, u82, u83, u84, u85, u86, u87, u88, u89, u90, u91, u92, u93, u94, u95, u96], defers := [] } :=
  ⟨fun i => match i with | 5 => u5 | 6 => u6 | 7 => u7 | 8 => u8 | 9 => u9 | 10 => u10 | 11 => u11 | 12 => u12 | 13 => u13 | 14 => u14 | 15 => u15 | 16 => u16 | 17 => u17 | 18 => u18 | 19 => u19 | 20 => u20 | 21 => u21 | 22 => u22 | 23 => u23 | 24 => u24 | 25 => u25 | 26 => u26 | 27 => u27 | 28 => u28 | 29 => u29 | 30 => u30 | 31 => u31 | 32 => u32 | 33 => u33 | 34 => u34 | 35 => u35 | 36 => u36 | 37 => u37 | 38 => u38 | 39 => u39 | 40 => u40 | 41 => u41 | 42 => u42 | 43 => u43 | 44 => u44 | 45 => u45 | 46 => u46 | 47 => u47 | 48 => u48 | 49 => u49 | 50 => u50 | 51 => u51 | 52 => u52 | 53 => u53 | 54 => u54 | 55 => u55 | 56 => u56 | 57 => u57 | 58 => u58 | 59 => u59 | 60 => u60 | 61 => u61 | 62 => u62 | 63 => u63 | 64 => u64 | 65 => u65 | 66 => u66 | 67 => u67 | 68 => u68 | 69 => u69 | 70 => u70 | 71 => u71 | 72 => u72 | 73 => u73 | 74 => u74 | 75 => u75 | 76 => u76 | 77 => u77 | 78 => u78 | 79 => u79 | 80 => u80 | 81 => u81 | 82 => u82 | 83 => u83 | 84 => u84 | 85 => u85 | 86 => u86 | 87 => u87 | 88 => u88 | 89 => u89 | 90 => u90 | 91 => u91 | 92 => u92 | 93 => u93 | 94 => u94 | 95 => u95 | 96 => u96 | _ => undef, rfl⟩
/-- How far Cut is. -/
structure CSt (w0 : World) (s : ByteArray) (L : List Tk) (E a0 : Nat) (w : World) (bg p ln fs : Nat) (v : Value) (L0 R : List Tk) : Prop where
  fit : p ≤ s.size
  cu : Cu w (w0.heap.size + 1) s bg p ln fs v
  tl : Tls w (w0.heap.size + 1 + 1) v s L0
  hln : lnn s p = ln
  hfs : fs + cln s p = p + 1
  eq : L = L0 ++ R
  cut : Cuts s p R E a0
  len : L0.length ≤ p
  bel : Below (w0.heap.size + 1) (W9 w0) w
/-- What holds at a jump to a label. -/
def CJ (w0 : World) (s : ByteArray) (L : List Tk) (E a0 : Nat) (l : Nat) (a : Act) (w : World) : Prop := CFr w0 s a ∧
  ((l = 0 ∧ ∃ bg p ln fs v L0 R, CSt w0 s L E a0 w bg p ln fs v L0 R) ∨
   (1 ≤ l ∧ l ≤ 5 ∧ ∃ p ln fs v L0 R, CSt w0 s L E a0 w p p ln fs v L0 R ∧ p < s.size ∧ (l = 1 → isB (tb s p) = true) ∧ (l = 2 → tb s p = 35) ∧ (l = 3 → isL (tb s p) = true) ∧ (l = 4 → isD (tb s p) = true) ∧ (l = 5 → isS (tb s p) = true)) ∨
   (l = 6 ∧ E = 90 ∧ a0 ≤ s.size ∧ ∃ p ln fs v, Cu w (w0.heap.size + 1) s a0 p ln fs v ∧ lnn s a0 = ln ∧ fs + cln s a0 = a0 + 1 ∧ Below (w0.heap.size + 1) (W9 w0) w))
theorem CJ.lt {w0 : World} {s : ByteArray} {L : List Tk} {E a0 l : Nat} {a : Act} {w : World} (h : CJ w0 s L E a0 l a w) : l < 7 := by
  rcases h.2 with ⟨h, _⟩ | ⟨_, h, _⟩ | ⟨h, _⟩ <;> omega
/-- What is left to do. -/
def cm (w0 : World) (s : ByteArray) (l : Nat) (w : World) : Nat := if l = 6 then 0 else if l = 0 then 2 * (s.size - (intOf ((w.cell? ⟨w0.heap.size + 1, 2, none⟩).getD (.int .i64 0))).toNat) + 1 else 2 * (s.size - (intOf ((w.cell? ⟨w0.heap.size + 1, 2, none⟩).getD (.int .i64 0))).toNat)
theorem cm_pos {w0 w : World} {s : ByteArray} {bg p ln fs : Nat} {v : Value} (h : Cu w (w0.heap.size + 1) s bg p ln fs v) : (intOf ((w.cell? ⟨w0.heap.size + 1, 2, none⟩).getD (.int .i64 0))).toNat = p := by rw [h.c2]; simp [intOf]
theorem cm_zero {w0 w : World} {s : ByteArray} {bg p ln fs : Nat} {v : Value} (h : Cu w (w0.heap.size + 1) s bg p ln fs v) : cm w0 s 0 w = 2 * (s.size - p) + 1 := by
  unfold cm
  rw [if_neg (by decide), if_pos rfl, cm_pos h]
theorem cm_mid {w0 w : World} {s : ByteArray} {bg p ln fs l : Nat} {v : Value} (h : Cu w (w0.heap.size + 1) s bg p ln fs v) (h1 : 1 ≤ l) (h2 : l ≤ 5) : cm w0 s l w = 2 * (s.size - p) := by
  unfold cm
  rw [if_neg (by omega), if_neg (by omega), cm_pos h]
theorem cm_six (w0 w : World) (s : ByteArray) : cm w0 s 6 w = 0 := rfl
/-- Ways to the labels. -/
theorem CJ.back {w0 : World} {s : ByteArray} {L : List Tk} {E a0 l : Nat} {a : Act} {w w1 : World} {bg p ln fs bg' p' ln' fs' : Nat} {v v' : Value} {L0 R : List Tk} (hf : CFr w0 s a) (h : CSt w0 s L E a0 w bg p ln fs v L0 R) (h1 : 1 ≤ l) (h2 : l ≤ 5) (hc : Cu w1 (w0.heap.size + 1) s bg' p' ln' fs' v') (hp : p' < p) : CJ w0 s L E a0 0 a w ∧ cm w0 s 0 w < cm w0 s l w1 :=
  ⟨⟨hf, .inl ⟨rfl, bg, p, ln, fs, v, L0, R, h⟩⟩, by rw [cm_zero h.cu, cm_mid hc h1 h2]; have := h.fit; omega⟩
theorem CJ.on {w0 : World} {s : ByteArray} {L : List Tk} {E a0 l : Nat} {a : Act} {w w1 : World} {p ln fs bg' ln' fs' : Nat} {v v' : Value} {L0 R : List Tk} (h1 : 1 ≤ l) (h2 : l ≤ 5) (hf : CFr w0 s a) (h : CSt w0 s L E a0 w p p ln fs v L0 R) (hp : p < s.size) (q1 : l = 1 → isB (tb s p) = true) (q2 : l = 2 → tb s p = 35) (q3 : l = 3 → isL (tb s p) = true) (q4 : l = 4 → isD (tb s p) = true) (q5 : l = 5 → isS (tb s p) = true) (hc : Cu w1 (w0.heap.size + 1) s bg' p ln' fs' v') : CJ w0 s L E a0 l a w ∧ cm w0 s l w < cm w0 s 0 w1 :=
  ⟨⟨hf, .inr (.inl ⟨h1, h2, p, ln, fs, v, L0, R, h, hp, q1, q2, q3, q4, q5⟩)⟩, by rw [cm_zero hc, cm_mid h.cu h1 h2]; omega⟩
theorem CJ.off {w0 : World} {s : ByteArray} {L : List Tk} {E a0 l : Nat} {a : Act} {w w1 : World} {p ln fs bg' p' ln' fs' : Nat} {v v' : Value} (hf : CFr w0 s a) (hE : E = 90) (ha : a0 ≤ s.size) (h : Cu w (w0.heap.size + 1) s a0 p ln fs v) (hl : lnn s a0 = ln) (hfs : fs + cln s a0 = a0 + 1) (hb : Below (w0.heap.size + 1) (W9 w0) w) (hc : Cu w1 (w0.heap.size + 1) s bg' p' ln' fs' v') (h2 : l ≤ 5) (hp : p' < s.size) : CJ w0 s L E a0 6 a w ∧ cm w0 s 6 w < cm w0 s l w1 :=
  ⟨⟨hf, .inr (.inr ⟨rfl, hE, ha, p, ln, fs, v, h, hl, hfs, hb⟩)⟩, by
    rw [cm_six]
    by_cases h0 : l = 0
    · subst h0; rw [cm_zero hc]; omega
    · rw [cm_mid hc (by omega) h2]; omega⟩
end Go.Proofs.YtipjejkjoiifdaaDoor
