/-
  Words for the reference's wide: the elimination in place, of up to 65 columns.
-/
import Derived.Test.YtnfbbddoaeofgaaGreatQmmde00
import Derived.Test.YtnfbbddoaeofgaaGreatQmmde16
set_option maxRecDepth 100000
set_option maxHeartbeats 16000000
namespace Go.Proofs.YtnfbbddoaeofgaaGreat
open Go.RowKit
theorem qd0 {w wr w' : World} {row row' : Option Nat} (h : w.grownBy wr row) (h2 : wr.grownBy w' row') (hb : ∀ b, row' = some b → row = some b ∨ w.heap.size ≤ b) : w.grownBy w' row :=
 ⟨h2.os.trans h.os, h2.tape.trans h.tape, h2.output.trans h.output, Nat.le_trans h.size h2.size, fun k hk hne => by
  rw [h2.block k (Nat.lt_of_lt_of_le hk h.size) (fun e => by
   rcases hb k e.symm with h' | h'
   ·exact hne h'.symm
   ·omega), h.block k hk hne]⟩
theorem qcr {w wr w' : World} {row : Option Nat} (h : w.grownBy wr row) (hb : Below wr.heap.size wr w') : w.grownBy w' row := qd0 h (qa6.mpr hb) (fun b e => by cases e)
/-- A matrix of up to 64 rows and 65 columns. -/
structure Wt (r c n : Nat) : Prop where
 r64 : r ≤ 64
 c65 : c ≤ 65
 len : r * c = n
theorem Wt.le {r c n : Nat} (h : Wt r c n) : n ≤ 4160 := by rw [← h.len]; exact Nat.mul_le_mul h.r64 h.c65
theorem Wt.at {r c n i j : Nat} (h : Wt r c n) (hi : i < r) (hj : j < c) : i * c + j < n := by
 rw [← h.len]
 have : (i + 1) * c ≤ r * c := Nat.mul_le_mul_right c hi
 rw [Nat.add_mul, Nat.one_mul] at this
 omega
theorem qk8 {F : Nat → Nat} {r c n : Nat} (hF : ∀ p, p < n → F p < 256) (R : Wt r c n) : El2 (m2 F r c) := fun i j => by
 unfold m2
 split
 ·rename_i h; exact hF _ (R.at h.1 h.2)
 ·decide
theorem qcs (w : World) (r : Int) (c i j n k v : Nat) (a : Option Addr) (f : Nat → Nat) (h : Sl w a n f) (hi : i * c + j < n) (hn : n ≤ 4160) (HV : Hid (f (i * c + j) = v)) :
  Calls Tryz.prog 59 #[mv r c a n k, .int .i64 (i : Int), .int .i64 (j : Int)] w fun e w' => e = .returned (.int .u8 (v : Int)) ∧ Below w.heap.size w w' := by
 obtain ⟨b, o, ea, hcl⟩ := h.2 _ hi
 rw [HV.out] at hcl
 have hlt := qak hcl
 obtain ⟨p, HP⟩ : ∃ p, Hid (i * c + j = p) := ⟨_, rfl⟩
 rw [HP.out] at hcl hi
 have hb : i * c ≤ p := by rw [← HP.out]; omega
 have e1 : ((i : Int) * (c : Int)) = ((i * c : Nat) : Int) := by simp
 have w1 : IntKind.i64.wrap ((i : Int) * (c : Int)) = (i : Int) * (c : Int) := by rw [e1, IntKind.wrap_i64]; omega
 have w2 : IntKind.i64.wrap ((i : Int) * (c : Int) + (j : Int)) = (p : Int) := by rw [e1, IntKind.wrap_i64]; have := HP.out; omega
 have hcl2 : (w.alloc (.cells #[.int .i64 r, .int .i64 (c : Int), .slice (some ⟨b, o, none⟩) n k] 24)).cell? ⟨b, o + p, none⟩ = some (.int .u8 (v : Int)) := by rw [(qa0 w _).cell (p := ⟨b, o + p, none⟩) hlt]; exact hcl
 have hcl2 : (w.alloc (.cells #[.int .i64 r, .int .i64 (c : Int), .slice (some ⟨b, o, none⟩) n k] 24)).cell? ⟨b, o + p, none⟩ = some (.int .u8 (v : Int)) := by rw [(qa0 w _).cell (p := ⟨b, o + p, none⟩) hlt]; exact hcl
 clear h hcl e1
 subst ea
 go_enter Tryz.func59, Tryz.ntmps59
 go_wp2
 go_ret
 exact ⟨rfl, qa0 _ _⟩
/-- Rows top and i, as far as column L: exchanged, the one that comes up divided. -/
def swf (F : Nat → Nat) (d c top i L p : Nat) : Nat := if p / c = top ∧ p % c < L then fm d (F (i * c + p % c)) else if p / c = i ∧ p % c < L then F (top * c + p % c) else F p
theorem swf_zero (F : Nat → Nat) (d c top i p : Nat) : swf F d c top i 0 p = F p := by unfold swf; rw [if_neg (by omega), if_neg (by omega)]
theorem qk9 (F : Nat → Nat) {d c top i L t : Nat} (hL : L < c) : swf F d c top i L (t * c + L) = F (t * c + L) := by
 unfold swf
 rw [dm2 hL, if_neg (by omega), if_neg (by omega)]
/-- One column more: first the row below, then the upper one. -/
theorem swf_step (F : Nat → Nat) {d c top i L : Nat} (hL : L < c) (p : Nat) : (if p = top * c + L then fm d (F (i * c + L)) else if p = i * c + L then F (top * c + L) else swf F d c top i L p) = swf F d c top i (L + 1) p := by
 have hc : 0 < c := by omega
 have key : ∀ t, p = t * c + L ↔ p / c = t ∧ p % c = L := fun t => by
  constructor
  ·rintro rfl; exact ⟨dm1 hL, dm2 hL⟩
  ·rintro ⟨rfl, rfl⟩
   have := Nat.div_add_mod p c
   rw [Nat.mul_comm] at this
   exact this.symm
 unfold swf
 by_cases h1 : p = top * c + L
 ·rw [if_pos h1]
  obtain ⟨e1, e2⟩ := (key top).1 h1
  rw [if_pos ⟨e1, by omega⟩, e2]
 ·rw [if_neg h1]
  by_cases h2 : p = i * c + L
  ·rw [if_pos h2]
   obtain ⟨e1, e2⟩ := (key i).1 h2
   rw [if_neg (fun h => h1 ((key top).2 ⟨h.1, e2⟩)), if_pos ⟨e1, by omega⟩, e2]
  ·rw [if_neg h2]
   have n1 : ¬ (p / c = top ∧ p % c = L) := fun h => h1 ((key top).2 h)
   have n2 : ¬ (p / c = i ∧ p % c = L) := fun h => h2 ((key i).2 h)
   have a1 : (p / c = top ∧ p % c < L) ↔ (p / c = top ∧ p % c < L + 1) := by omega
   have a2 : (p / c = i ∧ p % c < L) ↔ (p / c = i ∧ p % c < L + 1) := by omega
   simp only [a1, a2]
theorem m2_swf (F : Nat → Nat) {r c top i d : Nat} (ht : top < r) (hi : i < r) : ∀ t l, t < r → m2 (swf F d c top i c) r c t l = rw1 (swp (m2 F r c) top i) top (fun l => fm d (swp (m2 F r c) top i top l)) t l := by
 intro t l htr
 unfold rw1 swp
 by_cases hl : l < c
 ·rw [qaw _ htr hl]
  unfold swf
  rw [dm1 hl, dm2 hl]
  by_cases e : t = top
  ·rw [if_pos ⟨e, hl⟩, if_pos e]
   show _ = fm d (if top = top then m2 F r c i l else _)
   rw [if_pos rfl, qaw _ hi hl]
  ·rw [if_neg (fun h => e h.1), if_neg e, if_neg e]
   by_cases e2 : t = i
   ·rw [if_pos ⟨e2, hl⟩, if_pos e2, qaw _ ht hl]
   ·rw [if_neg (fun h => e2 h.1), if_neg e2, qaw _ htr hl]
 ·rw [qar _ (by omega)]
  by_cases e : t = top
  ·rw [if_pos e]
   show 0 = fm d (if top = top then m2 F r c i l else _)
   rw [if_pos rfl, qar _ (by omega), qaa]
  ·rw [if_neg e, if_neg e, qar _ (by omega), qar _ (by omega)]
   split <;> rfl
/-- A round of wide with a pivot in row i. -/
theorem wide_round {F h : Nat → Nat} {r c n top i j d : Nat} {p : Nat → Nat} {M : Nat → Nat → Nat} (hF : ∀ p, p < n → F p < 256) (R : Wt r c n) (E : Elm (m2 F r c) r top j p) (S : SpEq (m2 F r c) r M r) (hi : top ≤ i) (hir : i < r) (hj : j < c) (hne : F (i * c + j) ≠ 0)
  (hd : d = finv (F (i * c + j))) (hh : ∀ l, l < c → h l = swf F d c top i c (top * c + l)) :
  Elm (m2 (elf (swf F d c top i c) h c top j (r * c)) r c) r (top + 1) (j + 1) (fun t => if t = top then j else p t) ∧ SpEq (m2 (elf (swf F d c top i c) h c top j (r * c)) r c) r M r := by
 have htr : top < r := by omega
 have hd2 : d < 256 := by rw [hd]; exact qae _
 have hE0 := qk8 hF R
 obtain ⟨N1, eN1⟩ : ∃ N, N = swp (m2 F r c) top i := ⟨_, rfl⟩
 have hN1 : El2 N1 := by rw [eN1]; exact qh5 hE0 _ _
 have E1 : Elm N1 r top j p := by rw [eN1]; exact E.swp (by omega) hi htr hir
 have S1 : SpEq N1 r M r := by rw [eN1]; exact (qf6 hE0 htr hir).trans S
 have v1 : N1 top j = F (i * c + j) := by
  rw [eN1]; unfold swp; rw [if_pos rfl, qaw _ hir hj]
 obtain ⟨N2, eN2⟩ : ∃ N, N = rw1 N1 top (fun l => fm d (N1 top l)) := ⟨_, rfl⟩
 have hN2 : El2 N2 := by rw [eN2]; exact qh4 hN1 (fun l => qam _ _ hd2) _
 have hd0 : d ≠ 0 := fun e => by
  have := qay _ (hF _ (R.at hir hj)) hne
  rw [← hd, e, qaa] at this
  cases this
 have E2 : Elm N2 r top j p := by rw [eN2]; exact E1.scale (by omega) htr
 have S2 : SpEq N2 r M r := by rw [eN2]; exact (qcf hN1 htr hd2 hd0).trans S1
 have v2 : N2 top j = 1 := by
  rw [eN2, qer, v1, hd, qan _ _ (qae _) (hF _ (R.at hir hj)), qay _ (hF _ (R.at hir hj)) hne]
 have E3 := E2.step hN2 htr v2
 have S3 := (qh6 hN2 htr j).trans S2
 have key : ∀ t l, t < r → m2 (elf (swf F d c top i c) h c top j (r * c)) r c t l = clr N2 top j t l := by
  intro t l ht
  rw [m2_elf _ h hh htr hj t l ht]
  refine qfv htr (fun t l ht => ?_) t l ht
  rw [m2_swf F htr hir t l ht, eN2, eN1]
 exact ⟨E3.rows key, S3.rows key⟩
theorem swf_lt {F : Nat → Nat} {d r c n top i L : Nat} (hF : ∀ t, t < n → F t < 256) (hd : d < 256) (R : Wt r c n) (ht : top < r) (hc : 0 < c) : ∀ t, t < n → swf F d c top i L t < 256 := by
 intro t htn
 unfold swf
 split
 ·exact qam _ _ hd
 ·split
  ·exact hF _ (R.at ht (Nat.mod_lt t hc))
  ·exact hF t htn
theorem qgh {G h : Nat → Nat} {r c n top col : Nat} (hG : ∀ t, t < n → G t < 256) (R : Wt r c n) (hcol : col < c) (q : Nat) : ∀ t, t < n → elf G h c top col q t < 256 := by
 intro t ht
 unfold elf
 split
 ·have hl := R.len
  have : t / c < r := (Nat.div_lt_iff_lt_mul (by omega)).2 (by rw [hl]; exact ht)
  exact qb1 _ _ (hG t ht) (qam _ _ (hG _ (R.at this hcol)))
 ·exact hG t ht
/-- What wide's loops keep: the matrix's variable, the answer's, the pivots; of what was there before only the list itself has changed. -/
structure WInv (w wr : World) (B r c n top : Nat) (p : Nat → Nat) (s : Option Addr) (d : Nat) (v : Value) (G : Nat → Nat) : Prop where
 vm : Vr wr w.heap.size (.int .i64 (r : Int)) (.int .i64 (c : Int)) (.slice s n d)
 vo : Vr wr (w.heap.size + 1) (.int .i64 0) (.int .i64 0) (.slice none 0 0)
 data : Ob wr B (.slice s n d) n G
 piv : Oi wr w.heap.size v top p
 grown : w.grownBy wr (Value.slice s n d).ownBlock
theorem WInv.later {w wr w' : World} {B r c n top d : Nat} {p : Nat → Nat} {s : Option Addr} {v : Value} {G : Nat → Nat} (h : WInv w wr B r c n top p s d v G) (hb : Below wr.heap.size wr w') : WInv w w' B r c n top p s d v G :=
 ⟨h.vm.later hb, h.vo.later hb, h.data.later hb, h.piv.later hb, qcr h.grown hb⟩
theorem WInv.congr {w wr : World} {B r c n top d : Nat} {p : Nat → Nat} {s : Option Addr} {v : Value} {G G' : Nat → Nat} (h : WInv w wr B r c n top p s d v G) (e : ∀ q, q < n → G q = G' q) : WInv w wr B r c n top p s d v G' :=
 ⟨h.vm, h.vo, h.data.congr e, h.piv, h.grown⟩
theorem WInv.set {w wr : World} {B r c n top d g q x : Nat} {p : Nat → Nat} {v : Value} {G : Nat → Nat} (I : WInv w wr B r c n top p (some ⟨g, 0, none⟩) d v G) : WInv w (wr.setCell ⟨g, q, none⟩ (.int .u8 (x : Int))) B r c n top p (some ⟨g, 0, none⟩) d v (fun i => if i = q then x else G i) := by
 have hg := qa3 wr g q (.int .u8 (x : Int))
 have hb : (Value.slice (some ⟨g, 0, none⟩) n d).ownBlock = some g := rfl
 exact ⟨I.vm.kept hg (fun e => qag I.data I.vm (by rw [hb, e])), I.vo.kept hg (fun e => qag I.data I.vo (by rw [hb, e])), I.data.set q x, I.piv.kept hg (.inr (qcz I.data I.piv hb)), qd0 I.grown hg (fun b e => .inl (by rw [hb, e]))⟩
theorem WInv.more {w wr w3 : World} {B r c n top d j : Nat} {p : Nat → Nat} {s : Option Addr} {v v' : Value} {G : Nat → Nat} (o : Obj) (I : WInv w wr B r c n top p s d v G) (hown : w3.ownsRow w.heap.size 3 1 v' (top + 1) ((irow top p).toList ++ [.int .i64 (j : Int)])) (hg : (wr.alloc o).grownBy w3 v.ownBlock) :
  WInv w w3 B r c n (top + 1) (fun t => if t = top then j else p t) s d v' G := by
 have A := I.later (qa0 wr o)
 rw [qc8] at hown
 refine ⟨A.vm.grown hg (qbk A.piv A.vm), A.vo.grown hg (qbk A.piv A.vo), A.data.kept hg ?_, hown, qd0 A.grown hg (fun b e => .inr (A.piv.base e).1)⟩
 cases hs : (Value.slice s n d).ownBlock with
 | none => exact .inl rfl
 | some g => exact .inr (fun e => qcz A.data A.piv hs e.symm)
end Go.Proofs.YtnfbbddoaeofgaaGreat
