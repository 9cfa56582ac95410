/-
  Lists as matrices: a round of the elimination, as the lists have it.
  Lists of ints of the call's own; a copy into bytes of the call's own.
-/
import Derived.Test.YtblagbghpfopcaaGreatQwwin00
import Derived.Test.YtblagbghpfopcaaGreatQwwin07
import Derived.Test.YtblagbghpfopcaaGreatQwwin12
import Derived.Test.YtblagbghpfopcaaGreatQwwin11
import Derived.Test.YtblagbghpfopcaaGreatQwwin13
import Derived.Test.YtblagbghpfopcaaGreatQwwin08
set_option maxRecDepth 100000
set_option maxHeartbeats 16000000
namespace Go.Proofs.YtblagbghpfopcaaGreat
theorem dm1 {s b t : Nat} (h : t < b) : (s * b + t) / b = s := by rw [Nat.mul_comm, Nat.mul_add_div (by omega), Nat.div_eq_of_lt h, Nat.add_zero]
theorem dm2 {s b t : Nat} (h : t < b) : (s * b + t) % b = t := by rw [Nat.mul_comm, Nat.mul_add_mod, Nat.mod_eq_of_lt h]
/-- The matrix of r rows and c columns that a list holds; 0 besides. -/
def m2 (F : Nat → Nat) (r c i j : Nat) : Nat := if i < r ∧ j < c then F (i * c + j) else 0
theorem qb1 (F : Nat → Nat) {r c i j : Nat} (hi : i < r) (hj : j < c) : m2 F r c i j = F (i * c + j) := if_pos ⟨hi, hj⟩
theorem qaf (F : Nat → Nat) {r c i j : Nat} (hj : c ≤ j) : m2 F r c i j = 0 := if_neg (by omega)
theorem qlb (F : Nat → Nat) {r c i j : Nat} (hi : r ≤ i) : m2 F r c i j = 0 := if_neg (by omega)
theorem qax {F : Nat → Nat} {r c n : Nat} (hF : ∀ p, p < n → F p < 256) (R : Rt r c n) : El2 (m2 F r c) := fun i j => by
 unfold m2
 split
 ·rename_i h; exact hF _ (R.at h.1 h.2)
 ·decide
/-- Two places changed. -/
def zsw (a b k : Nat) : Nat := if k = a then b else if k = b then a else k
theorem qco {a b r k : Nat} (ha : a < r) (hb : b < r) (hk : k < r) : zsw a b k < r := by unfold zsw; split; exact hb; split; exact ha; exact hk
theorem m2_pick (F : Nat → Nat) {r c a b : Nat} (ha : a < r) (hb : b < r) : ∀ t l, t < r → m2 (pkf F (zsw a b) c) r c t l = swp (m2 F r c) a b t l := by
 intro t l ht
 by_cases hl : l < c
 ·rw [qb1 _ ht hl, qf9 _ _ _ _ _ hl, ← qb1 F (qco ha hb ht) hl]
  unfold zsw swp
  split
  ·rfl
  ·split <;> rfl
 ·rw [qaf _ (by omega)]
  unfold swp
  rw [qaf _ (by omega), qaf _ (by omega), qaf _ (by omega)]
  split
  ·rfl
  ·split <;> rfl
theorem m2_cpf (F h : Nat → Nat) {r c top d : Nat} (hh : ∀ l, l < c → h l = fm d (F (top * c + l))) (ht : top < r) : ∀ t l, t < r → m2 (cpf F h (top * c) c) r c t l = rw1 (m2 F r c) top (fun l => fm d (m2 F r c top l)) t l := by
 intro t l htr
 by_cases hl : l < c
 ·rw [qb1 _ htr hl]
  unfold cpf rw1
  by_cases e : t = top
  ·subst e
   rw [if_pos ⟨by omega, by omega⟩, if_pos rfl, Nat.add_sub_cancel_left, hh l hl]
   show _ = fm d (m2 F r c t l)
   rw [qb1 _ ht hl]
  ·rw [if_neg e, qb1 _ htr hl]
   have : ¬ (top * c ≤ t * c + l ∧ t * c + l < top * c + c) := by
    rintro ⟨h1, h2⟩
    rcases Nat.lt_or_gt_of_ne e with hlt | hgt
    ·have : (t + 1) * c ≤ top * c := Nat.mul_le_mul_right c hlt
     rw [Nat.add_mul, Nat.one_mul] at this
     omega
    ·have : (top + 1) * c ≤ t * c := Nat.mul_le_mul_right c hgt
     rw [Nat.add_mul, Nat.one_mul] at this
     omega
   rw [if_neg this]
 ·rw [qaf _ (by omega)]
  unfold rw1
  split
  ·show 0 = fm d (m2 F r c top l)
   rw [qaf _ (by omega), qa7]
  ·rw [qaf _ (by omega)]
/-- Of all rows but row top, as far as place q, so much of R is taken off that column col is 0. -/
def elf (F R : Nat → Nat) (c top col q p : Nat) : Nat := if p < q ∧ p / c ≠ top then F p ^^^ fm (F (p / c * c + col)) (R (p % c)) else F p
theorem elf_zero (F R : Nat → Nat) (c top col p : Nat) : elf F R c top col 0 p = F p := if_neg (by omega)
theorem qib (F R : Nat → Nat) (c top col q p : Nat) (h : q ≤ p) : elf F R c top col q p = F p := if_neg (by omega)
theorem elf_step (F R : Nat → Nat) {c top col k l : Nat} (hl : l < c) (hk : k ≠ top) (p : Nat) : (if p = k * c + l then F (k * c + l) ^^^ fm (F (k * c + col)) (R l) else elf F R c top col (k * c + l) p) = elf F R c top col (k * c + l + 1) p := by
 unfold elf
 by_cases e : p = k * c + l
 ·subst e
  rw [if_pos rfl, if_pos ⟨by omega, by rw [dm1 hl]; exact hk⟩, dm1 hl, dm2 hl]
 ·rw [if_neg e]
  by_cases h : p < k * c + l ∧ p / c ≠ top
  ·rw [if_pos h, if_pos ⟨by omega, h.2⟩]
  ·rw [if_neg h, if_neg (fun h2 => h ⟨by omega, h2.2⟩)]
theorem elf_skip (F R : Nat → Nat) (c top col p : Nat) : elf F R c top col (top * c) p = elf F R c top col ((top + 1) * c) p := by
 unfold elf
 by_cases e : p / c = top
 ·rw [if_neg (fun h => h.2 e), if_neg (fun h => h.2 e)]
 ·by_cases h : p < top * c
  ·rw [if_pos ⟨h, e⟩, if_pos ⟨Nat.lt_of_lt_of_le h (Nat.mul_le_mul_right c (by omega)), e⟩]
  ·rw [if_neg (fun h2 => h h2.1), if_neg (fun h2 => e ?_)]
   have hc : 0 < c := by
    rcases Nat.eq_zero_or_pos c with rfl | hc
    ·omega
    ·exact hc
   have h1 : top ≤ p / c := (Nat.le_div_iff_mul_le hc).2 (by omega)
   have h3 : p / c < top + 1 := (Nat.div_lt_iff_lt_mul hc).2 h2.1
   omega
theorem m2_elf (F R : Nat → Nat) {r c top col : Nat} (hR : ∀ l, l < c → R l = F (top * c + l)) (ht : top < r) (hcol : col < c) : ∀ i l, i < r → m2 (elf F R c top col (r * c)) r c i l = clr (m2 F r c) top col i l := by
 intro i l hi
 by_cases hl : l < c
 ·have hlt : i * c + l < r * c := by
   have : (i + 1) * c ≤ r * c := Nat.mul_le_mul_right c hi
   rw [Nat.add_mul, Nat.one_mul] at this
   omega
  rw [qb1 _ hi hl]
  unfold elf clr
  rw [dm1 hl, dm2 hl]
  by_cases e : i = top
  ·rw [if_neg (fun h => h.2 e), if_pos e, e, qb1 _ ht hl]
  ·rw [if_pos ⟨hlt, e⟩, if_neg e, qb1 _ hi hl, qb1 _ hi hcol, qb1 _ ht hl, hR l hl]
 ·rw [qaf _ (by omega)]
  unfold clr
  rw [qaf _ (by omega), qaf _ (by omega)]
  split
  ·rfl
  ·rw [qa7]; rfl
theorem qlc {M N : Nat → Nat → Nat} {r top col : Nat} (ht : top < r) (e : ∀ i l, i < r → M i l = N i l) : ∀ i l, i < r → clr M top col i l = clr N top col i l := by
 intro i l hi
 unfold clr
 rw [e top l ht, e i l hi, e i col hi]
theorem qld {M N : Nat → Nat → Nat} {r top d : Nat} (ht : top < r) (e : ∀ i l, i < r → M i l = N i l) : ∀ i l, i < r → rw1 M top (fun l => fm d (M top l)) i l = rw1 N top (fun l => fm d (N top l)) i l := by
 intro i l hi
 unfold rw1
 split
 ·show fm d (M top l) = fm d (N top l)
  rw [e top l ht]
 ·exact e i l hi
/-- A round with a pivot in row i: rows exchanged, the row divided, and taken off all others. -/
theorem qle {F h : Nat → Nat} {r c n top i j d : Nat} {p : Nat → Nat} {M : Nat → Nat → Nat} (hF : ∀ p, p < n → F p < 256) (R : Rt r c n) (E : Elm (m2 F r c) r top j p) (S : SpEq (m2 F r c) r M r) (hi : top ≤ i) (hir : i < r) (hj : j < c) (hne : F (i * c + j) ≠ 0)
  (hd : d = finv (F (i * c + j))) (hh : ∀ l, l < c → h l = fm d (pkf F (zsw top i) c (top * c + l))) :
  Elm (m2 (elf (cpf (pkf F (zsw top i) c) h (top * c) c) h c top j (r * c)) r c) r (top + 1) (j + 1) (fun t => if t = top then j else p t) ∧ SpEq (m2 (elf (cpf (pkf F (zsw top i) c) h (top * c) c) h c top j (r * c)) r c) r M r := by
 have htr : top < r := by omega
 have hd2 : d < 256 := by rw [hd]; exact qae _
 have hE0 := qax hF R
 obtain ⟨N1, eN1⟩ : ∃ N, N = swp (m2 F r c) top i := ⟨_, rfl⟩
 have hN1 : El2 N1 := by rw [eN1]; exact qko hE0 _ _
 have E1 : Elm N1 r top j p := by rw [eN1]; exact E.swp (by omega) hi htr hir
 have S1 : SpEq N1 r M r := by rw [eN1]; exact (qhz hE0 htr hir).trans S
 have v1 : N1 top j = F (i * c + j) := by
  rw [eN1]; unfold swp; rw [if_pos rfl, qb1 _ hir hj]
 obtain ⟨N2, eN2⟩ : ∃ N, N = rw1 N1 top (fun l => fm d (N1 top l)) := ⟨_, rfl⟩
 have hN2 : El2 N2 := by rw [eN2]; exact qkn hN1 (fun l => qat _ _ hd2) _
 have hd0 : d ≠ 0 := fun e => by
  have := qau _ (hF _ (R.at hir hj)) hne
  rw [← hd, e, qa7] at this
  cases this
 have E2 : Elm N2 r top j p := by rw [eN2]; exact E1.scale (by omega) htr
 have S2 : SpEq N2 r M r := by rw [eN2]; exact (qdf hN1 htr hd2 hd0).trans S1
 have v2 : N2 top j = 1 := by
  rw [eN2, qgl, v1, hd, qac _ _ (qae _) (hF _ (R.at hir hj)), qau _ (hF _ (R.at hir hj)) hne]
 have E3 := E2.step hN2 htr v2
 have S3 := (spEq_clr hN2 htr j).trans S2
 have key : ∀ t l, t < r → m2 (elf (cpf (pkf F (zsw top i) c) h (top * c) c) h c top j (r * c)) r c t l = clr N2 top j t l := by
  intro t l ht
  rw [m2_elf _ h (fun l hl => ?_) htr hj t l ht]
  ·refine qlc htr (fun t l ht => ?_) t l ht
   rw [m2_cpf _ h hh htr t l ht, eN2]
   exact qld htr (fun t l ht => by rw [m2_pick F htr hir t l ht, eN1]) t l ht
  ·unfold cpf
   rw [if_pos ⟨by omega, by omega⟩, Nat.add_sub_cancel_left]
 exact ⟨E3.rows key, S3.rows key⟩
open Go.RowKit
theorem infoI : (Tryz.prog.info? 3).map (fun i => (i.zero, i.size, i.bytes)) = some (some (.int .i64 0), 1, 8) := by kernel_rfl
/-- The cells of a list of n numbers. -/
def irow (n : Nat) (f : Nat → Nat) : Array Value := (Array.range n).map fun i => .int .i64 (f i : Nat)
theorem qeh (n : Nat) (f : Nat → Nat) : (irow n f).size = n := by simp [irow]
theorem qd5 (n : Nat) (f : Nat → Nat) (i : Nat) (h : i < n) : (irow n f)[i]? = some (.int .i64 (f i : Nat)) := by simp [irow, h]
theorem irow_set (n : Nat) (f : Nat → Nat) (i v : Nat) : (irow n f).setIfInBounds i (.int .i64 (v : Int)) = irow n (fun j => if j = i then v else f j) := by
 apply Array.ext
 ·simp [irow]
 ·intro j h1 h2
  by_cases e : i = j
  ·subst e; simp [irow]
  ·rw [Array.getElem_setIfInBounds_ne (by simpa using h1) e]; simp [irow, Ne.symm e]
theorem qfc (n : Nat) (f f' : Nat → Nat) (h : ∀ i, i < n → f i = f' i) : irow n f = irow n f' := by
 apply Array.ext
 ·simp [irow]
 ·intro j h1 h2
  simp [qeh] at h1
  simp [irow, h j h1]
theorem qd6 (n : Nat) (f : Nat → Nat) (v : Nat) : (irow n f).toList ++ [.int .i64 (v : Int)] = (irow (n + 1) (fun i => if i = n then v else f i)).toList := by
 apply List.ext_getElem?
 intro i
 have hl : (irow n f).toList.length = n := by simp [qeh]
 by_cases h1 : i < n
 ·rw [List.getElem?_append_left (by omega), Array.getElem?_toList, Array.getElem?_toList, qd5 n f i h1, qd5 (n + 1) _ i (by omega), if_neg (by omega)]
 ·rw [List.getElem?_append_right (by omega), hl]
  by_cases h2 : i = n
  ·subst h2
   have e2 : (irow (i + 1) (fun t => if t = i then v else f t)).toList[i]? = some (.int .i64 (v : Int)) := by rw [Array.getElem?_toList, qd5 (i + 1) _ i (by omega), if_pos rfl]
   rw [Nat.sub_self, e2]; rfl
  ·have l2 : (irow (n + 1) (fun i => if i = n then v else f i)).toList.length = n + 1 := by simp [qeh]
   rw [List.getElem?_eq_none (by simp; omega), List.getElem?_eq_none (by omega)]
/-- A block of n numbers. -/
def IRowAt (w : World) (b n : Nat) (f : Nat → Nat) : Prop := w.heap[b]? = some (.cells (irow n f) 3 (0, 0))
theorem IRowAt.cell {w : World} {b n : Nat} {f : Nat → Nat} (h : IRowAt w b n f) (i : Nat) (hi : i < n) : w.cell? ⟨b, i, none⟩ = some (.int .i64 (f i : Nat)) := by
 rw [cell_of_row w b i _ _ _ h, qd5 n f i hi]
theorem IRowAt.free {w : World} {b n : Nat} {f : Nat → Nat} (h : IRowAt w b n f) (i : Nat) : w.frozen? ⟨b, i, none⟩ = false := by
 unfold IRowAt at h
 simp [World.frozen?, h]
theorem IRowAt.lt {w : World} {b n : Nat} {f : Nat → Nat} (h : IRowAt w b n f) : b < w.heap.size := lt_of_block h
theorem IRowAt.set {w : World} {b n : Nat} {f : Nat → Nat} (h : IRowAt w b n f) (i v : Nat) : IRowAt (w.setCell ⟨b, i, none⟩ (.int .i64 (v : Int))) b n (fun j => if j = i then v else f j) := by
 unfold IRowAt at *
 rw [setCell_eq_setRow w b i _ _ (0, 0) _ h, setRow_heap w b _ _ _ (0, 0) h, irow_set]
theorem IRowAt.congr {w : World} {b n : Nat} {f f' : Nat → Nat} (h : IRowAt w b n f) (e : ∀ i, i < n → f i = f' i) : IRowAt w b n f' := by
 unfold IRowAt at *
 rw [h, qfc n f f' e]
theorem IRowAt.later {w w' : World} {b n : Nat} {f : Nat → Nat} (h : IRowAt w b n f) (hb : Below w.heap.size w w') : IRowAt w' b n f := by unfold IRowAt; rw [hb.block b h.lt]; exact h
theorem IRowAt.il {w : World} {b n : Nat} {f : Nat → Nat} (h : IRowAt w b n f) : Il w (some ⟨b, 0, none⟩) n (fun i => (f i : Int)) := fun i hi => ⟨b, 0, rfl, by rw [Nat.zero_add]; exact h.cell i hi⟩
theorem qlf (n : Nat) : madeCells (Value.int .i64 0).cells (n * 1) = irow n (fun _ => 0) := by
 rw [Nat.mul_one]
 apply Array.ext
 ·simp [madeCells, irow, Value.cells]
 ·intro j h1 h2
  simp [madeCells, irow, Value.cells, Nat.mod_one]
theorem made_iat {w1 : World} {base g n : Nat} (h : w1.ownsRow base 3 1 (.slice (some ⟨g, 0, none⟩) n n) n (madeCells (Value.int .i64 0).cells (n * 1)).toList) : IRowAt w1 g n (fun _ => 0) := by
 rcases h.2 with ⟨e, _⟩ | ⟨g', cap, cur, e, _, hg, _, _, hs, ht⟩
 ·cases e
 ·cases e
  unfold IRowAt
  rw [hg]
  have : cur.toList = (irow n (fun _ => 0)).toList := by
   rw [← qlf n, ← ht, List.take_of_length_le (by simp [hs])]
  rw [Array.toList_inj.1 this]
/-- Numbers of the call's own. -/
def Oi (w : World) (B : Nat) (v : Value) (n : Nat) (f : Nat → Nat) : Prop := w.ownsRow B 3 1 v n (irow n f).toList
theorem Oi.nil (w : World) (B : Nat) (f : Nat → Nat) : Oi w B (.slice none 0 0) 0 f := by
 unfold Oi
 have : (irow 0 f).toList = [] := by simp [irow]
 rw [this]
 exact World.ownsRow_nil _ _ _ _
theorem Oi.kept {w w' : World} {B n : Nat} {v : Value} {f : Nat → Nat} {row : Option Nat} (h : Oi w B v n f) (hg : w.grownBy w' row) (hne : v.ownBlock = none ∨ v.ownBlock ≠ row) : Oi w' B v n f := World.ownsRow.kept h hg hne
theorem Oi.later {w w' : World} {B n : Nat} {v : Value} {f : Nat → Nat} (h : Oi w B v n f) (hb : Below w.heap.size w w') : Oi w' B v n f := h.kept (qa8.mpr hb) (by cases hv : v.ownBlock <;> simp)
theorem Oi.form {w : World} {B n : Nat} {v : Value} {f : Nat → Nat} (h : Oi w B v n f) : ∃ s d, v = .slice s n d ∧ (s = none → n = 0 ∧ d = 0) := by
 rcases h.2 with ⟨e, h0⟩ | ⟨g, cap, cur, e, _⟩
 ·exact ⟨none, 0, by rw [e, h0], fun _ => ⟨h0, rfl⟩⟩
 ·exact ⟨_, _, e, fun x => by cases x⟩
theorem Oi.base {w : World} {B n : Nat} {v : Value} {f : Nat → Nat} (h : Oi w B v n f) {g : Nat} (hg : v.ownBlock = some g) : B ≤ g ∧ g < w.heap.size := by
 refine ⟨qag h g hg, ?_⟩
 rcases h.2 with ⟨e, _⟩ | ⟨g', cap, cur, e, _, hb, _⟩
 ·rw [e] at hg; simp [Value.ownBlock] at hg
 ·rw [e] at hg; simp [Value.ownBlock] at hg; subst hg; exact lt_of_block hb
theorem Oi.il {w : World} {B n d : Nat} {s : Option Addr} {f : Nat → Nat} (h : Oi w B (.slice s n d) n f) : Il w s n (fun i => (f i : Int)) := fun i hi => by
 rcases h.2 with ⟨_, h0⟩ | ⟨g, cap, cur, e, _, hg, hc, _, hs, ht⟩
 ·omega
 ·cases e
  refine ⟨g, 0, rfl, ?_⟩
  rw [Nat.zero_add, cell_of_row w g i _ _ _ hg]
  have e1 : (cur.toList.take (n * 1))[i]? = some (.int .i64 (f i : Nat)) := by rw [ht, Array.getElem?_toList, qd5 n f i hi]
  rw [List.getElem?_take, if_pos (by omega), Array.getElem?_toList] at e1
  exact e1
theorem Oi.congr {w : World} {B n : Nat} {v : Value} {f f' : Nat → Nat} (h : Oi w B v n f) (e : ∀ i, i < n → f i = f' i) : Oi w B v n f' := by
 unfold Oi at *
 rw [← qfc n f f' e]; exact h
theorem Oi.mono {w : World} {B B' n : Nat} {v : Value} {f : Nat → Nat} (h : Oi w B v n f) (hB : B' ≤ B) : Oi w B' v n f := by
 refine ⟨h.1, ?_⟩
 rcases h.2 with h' | ⟨g, cap, cur, e, hb, r⟩
 ·exact .inl h'
 ·exact .inr ⟨g, cap, cur, e, by omega, r⟩
/-- Bytes of the call's own. -/
def Ob (w : World) (B : Nat) (v : Value) (n : Nat) (f : Nat → Nat) : Prop := w.ownsRow B 5 1 v n (row n f).toList
theorem Ob.kept {w w' : World} {B n : Nat} {v : Value} {f : Nat → Nat} {row : Option Nat} (h : Ob w B v n f) (hg : w.grownBy w' row) (hne : v.ownBlock = none ∨ v.ownBlock ≠ row) : Ob w' B v n f := World.ownsRow.kept h hg hne
theorem Ob.later {w w' : World} {B n : Nat} {v : Value} {f : Nat → Nat} (h : Ob w B v n f) (hb : Below w.heap.size w w') : Ob w' B v n f := h.kept (qa8.mpr hb) (by cases hv : v.ownBlock <;> simp)
theorem Ob.base {w : World} {B n : Nat} {v : Value} {f : Nat → Nat} (h : Ob w B v n f) {g : Nat} (hg : v.ownBlock = some g) : B ≤ g ∧ g < w.heap.size := by
 refine ⟨qag h g hg, ?_⟩
 rcases h.2 with ⟨e, _⟩ | ⟨g', cap, cur, e, _, hb, _⟩
 ·rw [e] at hg; simp [Value.ownBlock] at hg
 ·rw [e] at hg; simp [Value.ownBlock] at hg; subst hg; exact lt_of_block hb
theorem Ob.sl {w : World} {B n d : Nat} {s : Option Addr} {f : Nat → Nat} (h : Ob w B (.slice s n d) n f) (hf : ∀ i, i < n → f i < 256) : Sl w s n f := qdh h hf
theorem Ob.congr {w : World} {B n : Nat} {v : Value} {f f' : Nat → Nat} (h : Ob w B v n f) (e : ∀ i, i < n → f i = f' i) : Ob w B v n f' := own_cong h e
theorem Ob.mono {w : World} {B B' n : Nat} {v : Value} {f : Nat → Nat} (h : Ob w B v n f) (hB : B' ≤ B) : Ob w B' v n f := qd2 h hB
theorem Ob.none {w : World} {B n d : Nat} {s : Option Addr} {f : Nat → Nat} (h : Ob w B (.slice s n d) n f) : s = Option.none → n = 0 ∧ d = 0 := qcl h
theorem Ob.some {w : World} {B n d : Nat} {s : Option Addr} {f : Nat → Nat} (h : Ob w B (.slice s n d) n f) (hn : 0 < n) : ∃ g, s = Option.some ⟨g, 0, Option.none⟩ := qfv h hn
theorem Ob.cell {w : World} {B n d g i : Nat} {f : Nat → Nat} (h : Ob w B (.slice (Option.some ⟨g, 0, Option.none⟩) n d) n f) (hi : i < n) : w.cell? ⟨g, i, Option.none⟩ = Option.some (.int .u8 (f i : Nat)) := own_byte h hi
theorem Ob.free {w : World} {B n d g : Nat} {f : Nat → Nat} (h : Ob w B (.slice (Option.some ⟨g, 0, Option.none⟩) n d) n f) (i : Nat) : w.frozen? ⟨g, i, Option.none⟩ = false := World.ownsRow.frozenAt h i
theorem Ob.set {w : World} {B n d g : Nat} {f : Nat → Nat} (h : Ob w B (.slice (Option.some ⟨g, 0, Option.none⟩) n d) n f) (j v : Nat) : Ob (w.setCell ⟨g, j, Option.none⟩ (.int .u8 (v : Int))) B (.slice (Option.some ⟨g, 0, Option.none⟩) n d) n (fun i => if i = j then v else f i) := own_set h
theorem Ob.room {w : World} {B n d : Nat} {s : Option Addr} {f : Nat → Nat} (h : Ob w B (.slice s n d) n f) : n ≤ d := by
 rcases h.2 with ⟨e, h0⟩ | ⟨g, cap, cur, e, _, _, hc, _⟩
 ·cases e; omega
 ·cases e; omega
/-- A copy into bytes of the call's own, from place p on. -/
theorem qcp {ops : Array Oper} {rest : List Oper} {op : Oper} {a : Act} {w : World} {Q : Exit → Act → World → Prop} (hgd : op.guard = Option.none) (d s : Operand) (ho : op.op = .call { callee := .builtin .copy, args := #[d, s], argTypes := #[22, 22] })
  (B g p n c m dn dc sc : Nat) (b o : Nat) (f h : Nat → Nat) (hd : a.eval d = .slice (Option.some ⟨g, p, Option.none⟩) m dc) (hs : a.eval s = .slice (Option.some ⟨b, o, Option.none⟩) c sc) (hr : Ob w B (.slice (Option.some ⟨g, 0, Option.none⟩) n dn) n f) (hsl : Sl w (Option.some ⟨b, o, Option.none⟩) c h) (hm : c ≤ m) (hfit : p + c ≤ n)
  (k : ∀ w', Hid (Ob w' B (.slice (Option.some ⟨g, 0, Option.none⟩) n dn) n (cpf f h p c)) → Hid (w.grownBy w' (Option.some g)) → wpList Tryz.prog ops Q rest (a.put op.dst (goInt c)) w') : wpList Tryz.prog ops Q (op :: rest) a w := by
 rcases hr.2 with ⟨e, _⟩ | ⟨g', cap, cur, e, hb, hg, hcap, hmax, hsz, ht⟩
 ·cases e
 ·cases e
  have hlen : (row c h).toList.length = c := by simp [qa5]
  have hsrc : ∀ j v, (row c h).toList[j]? = Option.some v → w.cell? ((⟨b, o, Option.none⟩ : Addr).add j) = Option.some v := qca hsl (Below.refl _ _)
  have hcur : cur.size = dn := by omega
  refine wpList_copy_own hgd d s 22 22 ho 5 Tryz.underlying22 size8 g p m dc ⟨b, o, Option.none⟩ c sc hd hs cur 5 hg (row c h).toList (by rw [hlen]; exact (Nat.min_eq_left hm).symm) hsrc (by rw [hlen]; omega) (qcb c h) ?_
  rw [hlen]
  refine k _ ⟨by simp [qa5], .inr ⟨g, dn, _, rfl, hb, setRow_heap w g _ _ _ _ hg, hcap, hmax, by simp [qa5]; omega, ?_⟩⟩ (qcc _ _ _)
  rw [Nat.mul_one] at ht ⊢
  rw [← qhd n p c f h hfit, ← ht]
  have hpn : p ≤ n := by omega
  rw [List.take_append, List.take_append, List.take_take, List.take_take, Nat.min_eq_right hpn, Nat.min_eq_left hpn]
  have l1 : (List.take p cur.toList).length = p := by simp; omega
  rw [l1, hlen, List.take_of_length_le (l := (row c h).toList) (by rw [hlen]; omega), List.drop_take, Nat.sub_sub]
end Go.Proofs.YtblagbghpfopcaaGreat
