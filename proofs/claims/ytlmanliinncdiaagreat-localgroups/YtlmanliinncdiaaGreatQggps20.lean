/-
  Lists as matrices: a round of the elimination, as the lists have it.
  Contract of the matrices' reference: Copy.
  Lists of ints of the call's own; a copy into bytes of the call's own.
-/
import Derived.Test.YtlmanliinncdiaaGreatQggps00
import Derived.Test.YtlmanliinncdiaaGreatQggps10
import Derived.Test.YtlmanliinncdiaaGreatQggps19
import Derived.Test.YtlmanliinncdiaaGreatQggps18
import Derived.Test.YtlmanliinncdiaaGreatQggps17
import Derived.Test.YtlmanliinncdiaaGreatQggps16
set_option maxRecDepth 100000
set_option maxHeartbeats 16000000
namespace Go.Proofs.YtlmanliinncdiaaGreat
theorem dm1 {s b t : Nat} (h : t < b) : (s * b + t) / b = s := by rw [Nat.mul_comm, Nat.mul_add_div (by omega), Nat.div_eq_of_lt h, Nat.add_zero]
theorem dm2 {s b t : Nat} (h : t < b) : (s * b + t) % b = t := by rw [Nat.mul_comm, Nat.mul_add_mod, Nat.mod_eq_of_lt h]
/-- The matrix of r rows and c columns that a list holds; 0 besides. -/
def m2 (F : Nat → Nat) (r c i j : Nat) : Nat := if i < r ∧ j < c then F (i * c + j) else 0
theorem qb6 (F : Nat → Nat) {r c i j : Nat} (hi : i < r) (hj : j < c) : m2 F r c i j = F (i * c + j) := if_pos ⟨hi, hj⟩
theorem qaj (F : Nat → Nat) {r c i j : Nat} (hj : c ≤ j) : m2 F r c i j = 0 := if_neg (by omega)
theorem m2_low (F : Nat → Nat) {r c i j : Nat} (hi : r ≤ i) : m2 F r c i j = 0 := if_neg (by omega)
theorem qe5 {F : Nat → Nat} {r c n : Nat} (hF : ∀ p, p < n → F p < 256) (R : Rt r c n) : El2 (m2 F r c) := fun i j => by
 unfold m2
 split
 ·rename_i h; exact hF _ (R.at h.1 h.2)
 ·decide
/-- Two places changed. -/
def zsw (a b k : Nat) : Nat := if k = a then b else if k = b then a else k
theorem qbr {a b r k : Nat} (ha : a < r) (hb : b < r) (hk : k < r) : zsw a b k < r := by unfold zsw; split; exact hb; split; exact ha; exact hk
theorem m2_pick (F : Nat → Nat) {r c a b : Nat} (ha : a < r) (hb : b < r) : ∀ t l, t < r → m2 (pkf F (zsw a b) c) r c t l = swp (m2 F r c) a b t l := by
 intro t l ht
 by_cases hl : l < c
 ·rw [qb6 _ ht hl, qdk _ _ _ _ _ hl, ← qb6 F (qbr ha hb ht) hl]
  unfold zsw swp
  split
  ·rfl
  ·split <;> rfl
 ·rw [qaj _ (by omega)]
  unfold swp
  rw [qaj _ (by omega), qaj _ (by omega), qaj _ (by omega)]
  split
  ·rfl
  ·split <;> rfl
theorem m2_cpf (F h : Nat → Nat) {r c top d : Nat} (hh : ∀ l, l < c → h l = fm d (F (top * c + l))) (ht : top < r) : ∀ t l, t < r → m2 (cpf F h (top * c) c) r c t l = rw1 (m2 F r c) top (fun l => fm d (m2 F r c top l)) t l := by
 intro t l htr
 by_cases hl : l < c
 ·rw [qb6 _ htr hl]
  unfold cpf rw1
  by_cases e : t = top
  ·subst e
   rw [if_pos ⟨by omega, by omega⟩, if_pos rfl, Nat.add_sub_cancel_left, hh l hl]
   show _ = fm d (m2 F r c t l)
   rw [qb6 _ ht hl]
  ·rw [if_neg e, qb6 _ htr hl]
   have : ¬ (top * c ≤ t * c + l ∧ t * c + l < top * c + c) := by
    rintro ⟨h1, h2⟩
    rcases Nat.lt_or_gt_of_ne e with hlt | hgt
    ·have : (t + 1) * c ≤ top * c := Nat.mul_le_mul_right c hlt
     rw [Nat.add_mul, Nat.one_mul] at this
     omega
    ·have : (top + 1) * c ≤ t * c := Nat.mul_le_mul_right c hgt
     rw [Nat.add_mul, Nat.one_mul] at this
     omega
   rw [if_neg this]
 ·rw [qaj _ (by omega)]
  unfold rw1
  split
  ·show 0 = fm d (m2 F r c top l)
   rw [qaj _ (by omega), qa7]
  ·rw [qaj _ (by omega)]
/-- Of all rows but row top, as far as place q, so much of R is taken off that column col is 0. -/
def elf (F R : Nat → Nat) (c top col q p : Nat) : Nat := if p < q ∧ p / c ≠ top then F p ^^^ fm (F (p / c * c + col)) (R (p % c)) else F p
theorem elf_zero (F R : Nat → Nat) (c top col p : Nat) : elf F R c top col 0 p = F p := if_neg (by omega)
theorem qfs (F R : Nat → Nat) (c top col q p : Nat) (h : q ≤ p) : elf F R c top col q p = F p := if_neg (by omega)
theorem elf_step (F R : Nat → Nat) {c top col k l : Nat} (hl : l < c) (hk : k ≠ top) (p : Nat) : (if p = k * c + l then F (k * c + l) ^^^ fm (F (k * c + col)) (R l) else elf F R c top col (k * c + l) p) = elf F R c top col (k * c + l + 1) p := by
 unfold elf
 by_cases e : p = k * c + l
 ·subst e
  rw [if_pos rfl, if_pos ⟨by omega, by rw [dm1 hl]; exact hk⟩, dm1 hl, dm2 hl]
 ·rw [if_neg e]
  by_cases h : p < k * c + l ∧ p / c ≠ top
  ·rw [if_pos h, if_pos ⟨by omega, h.2⟩]
  ·rw [if_neg h, if_neg (fun h2 => h ⟨by omega, h2.2⟩)]
theorem elf_skip (F R : Nat → Nat) (c top col p : Nat) : elf F R c top col (top * c) p = elf F R c top col ((top + 1) * c) p := by
 unfold elf
 by_cases e : p / c = top
 ·rw [if_neg (fun h => h.2 e), if_neg (fun h => h.2 e)]
 ·by_cases h : p < top * c
  ·rw [if_pos ⟨h, e⟩, if_pos ⟨Nat.lt_of_lt_of_le h (Nat.mul_le_mul_right c (by omega)), e⟩]
  ·rw [if_neg (fun h2 => h h2.1), if_neg (fun h2 => e ?_)]
   have hc : 0 < c := by
    rcases Nat.eq_zero_or_pos c with rfl | hc
    ·omega
    ·exact hc
   have h1 : top ≤ p / c := (Nat.le_div_iff_mul_le hc).2 (by omega)
   have h3 : p / c < top + 1 := (Nat.div_lt_iff_lt_mul hc).2 h2.1
   omega
theorem m2_elf (F R : Nat → Nat) {r c top col : Nat} (hR : ∀ l, l < c → R l = F (top * c + l)) (ht : top < r) (hcol : col < c) : ∀ i l, i < r → m2 (elf F R c top col (r * c)) r c i l = clr (m2 F r c) top col i l := by
 intro i l hi
 by_cases hl : l < c
 ·have hlt : i * c + l < r * c := by
   have : (i + 1) * c ≤ r * c := Nat.mul_le_mul_right c hi
   rw [Nat.add_mul, Nat.one_mul] at this
   omega
  rw [qb6 _ hi hl]
  unfold elf clr
  rw [dm1 hl, dm2 hl]
  by_cases e : i = top
  ·rw [if_neg (fun h => h.2 e), if_pos e, e, qb6 _ ht hl]
  ·rw [if_pos ⟨hlt, e⟩, if_neg e, qb6 _ hi hl, qb6 _ hi hcol, qb6 _ ht hl, hR l hl]
 ·rw [qaj _ (by omega)]
  unfold clr
  rw [qaj _ (by omega), qaj _ (by omega)]
  split
  ·rfl
  ·rw [qa7]; rfl
theorem qhx {M N : Nat → Nat → Nat} {r top col : Nat} (ht : top < r) (e : ∀ i l, i < r → M i l = N i l) : ∀ i l, i < r → clr M top col i l = clr N top col i l := by
 intro i l hi
 unfold clr
 rw [e top l ht, e i l hi, e i col hi]
theorem qhy {M N : Nat → Nat → Nat} {r top d : Nat} (ht : top < r) (e : ∀ i l, i < r → M i l = N i l) : ∀ i l, i < r → rw1 M top (fun l => fm d (M top l)) i l = rw1 N top (fun l => fm d (N top l)) i l := by
 intro i l hi
 unfold rw1
 split
 ·show fm d (M top l) = fm d (N top l)
  rw [e top l ht]
 ·exact e i l hi
/-- A round with a pivot in row i: rows exchanged, the row divided, and taken off all others. -/
theorem qhz {F h : Nat → Nat} {r c n top i j d : Nat} {p : Nat → Nat} {M : Nat → Nat → Nat} (hF : ∀ p, p < n → F p < 256) (R : Rt r c n) (E : Elm (m2 F r c) r top j p) (S : SpEq (m2 F r c) r M r) (hi : top ≤ i) (hir : i < r) (hj : j < c) (hne : F (i * c + j) ≠ 0)
  (hd : d = finv (F (i * c + j))) (hh : ∀ l, l < c → h l = fm d (pkf F (zsw top i) c (top * c + l))) :
  Elm (m2 (elf (cpf (pkf F (zsw top i) c) h (top * c) c) h c top j (r * c)) r c) r (top + 1) (j + 1) (fun t => if t = top then j else p t) ∧ SpEq (m2 (elf (cpf (pkf F (zsw top i) c) h (top * c) c) h c top j (r * c)) r c) r M r := by
 have htr : top < r := by omega
 have hd2 : d < 256 := by rw [hd]; exact qad _
 have hE0 := qe5 hF R
 obtain ⟨N1, eN1⟩ : ∃ N, N = swp (m2 F r c) top i := ⟨_, rfl⟩
 have hN1 : El2 N1 := by rw [eN1]; exact qhb hE0 _ _
 have E1 : Elm N1 r top j p := by rw [eN1]; exact E.swp (by omega) hi htr hir
 have S1 : SpEq N1 r M r := by rw [eN1]; exact (qfg hE0 htr hir).trans S
 have v1 : N1 top j = F (i * c + j) := by
  rw [eN1]; unfold swp; rw [if_pos rfl, qb6 _ hir hj]
 obtain ⟨N2, eN2⟩ : ∃ N, N = rw1 N1 top (fun l => fm d (N1 top l)) := ⟨_, rfl⟩
 have hN2 : El2 N2 := by rw [eN2]; exact qha hN1 (fun l => qai _ _ hd2) _
 have hd0 : d ≠ 0 := fun e => by
  have := qak _ (hF _ (R.at hir hj)) hne
  rw [← hd, e, qa7] at this
  cases this
 have E2 : Elm N2 r top j p := by rw [eN2]; exact E1.scale (by omega) htr
 have S2 : SpEq N2 r M r := by rw [eN2]; exact (qci hN1 htr hd2 hd0).trans S1
 have v2 : N2 top j = 1 := by
  rw [eN2, qej, v1, hd, qac _ _ (qad _) (hF _ (R.at hir hj)), qak _ (hF _ (R.at hir hj)) hne]
 have E3 := E2.step hN2 htr v2
 have S3 := (spEq_clr hN2 htr j).trans S2
 have key : ∀ t l, t < r → m2 (elf (cpf (pkf F (zsw top i) c) h (top * c) c) h c top j (r * c)) r c t l = clr N2 top j t l := by
  intro t l ht
  rw [m2_elf _ h (fun l hl => ?_) htr hj t l ht]
  ·refine qhx htr (fun t l ht => ?_) t l ht
   rw [m2_cpf _ h hh htr t l ht, eN2]
   exact qhy htr (fun t l ht => by rw [m2_pick F htr hir t l ht, eN1]) t l ht
  ·unfold cpf
   rw [if_pos ⟨by omega, by omega⟩, Nat.add_sub_cancel_left]
 exact ⟨E3.rows key, S3.rows key⟩
open Go.RowKit
theorem qgp (w : World) (r c : Int) (n k : Nat) (a : Option Addr) (F : Nat → Nat) (ha : Sl w a n F) (hn : n ≤ 140737488351232) (h0 : a = none → n = 0 ∧ k = 0) :
  Calls Tryz.prog 120 #[mv r c a n k] w fun e w' => ∃ s d, e = .returned (mv r c s n d) ∧ w'.ownsRow w.heap.size 5 1 (.slice s n d) n (row n F).toList ∧ Below w.heap.size w w' := by
 obtain ⟨wb, HW, HX⟩ : ∃ wb, Hid (wb = (w.alloc (.cells #[.int .i64 r, .int .i64 c, .slice a n k] 24)).alloc (.cells #[.int .i64 0, .int .i64 0, .slice none 0 0] 24)) ∧ Hid (Box2 w wb r c n k a) := ⟨_, rfl, box2 w r c n k a⟩
 have HCp : Hid (∀ w', Below w.heap.size w w' → Calls Tryz.prog 134 #[.slice a n k] w' fun e w'' => ∃ v, e = .returned v ∧ w''.ownsRow w'.heap.size 5 1 v n (row n F).toList ∧ Below w'.heap.size w' w'') := fun w' h' => qho w' a n k F (ha.later h') hn h0
 have v2 := HX.out.va.c2
 have v1 := HX.out.va.c1
 have v0 := HX.out.va.c0
 clear ha
 go_enter Tryz.func120, Tryz.ntmps120
 go_wp2_with (first
  | (go_at_call 134; rw [← HW.out]; refine (HCp.out _ HX.out.below).mono ?_; rintro e w1 ⟨v, rfl, ho, hb1⟩; obtain ⟨s, d, e3, _, _⟩ := qd6 ho; subst e3; have HO : Hid (w1.ownsRow wb.heap.size 5 1 (.slice s n d) n (row n F).toList) := ho; have HB1 : Hid (Below wb.heap.size wb w1) := hb1; have HVa : Hid (Vr w1 w.heap.size (.int .i64 r) (.int .i64 c) (.slice a n k)) := HX.out.va.later hb1; have HVr : Hid (Vr w1 (w.heap.size + 1) (.int .i64 0) (.int .i64 0) (.slice none 0 0)) := HX.out.vr.later hb1; have u2 := HVa.out.c2; have uf := HVa.out.free 2; have u0 := HVa.out.c0; have u1 := HVa.out.c1; have HVa2 : Hid (Vr (w1.setCell ⟨w.heap.size, 2, none⟩ (.slice s n d)) w.heap.size (.int .i64 r) (.int .i64 c) (.slice s n d)) := HVa.out.set2 (.slice s n d); have z0 := HVa2.out.c0; have z1 := HVa2.out.c1; have z2 := HVa2.out.c2; clear ho hb1)
  | (refine qa4 rfl _ _ rfl (w.heap.size + 1) _ _ _ (.int .i64 r) (.int .i64 c) (.slice s n d) rfl rfl (HVr.out.kept (qa2 _ _ _ _) (by omega)) rfl rfl rfl ?_; intro w4 HV4 HG4))
 have d0 := HV4.out.c0
 have d1 := HV4.out.c1
 have d2 := HV4.out.c2
 refine bodyPost_ret (v := mv r c s n d) (by simp [results, Tryz.results120, go_sem, d0, d1, d2, mv]) rfl ?_
 have hsz := HX.out.below.size
 have hlt := HX.out.vr.lt
 have o1 := HO.out.kept (qa2 w1 w.heap.size 2 (.slice s n d)) (.inr (fun h => by have := qaa HO.out _ h; omega))
 have o2 := o1.kept HG4.out (.inr (fun h => by have := qaa HO.out _ h; omega))
 exact ⟨s, d, rfl, qcr o2 hsz, qa8 ((qa0 HX.out.below HB1.out).setCell (Nat.le_refl _) _) HG4.out (by omega)⟩
open Go.RowKit
theorem infoI : (Tryz.prog.info? 3).map (fun i => (i.zero, i.size, i.bytes)) = some (some (.int .i64 0), 1, 8) := by kernel_rfl
/-- The cells of a list of n numbers. -/
def irow (n : Nat) (f : Nat → Nat) : Array Value := (Array.range n).map fun i => .int .i64 (f i : Nat)
theorem qd7 (n : Nat) (f : Nat → Nat) : (irow n f).size = n := by simp [irow]
theorem qc9 (n : Nat) (f : Nat → Nat) (i : Nat) (h : i < n) : (irow n f)[i]? = some (.int .i64 (f i : Nat)) := by simp [irow, h]
theorem irow_set (n : Nat) (f : Nat → Nat) (i v : Nat) : (irow n f).setIfInBounds i (.int .i64 (v : Int)) = irow n (fun j => if j = i then v else f j) := by
 apply Array.ext
 ·simp [irow]
 ·intro j h1 h2
  by_cases e : i = j
  ·subst e; simp [irow]
  ·rw [Array.getElem_setIfInBounds_ne (by simpa using h1) e]; simp [irow, Ne.symm e]
theorem qdn (n : Nat) (f f' : Nat → Nat) (h : ∀ i, i < n → f i = f' i) : irow n f = irow n f' := by
 apply Array.ext
 ·simp [irow]
 ·intro j h1 h2
  simp [qd7] at h1
  simp [irow, h j h1]
theorem qca (n : Nat) (f : Nat → Nat) (v : Nat) : (irow n f).toList ++ [.int .i64 (v : Int)] = (irow (n + 1) (fun i => if i = n then v else f i)).toList := by
 apply List.ext_getElem?
 intro i
 have hl : (irow n f).toList.length = n := by simp [qd7]
 by_cases h1 : i < n
 ·rw [List.getElem?_append_left (by omega), Array.getElem?_toList, Array.getElem?_toList, qc9 n f i h1, qc9 (n + 1) _ i (by omega), if_neg (by omega)]
 ·rw [List.getElem?_append_right (by omega), hl]
  by_cases h2 : i = n
  ·subst h2
   have e2 : (irow (i + 1) (fun t => if t = i then v else f t)).toList[i]? = some (.int .i64 (v : Int)) := by rw [Array.getElem?_toList, qc9 (i + 1) _ i (by omega), if_pos rfl]
   rw [Nat.sub_self, e2]; rfl
  ·have l2 : (irow (n + 1) (fun i => if i = n then v else f i)).toList.length = n + 1 := by simp [qd7]
   rw [List.getElem?_eq_none (by simp; omega), List.getElem?_eq_none (by omega)]
/-- A block of n numbers. -/
def IRowAt (w : World) (b n : Nat) (f : Nat → Nat) : Prop := w.heap[b]? = some (.cells (irow n f) 3 (0, 0))
theorem IRowAt.cell {w : World} {b n : Nat} {f : Nat → Nat} (h : IRowAt w b n f) (i : Nat) (hi : i < n) : w.cell? ⟨b, i, none⟩ = some (.int .i64 (f i : Nat)) := by
 rw [cell_of_row w b i _ _ _ h, qc9 n f i hi]
theorem IRowAt.free {w : World} {b n : Nat} {f : Nat → Nat} (h : IRowAt w b n f) (i : Nat) : w.frozen? ⟨b, i, none⟩ = false := by
 unfold IRowAt at h
 simp [World.frozen?, h]
theorem IRowAt.lt {w : World} {b n : Nat} {f : Nat → Nat} (h : IRowAt w b n f) : b < w.heap.size := lt_of_block h
theorem IRowAt.set {w : World} {b n : Nat} {f : Nat → Nat} (h : IRowAt w b n f) (i v : Nat) : IRowAt (w.setCell ⟨b, i, none⟩ (.int .i64 (v : Int))) b n (fun j => if j = i then v else f j) := by
 unfold IRowAt at *
 rw [setCell_eq_setRow w b i _ _ (0, 0) _ h, setRow_heap w b _ _ _ (0, 0) h, irow_set]
theorem IRowAt.congr {w : World} {b n : Nat} {f f' : Nat → Nat} (h : IRowAt w b n f) (e : ∀ i, i < n → f i = f' i) : IRowAt w b n f' := by
 unfold IRowAt at *
 rw [h, qdn n f f' e]
theorem IRowAt.later {w w' : World} {b n : Nat} {f : Nat → Nat} (h : IRowAt w b n f) (hb : Below w.heap.size w w') : IRowAt w' b n f := by unfold IRowAt; rw [hb.block b h.lt]; exact h
theorem IRowAt.il {w : World} {b n : Nat} {f : Nat → Nat} (h : IRowAt w b n f) : Il w (some ⟨b, 0, none⟩) n (fun i => (f i : Int)) := fun i hi => ⟨b, 0, rfl, by rw [Nat.zero_add]; exact h.cell i hi⟩
theorem qi0 (n : Nat) : madeCells (Value.int .i64 0).cells (n * 1) = irow n (fun _ => 0) := by
 rw [Nat.mul_one]
 apply Array.ext
 ·simp [madeCells, irow, Value.cells]
 ·intro j h1 h2
  simp [madeCells, irow, Value.cells, Nat.mod_one]
theorem made_iat {w1 : World} {base g n : Nat} (h : w1.ownsRow base 3 1 (.slice (some ⟨g, 0, none⟩) n n) n (madeCells (Value.int .i64 0).cells (n * 1)).toList) : IRowAt w1 g n (fun _ => 0) := by
 rcases h.2 with ⟨e, _⟩ | ⟨g', cap, cur, e, _, hg, _, _, hs, ht⟩
 ·cases e
 ·cases e
  unfold IRowAt
  rw [hg]
  have : cur.toList = (irow n (fun _ => 0)).toList := by
   rw [← qi0 n, ← ht, List.take_of_length_le (by simp [hs])]
  rw [Array.toList_inj.1 this]
/-- Numbers of the call's own. -/
def Oi (w : World) (B : Nat) (v : Value) (n : Nat) (f : Nat → Nat) : Prop := w.ownsRow B 3 1 v n (irow n f).toList
theorem Oi.nil (w : World) (B : Nat) (f : Nat → Nat) : Oi w B (.slice none 0 0) 0 f := by
 unfold Oi
 have : (irow 0 f).toList = [] := by simp [irow]
 rw [this]
 exact World.ownsRow_nil _ _ _ _
theorem Oi.kept {w w' : World} {B n : Nat} {v : Value} {f : Nat → Nat} {row : Option Nat} (h : Oi w B v n f) (hg : w.grownBy w' row) (hne : v.ownBlock = none ∨ v.ownBlock ≠ row) : Oi w' B v n f := World.ownsRow.kept h hg hne
theorem Oi.later {w w' : World} {B n : Nat} {v : Value} {f : Nat → Nat} (h : Oi w B v n f) (hb : Below w.heap.size w w') : Oi w' B v n f := h.kept (qa9.mpr hb) (by cases hv : v.ownBlock <;> simp)
theorem Oi.form {w : World} {B n : Nat} {v : Value} {f : Nat → Nat} (h : Oi w B v n f) : ∃ s d, v = .slice s n d ∧ (s = none → n = 0 ∧ d = 0) := by
 rcases h.2 with ⟨e, h0⟩ | ⟨g, cap, cur, e, _⟩
 ·exact ⟨none, 0, by rw [e, h0], fun _ => ⟨h0, rfl⟩⟩
 ·exact ⟨_, _, e, fun x => by cases x⟩
theorem Oi.base {w : World} {B n : Nat} {v : Value} {f : Nat → Nat} (h : Oi w B v n f) {g : Nat} (hg : v.ownBlock = some g) : B ≤ g ∧ g < w.heap.size := by
 refine ⟨qaa h g hg, ?_⟩
 rcases h.2 with ⟨e, _⟩ | ⟨g', cap, cur, e, _, hb, _⟩
 ·rw [e] at hg; simp [Value.ownBlock] at hg
 ·rw [e] at hg; simp [Value.ownBlock] at hg; subst hg; exact lt_of_block hb
theorem Oi.il {w : World} {B n d : Nat} {s : Option Addr} {f : Nat → Nat} (h : Oi w B (.slice s n d) n f) : Il w s n (fun i => (f i : Int)) := fun i hi => by
 rcases h.2 with ⟨_, h0⟩ | ⟨g, cap, cur, e, _, hg, hc, _, hs, ht⟩
 ·omega
 ·cases e
  refine ⟨g, 0, rfl, ?_⟩
  rw [Nat.zero_add, cell_of_row w g i _ _ _ hg]
  have e1 : (cur.toList.take (n * 1))[i]? = some (.int .i64 (f i : Nat)) := by rw [ht, Array.getElem?_toList, qc9 n f i hi]
  rw [List.getElem?_take, if_pos (by omega), Array.getElem?_toList] at e1
  exact e1
theorem Oi.congr {w : World} {B n : Nat} {v : Value} {f f' : Nat → Nat} (h : Oi w B v n f) (e : ∀ i, i < n → f i = f' i) : Oi w B v n f' := by
 unfold Oi at *
 rw [← qdn n f f' e]; exact h
theorem Oi.mono {w : World} {B B' n : Nat} {v : Value} {f : Nat → Nat} (h : Oi w B v n f) (hB : B' ≤ B) : Oi w B' v n f := by
 refine ⟨h.1, ?_⟩
 rcases h.2 with h' | ⟨g, cap, cur, e, hb, r⟩
 ·exact .inl h'
 ·exact .inr ⟨g, cap, cur, e, by omega, r⟩
/-- Bytes of the call's own. -/
def Ob (w : World) (B : Nat) (v : Value) (n : Nat) (f : Nat → Nat) : Prop := w.ownsRow B 5 1 v n (row n f).toList
theorem Ob.kept {w w' : World} {B n : Nat} {v : Value} {f : Nat → Nat} {row : Option Nat} (h : Ob w B v n f) (hg : w.grownBy w' row) (hne : v.ownBlock = none ∨ v.ownBlock ≠ row) : Ob w' B v n f := World.ownsRow.kept h hg hne
theorem Ob.later {w w' : World} {B n : Nat} {v : Value} {f : Nat → Nat} (h : Ob w B v n f) (hb : Below w.heap.size w w') : Ob w' B v n f := h.kept (qa9.mpr hb) (by cases hv : v.ownBlock <;> simp)
theorem Ob.base {w : World} {B n : Nat} {v : Value} {f : Nat → Nat} (h : Ob w B v n f) {g : Nat} (hg : v.ownBlock = some g) : B ≤ g ∧ g < w.heap.size := by
 refine ⟨qaa h g hg, ?_⟩
 rcases h.2 with ⟨e, _⟩ | ⟨g', cap, cur, e, _, hb, _⟩
 ·rw [e] at hg; simp [Value.ownBlock] at hg
 ·rw [e] at hg; simp [Value.ownBlock] at hg; subst hg; exact lt_of_block hb
theorem Ob.sl {w : World} {B n d : Nat} {s : Option Addr} {f : Nat → Nat} (h : Ob w B (.slice s n d) n f) (hf : ∀ i, i < n → f i < 256) : Sl w s n f := qcj h hf
theorem Ob.congr {w : World} {B n : Nat} {v : Value} {f f' : Nat → Nat} (h : Ob w B v n f) (e : ∀ i, i < n → f i = f' i) : Ob w B v n f' := own_cong h e
theorem Ob.mono {w : World} {B B' n : Nat} {v : Value} {f : Nat → Nat} (h : Ob w B v n f) (hB : B' ≤ B) : Ob w B' v n f := qcr h hB
theorem Ob.none {w : World} {B n d : Nat} {s : Option Addr} {f : Nat → Nat} (h : Ob w B (.slice s n d) n f) : s = Option.none → n = 0 ∧ d = 0 := qbq h
theorem Ob.some {w : World} {B n d : Nat} {s : Option Addr} {f : Nat → Nat} (h : Ob w B (.slice s n d) n f) (hn : 0 < n) : ∃ g, s = Option.some ⟨g, 0, Option.none⟩ := qe3 h hn
theorem Ob.cell {w : World} {B n d g i : Nat} {f : Nat → Nat} (h : Ob w B (.slice (Option.some ⟨g, 0, Option.none⟩) n d) n f) (hi : i < n) : w.cell? ⟨g, i, Option.none⟩ = Option.some (.int .u8 (f i : Nat)) := own_byte h hi
theorem Ob.free {w : World} {B n d g : Nat} {f : Nat → Nat} (h : Ob w B (.slice (Option.some ⟨g, 0, Option.none⟩) n d) n f) (i : Nat) : w.frozen? ⟨g, i, Option.none⟩ = false := World.ownsRow.frozenAt h i
theorem Ob.set {w : World} {B n d g : Nat} {f : Nat → Nat} (h : Ob w B (.slice (Option.some ⟨g, 0, Option.none⟩) n d) n f) (j v : Nat) : Ob (w.setCell ⟨g, j, Option.none⟩ (.int .u8 (v : Int))) B (.slice (Option.some ⟨g, 0, Option.none⟩) n d) n (fun i => if i = j then v else f i) := own_set h
theorem Ob.room {w : World} {B n d : Nat} {s : Option Addr} {f : Nat → Nat} (h : Ob w B (.slice s n d) n f) : n ≤ d := by
 rcases h.2 with ⟨e, h0⟩ | ⟨g, cap, cur, e, _, _, hc, _⟩
 ·cases e; omega
 ·cases e; omega
/-- A copy into bytes of the call's own, from place p on. -/
theorem qbs {ops : Array Oper} {rest : List Oper} {op : Oper} {a : Act} {w : World} {Q : Exit → Act → World → Prop} (hgd : op.guard = Option.none) (d s : Operand) (ho : op.op = .call { callee := .builtin .copy, args := #[d, s], argTypes := #[22, 22] })
  (B g p n c m dn dc sc : Nat) (b o : Nat) (f h : Nat → Nat) (hd : a.eval d = .slice (Option.some ⟨g, p, Option.none⟩) m dc) (hs : a.eval s = .slice (Option.some ⟨b, o, Option.none⟩) c sc) (hr : Ob w B (.slice (Option.some ⟨g, 0, Option.none⟩) n dn) n f) (hsl : Sl w (Option.some ⟨b, o, Option.none⟩) c h) (hm : c ≤ m) (hfit : p + c ≤ n)
  (k : ∀ w', Hid (Ob w' B (.slice (Option.some ⟨g, 0, Option.none⟩) n dn) n (cpf f h p c)) → Hid (w.grownBy w' (Option.some g)) → wpList Tryz.prog ops Q rest (a.put op.dst (goInt c)) w') : wpList Tryz.prog ops Q (op :: rest) a w := by
 rcases hr.2 with ⟨e, _⟩ | ⟨g', cap, cur, e, hb, hg, hcap, hmax, hsz, ht⟩
 ·cases e
 ·cases e
  have hlen : (row c h).toList.length = c := by simp [qa3]
  have hsrc : ∀ j v, (row c h).toList[j]? = Option.some v → w.cell? ((⟨b, o, Option.none⟩ : Addr).add j) = Option.some v := qbi hsl (Below.refl _ _)
  have hcur : cur.size = dn := by omega
  refine wpList_copy_own hgd d s 22 22 ho 5 Tryz.underlying22 size8 g p m dc ⟨b, o, Option.none⟩ c sc hd hs cur 5 hg (row c h).toList (by rw [hlen]; exact (Nat.min_eq_left hm).symm) hsrc (by rw [hlen]; omega) (qbj c h) ?_
  rw [hlen]
  refine k _ ⟨by simp [qa3], .inr ⟨g, dn, _, rfl, hb, setRow_heap w g _ _ _ _ hg, hcap, hmax, by simp [qa3]; omega, ?_⟩⟩ (qbk _ _ _)
  rw [Nat.mul_one] at ht ⊢
  rw [← qf4 n p c f h hfit, ← ht]
  have hpn : p ≤ n := by omega
  rw [List.take_append, List.take_append, List.take_take, List.take_take, Nat.min_eq_right hpn, Nat.min_eq_left hpn]
  have l1 : (List.take p cur.toList).length = p := by simp; omega
  rw [l1, hlen, List.take_of_length_le (l := (row c h).toList) (by rw [hlen]; omega), List.drop_take, Nat.sub_sub]
end Go.Proofs.YtlmanliinncdiaaGreat
