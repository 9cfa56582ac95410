/-
  Contract of the reference: Reduce (words).
-/
import Derived.Test.YtlmanliinncdiaaGreatQggps00
import Derived.Test.YtlmanliinncdiaaGreatQggps20
set_option maxRecDepth 100000
set_option maxHeartbeats 16000000
namespace Go.Proofs.YtlmanliinncdiaaGreat
open Go.RowKit
theorem qb7 {w : World} {B n b : Nat} {v x y z : Value} {f : Nat → Nat} (h : Ob w B v n f) (hv : Vr w b x y z) : v.ownBlock ≠ some b := by
 rcases h.2 with ⟨e, _⟩ | ⟨g, cap, cur, e, _, hg, _⟩
 ·rw [e]; simp [Value.ownBlock]
 ·rw [e]
  intro he
  have : g = b := by simpa [Value.ownBlock] using he
  subst this
  unfold Vr at hv
  rw [hg] at hv
  have := Option.some.inj hv
  injection this with _ h2
  exact absurd h2 (by decide)
theorem qcb {w : World} {B n b : Nat} {v x y z : Value} {f : Nat → Nat} (h : Oi w B v n f) (hv : Vr w b x y z) : v.ownBlock ≠ some b := by
 rcases h.2 with ⟨e, _⟩ | ⟨g, cap, cur, e, _, hg, _⟩
 ·rw [e]; simp [Value.ownBlock]
 ·rw [e]
  intro he
  have : g = b := by simpa [Value.ownBlock] using he
  subst this
  unfold Vr at hv
  rw [hg] at hv
  have := Option.some.inj hv
  injection this with _ h2
  exact absurd h2 (by decide)
theorem qe6 {w : World} {B B' n m : Nat} {v u : Value} {f h : Nat → Nat} (hv : Ob w B v n f) (hu : Oi w B' u m h) {g : Nat} (e : v.ownBlock = some g) : u.ownBlock ≠ some g := by
 rcases hv.2 with ⟨e1, _⟩ | ⟨g1, cap, cur, e1, _, hg, _⟩
 ·rw [e1] at e; simp [Value.ownBlock] at e
 ·rcases hu.2 with ⟨e2, _⟩ | ⟨g2, cap2, cur2, e2, _, hg2, _⟩
  ·rw [e2]; simp [Value.ownBlock]
  ·rw [e2]
   intro he
   have h1 : g1 = g := by rw [e1] at e; simpa [Value.ownBlock] using e
   have h2 : g2 = g := by simpa [Value.ownBlock] using he
   subst h1
   subst h2
   rw [hg] at hg2
   have := Option.some.inj hg2
   injection this with _ h2
   exact absurd h2 (by decide)
/-- What Reduce's loop over the columns keeps. -/
structure RInv (w wr : World) (br r c n top j : Nat) (p : Nat → Nat) (s : Option Addr) (d : Nat) (v : Value) (M : Nat → Nat → Nat) (G : Nat → Nat) : Prop where
 vr : Vr wr br (.int .i64 (r : Int)) (.int .i64 (c : Int)) (.slice s n d)
 vo : Vr wr (w.heap.size + 1) (.int .i64 0) (.int .i64 0) (.slice none 0 0)
 data : Ob wr w.heap.size (.slice s n d) n G
 piv : Oi wr w.heap.size v top p
 el : ∀ q, q < n → G q < 256
 elm : Elm (m2 G r c) r top j p
 sp : SpEq (m2 G r c) r M r
 jc : j ≤ c
 low : w.heap.size + 1 < br
 below : Below w.heap.size w wr
theorem RInv.later {w wr w' : World} {br r c n top j d : Nat} {p : Nat → Nat} {s : Option Addr} {v : Value} {M : Nat → Nat → Nat} {G : Nat → Nat} (h : RInv w wr br r c n top j p s d v M G) (hb : Below wr.heap.size wr w') : RInv w w' br r c n top j p s d v M G :=
 ⟨h.vr.later hb, h.vo.later hb, h.data.later hb, h.piv.later hb, h.el, h.elm, h.sp, h.jc, h.low, qa0 h.below hb⟩
/-- Another block of numbers is written. -/
theorem RInv.kept {w wr w' : World} {br r c n top j d g : Nat} {p : Nat → Nat} {s : Option Addr} {v : Value} {M : Nat → Nat → Nat} {G : Nat → Nat} (h : RInv w wr br r c n top j p s d v M G) (hg : wr.grownBy w' (some g)) (h1 : w.heap.size + 1 < g) (h2 : br ≠ g) (h3 : (Value.slice s n d).ownBlock ≠ some g) (h4 : v.ownBlock ≠ some g) : RInv w w' br r c n top j p s d v M G :=
 ⟨h.vr.kept hg h2, h.vo.kept hg (by omega), h.data.kept hg (.inr h3), h.piv.kept hg (.inr h4), h.el, h.elm, h.sp, h.jc, h.low, qa8 h.below hg (by omega)⟩
theorem RInv.skip {w wr : World} {br r c n top j d : Nat} {p : Nat → Nat} {s : Option Addr} {v : Value} {M : Nat → Nat → Nat} {G : Nat → Nat} (h : RInv w wr br r c n top j p s d v M G) (hj : j < c) (hz : ∀ t, top ≤ t → t < r → G (t * c + j) = 0) : RInv w wr br r c n top (j + 1) p s d v M G :=
 ⟨h.vr, h.vo, h.data, h.piv, h.el, h.elm.skip (fun i h1 h2 => by rw [qb6 _ h2 hj]; exact hz i h1 h2), h.sp, hj, h.low, h.below⟩
theorem RInv.sl {w wr : World} {br r c n top j d : Nat} {p : Nat → Nat} {s : Option Addr} {v : Value} {M : Nat → Nat → Nat} {G : Nat → Nat} (h : RInv w wr br r c n top j p s d v M G) : Sl wr s n G := h.data.sl h.el
/-- The matrix in its variable, the answer's variable, the pivots. -/
structure DInv (w wr : World) (br r c n top gd d : Nat) (p : Nat → Nat) (v : Value) (G : Nat → Nat) : Prop where
 vr : Vr wr br (.int .i64 (r : Int)) (.int .i64 (c : Int)) (.slice (some ⟨gd, 0, none⟩) n d)
 vo : Vr wr (w.heap.size + 1) (.int .i64 0) (.int .i64 0) (.slice none 0 0)
 data : Ob wr w.heap.size (.slice (some ⟨gd, 0, none⟩) n d) n G
 piv : Oi wr w.heap.size v top p
 low : w.heap.size + 1 < br
 below : Below w.heap.size w wr
theorem DInv.later {w wr w' : World} {br r c n top gd d : Nat} {p : Nat → Nat} {v : Value} {G : Nat → Nat} (I : DInv w wr br r c n top gd d p v G) (hb : Below wr.heap.size wr w') : DInv w w' br r c n top gd d p v G :=
 ⟨I.vr.later hb, I.vo.later hb, I.data.later hb, I.piv.later hb, I.low, qa0 I.below hb⟩
/-- What Reduce's loop that takes a row off the others keeps. -/
structure EInv (w wr : World) (br r c n top gd d gr dr : Nat) (p : Nat → Nat) (v : Value) (h G : Nat → Nat) : Prop where
 vr : Vr wr br (.int .i64 (r : Int)) (.int .i64 (c : Int)) (.slice (some ⟨gd, 0, none⟩) n d)
 vo : Vr wr (w.heap.size + 1) (.int .i64 0) (.int .i64 0) (.slice none 0 0)
 data : Ob wr w.heap.size (.slice (some ⟨gd, 0, none⟩) n d) n G
 piv : Oi wr w.heap.size v top p
 row : Ob wr w.heap.size (.slice (some ⟨gr, 0, none⟩) c dr) c h
 ne : gr ≠ gd
 low : w.heap.size + 1 < br
 below : Below w.heap.size w wr
theorem EInv.later {w wr w' : World} {br r c n top gd d gr dr : Nat} {p : Nat → Nat} {v : Value} {h G : Nat → Nat} (I : EInv w wr br r c n top gd d gr dr p v h G) (hb : Below wr.heap.size wr w') : EInv w w' br r c n top gd d gr dr p v h G :=
 ⟨I.vr.later hb, I.vo.later hb, I.data.later hb, I.piv.later hb, I.row.later hb, I.ne, I.low, qa0 I.below hb⟩
theorem EInv.drew {w wr : World} {br r c n top gd d gr dr : Nat} {p : Nat → Nat} {v : Value} {h G : Nat → Nat} (I : EInv w wr br r c n top gd d gr dr p v h G) : EInv w wr.drew br r c n top gd d gr dr p v h G := I.later (Below.refl _ _).drew
theorem EInv.congr {w wr : World} {br r c n top gd d gr dr : Nat} {p : Nat → Nat} {v : Value} {h G G' : Nat → Nat} (I : EInv w wr br r c n top gd d gr dr p v h G) (e : ∀ q, q < n → G q = G' q) : EInv w wr br r c n top gd d gr dr p v h G' :=
 ⟨I.vr, I.vo, I.data.congr e, I.piv, I.row, I.ne, I.low, I.below⟩
theorem EInv.set {w wr : World} {br r c n top gd d gr dr q x : Nat} {p : Nat → Nat} {v : Value} {h G : Nat → Nat} (I : EInv w wr br r c n top gd d gr dr p v h G) : EInv w (wr.setCell ⟨gd, q, none⟩ (.int .u8 (x : Int))) br r c n top gd d gr dr p v h (fun i => if i = q then x else G i) := by
 have hg := qa2 wr gd q (.int .u8 (x : Int))
 have hb : (Value.slice (some ⟨gd, 0, none⟩) n d).ownBlock = some gd := rfl
 have h1 : br ≠ gd := fun e => qb7 I.data I.vr (by rw [hb, e])
 have h2 : w.heap.size + 1 ≠ gd := fun e => qb7 I.data I.vo (by rw [hb, e])
 exact ⟨I.vr.kept hg h1, I.vo.kept hg h2, I.data.set q x, I.piv.kept hg (.inr (qe6 I.data I.piv hb)), I.row.kept hg (.inr (by simpa [Value.ownBlock] using I.ne)), I.ne, I.low, qa8 I.below hg (I.data.base hb).1⟩
theorem elf_lt {G h : Nat → Nat} {r c n top col : Nat} (hG : ∀ t, t < n → G t < 256) (R : Rt r c n) (hcol : col < c) (q : Nat) : ∀ t, t < n → elf G h c top col q t < 256 := by
 intro t ht
 unfold elf
 split
 ·have hl := R.len
  have : t / c < r := (Nat.div_lt_iff_lt_mul (by omega)).2 (by rw [hl]; exact ht)
  exact qbc _ _ (hG t ht) (qai _ _ (hG _ (R.at this hcol)))
 ·exact hG t ht
theorem cpf_lt {f h : Nat → Nat} {n p c : Nat} (hf : ∀ t, t < n → f t < 256) (hh : ∀ l, l < c → h l < 256) : ∀ t, t < n → cpf f h p c t < 256 := by
 intro t ht
 unfold cpf
 split
 ·exact hh _ (by omega)
 ·exact hf t ht
theorem qe7 (w : World) (t : TypeId) (x : Nat) : ∀ j u, [Value.int .i64 (x : Int)][j]? = some u → (w.alloc (.cells #[.int .i64 (x : Int)] t)).cell? ((⟨w.heap.size, 0, none⟩ : Addr).add j) = some u := by
 intro j u hj
 match j, hj with
 | 0, hj => simp at hj; subst hj; simp [Addr.add]
theorem qe8 (x : Nat) : ∀ u ∈ [Value.int .i64 (x : Int)], u.oneCell' = true := by intro u hu; simp at hu; subst hu; rfl
/-- After a round the loop over the columns goes on. -/
theorem EInv.next {w wr w3 : World} {br r c n top j i gd d gr dr : Nat} {p : Nat → Nat} {v v' : Value} {h G PG : Nat → Nat} {M : Nat → Nat → Nat} (o : Obj) (I : EInv w wr br r c n top gd d gr dr p v h (elf (cpf PG h (top * c) c) h c top j (r * c)))
  (hp : pkf G (zsw top i) c = PG) (R : Rt r c n) (hel : ∀ q, q < n → G q < 256) (E : Elm (m2 G r c) r top j p) (S : SpEq (m2 G r c) r M r) (hi : top ≤ i) (hir : i < r) (hj : j < c) (hne : G (i * c + j) ≠ 0) (hh : ∀ l, l < c → h l = fm (finv (G (i * c + j))) (PG (top * c + l))) (hhl : ∀ l, l < c → h l < 256)
  (hown : w3.ownsRow w.heap.size 3 1 v' (top + 1) ((irow top p).toList ++ [.int .i64 (j : Int)])) (hg : (wr.alloc o).grownBy w3 v.ownBlock) :
  RInv w w3 br r c n (top + 1) (j + 1) (fun t => if t = top then j else p t) (some ⟨gd, 0, none⟩) d v' M (elf (cpf PG h (top * c) c) h c top j (r * c)) := by
 have A := I.later (qa1 wr o)
 have hpl : ∀ q, q < n → PG q < 256 := fun q hq => by
  rw [← hp]; exact qfq hel R (fun t ht => qbr (by omega) hir ht) q (by rw [R.len]; exact hq)
 obtain ⟨h1, h2⟩ := qhz hel R E S hi hir hj hne rfl (by rw [hp]; exact hh)
 rw [hp] at h1 h2
 have e1 := qcb A.piv A.vr
 have e2 := qcb A.piv A.vo
 have e3 : v.ownBlock ≠ some gd := qe6 A.data A.piv rfl
 refine ⟨A.vr.grown hg e1, A.vo.grown hg e2, A.data.kept hg (.inr (fun e => e3 e.symm)), ?_, elf_lt (cpf_lt hpl hhl) R hj _, h1, h2, hj, I.low, ?_⟩
 ·rw [qca] at hown
  exact hown
 ·cases hv : v.ownBlock with
  | none => rw [hv] at hg; exact qa0 A.below (qa9.mp hg)
  | some g => rw [hv] at hg; exact qa8 A.below hg (A.piv.base hv).1
end Go.Proofs.YtlmanliinncdiaaGreat
