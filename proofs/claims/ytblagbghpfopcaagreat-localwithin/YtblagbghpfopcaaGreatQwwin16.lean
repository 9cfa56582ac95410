/-
  Contract of the reference: Reduce (words).
  Contract of the reference: Reduce.
  Contracts of the reference: Reduce's error, Rank.
-/
import Derived.Test.YtblagbghpfopcaaGreatQwwin00
import Derived.Test.YtblagbghpfopcaaGreatQwwin14
import Derived.Test.YtblagbghpfopcaaGreatQwwin15
set_option maxRecDepth 100000
set_option maxHeartbeats 16000000
namespace Go.Proofs.YtblagbghpfopcaaGreat
open Go.RowKit
theorem qbw {w : World} {B n b : Nat} {v x y z : Value} {f : Nat → Nat} (h : Ob w B v n f) (hv : Vr w b x y z) : v.ownBlock ≠ some b := by
 rcases h.2 with ⟨e, _⟩ | ⟨g, cap, cur, e, _, hg, _⟩
 ·rw [e]; simp [Value.ownBlock]
 ·rw [e]
  intro he
  have : g = b := by simpa [Value.ownBlock] using he
  subst this
  unfold Vr at hv
  rw [hg] at hv
  have := Option.some.inj hv
  injection this with _ h2
  exact absurd h2 (by decide)
theorem qd7 {w : World} {B n b : Nat} {v x y z : Value} {f : Nat → Nat} (h : Oi w B v n f) (hv : Vr w b x y z) : v.ownBlock ≠ some b := by
 rcases h.2 with ⟨e, _⟩ | ⟨g, cap, cur, e, _, hg, _⟩
 ·rw [e]; simp [Value.ownBlock]
 ·rw [e]
  intro he
  have : g = b := by simpa [Value.ownBlock] using he
  subst this
  unfold Vr at hv
  rw [hg] at hv
  have := Option.some.inj hv
  injection this with _ h2
  exact absurd h2 (by decide)
theorem qfx {w : World} {B B' n m : Nat} {v u : Value} {f h : Nat → Nat} (hv : Ob w B v n f) (hu : Oi w B' u m h) {g : Nat} (e : v.ownBlock = some g) : u.ownBlock ≠ some g := by
 rcases hv.2 with ⟨e1, _⟩ | ⟨g1, cap, cur, e1, _, hg, _⟩
 ·rw [e1] at e; simp [Value.ownBlock] at e
 ·rcases hu.2 with ⟨e2, _⟩ | ⟨g2, cap2, cur2, e2, _, hg2, _⟩
  ·rw [e2]; simp [Value.ownBlock]
  ·rw [e2]
   intro he
   have h1 : g1 = g := by rw [e1] at e; simpa [Value.ownBlock] using e
   have h2 : g2 = g := by simpa [Value.ownBlock] using he
   subst h1
   subst h2
   rw [hg] at hg2
   have := Option.some.inj hg2
   injection this with _ h2
   exact absurd h2 (by decide)
/-- What Reduce's loop over the columns keeps. -/
structure RInv (w wr : World) (br r c n top j : Nat) (p : Nat → Nat) (s : Option Addr) (d : Nat) (v : Value) (M : Nat → Nat → Nat) (G : Nat → Nat) : Prop where
 vr : Vr wr br (.int .i64 (r : Int)) (.int .i64 (c : Int)) (.slice s n d)
 vo : Vr wr (w.heap.size + 1) (.int .i64 0) (.int .i64 0) (.slice none 0 0)
 data : Ob wr w.heap.size (.slice s n d) n G
 piv : Oi wr w.heap.size v top p
 el : ∀ q, q < n → G q < 256
 elm : Elm (m2 G r c) r top j p
 sp : SpEq (m2 G r c) r M r
 jc : j ≤ c
 low : w.heap.size + 1 < br
 below : Below w.heap.size w wr
theorem RInv.later {w wr w' : World} {br r c n top j d : Nat} {p : Nat → Nat} {s : Option Addr} {v : Value} {M : Nat → Nat → Nat} {G : Nat → Nat} (h : RInv w wr br r c n top j p s d v M G) (hb : Below wr.heap.size wr w') : RInv w w' br r c n top j p s d v M G :=
 ⟨h.vr.later hb, h.vo.later hb, h.data.later hb, h.piv.later hb, h.el, h.elm, h.sp, h.jc, h.low, qa0 h.below hb⟩
/-- Another block of numbers is written. -/
theorem RInv.kept {w wr w' : World} {br r c n top j d g : Nat} {p : Nat → Nat} {s : Option Addr} {v : Value} {M : Nat → Nat → Nat} {G : Nat → Nat} (h : RInv w wr br r c n top j p s d v M G) (hg : wr.grownBy w' (some g)) (h1 : w.heap.size + 1 < g) (h2 : br ≠ g) (h3 : (Value.slice s n d).ownBlock ≠ some g) (h4 : v.ownBlock ≠ some g) : RInv w w' br r c n top j p s d v M G :=
 ⟨h.vr.kept hg h2, h.vo.kept hg (by omega), h.data.kept hg (.inr h3), h.piv.kept hg (.inr h4), h.el, h.elm, h.sp, h.jc, h.low, qa9 h.below hg (by omega)⟩
theorem RInv.skip {w wr : World} {br r c n top j d : Nat} {p : Nat → Nat} {s : Option Addr} {v : Value} {M : Nat → Nat → Nat} {G : Nat → Nat} (h : RInv w wr br r c n top j p s d v M G) (hj : j < c) (hz : ∀ t, top ≤ t → t < r → G (t * c + j) = 0) : RInv w wr br r c n top (j + 1) p s d v M G :=
 ⟨h.vr, h.vo, h.data, h.piv, h.el, h.elm.skip (fun i h1 h2 => by rw [qb1 _ h2 hj]; exact hz i h1 h2), h.sp, hj, h.low, h.below⟩
theorem RInv.sl {w wr : World} {br r c n top j d : Nat} {p : Nat → Nat} {s : Option Addr} {v : Value} {M : Nat → Nat → Nat} {G : Nat → Nat} (h : RInv w wr br r c n top j p s d v M G) : Sl wr s n G := h.data.sl h.el
/-- The matrix in its variable, the answer's variable, the pivots. -/
structure DInv (w wr : World) (br r c n top gd d : Nat) (p : Nat → Nat) (v : Value) (G : Nat → Nat) : Prop where
 vr : Vr wr br (.int .i64 (r : Int)) (.int .i64 (c : Int)) (.slice (some ⟨gd, 0, none⟩) n d)
 vo : Vr wr (w.heap.size + 1) (.int .i64 0) (.int .i64 0) (.slice none 0 0)
 data : Ob wr w.heap.size (.slice (some ⟨gd, 0, none⟩) n d) n G
 piv : Oi wr w.heap.size v top p
 low : w.heap.size + 1 < br
 below : Below w.heap.size w wr
theorem DInv.later {w wr w' : World} {br r c n top gd d : Nat} {p : Nat → Nat} {v : Value} {G : Nat → Nat} (I : DInv w wr br r c n top gd d p v G) (hb : Below wr.heap.size wr w') : DInv w w' br r c n top gd d p v G :=
 ⟨I.vr.later hb, I.vo.later hb, I.data.later hb, I.piv.later hb, I.low, qa0 I.below hb⟩
/-- What Reduce's loop that takes a row off the others keeps. -/
structure EInv (w wr : World) (br r c n top gd d gr dr : Nat) (p : Nat → Nat) (v : Value) (h G : Nat → Nat) : Prop where
 vr : Vr wr br (.int .i64 (r : Int)) (.int .i64 (c : Int)) (.slice (some ⟨gd, 0, none⟩) n d)
 vo : Vr wr (w.heap.size + 1) (.int .i64 0) (.int .i64 0) (.slice none 0 0)
 data : Ob wr w.heap.size (.slice (some ⟨gd, 0, none⟩) n d) n G
 piv : Oi wr w.heap.size v top p
 row : Ob wr w.heap.size (.slice (some ⟨gr, 0, none⟩) c dr) c h
 ne : gr ≠ gd
 low : w.heap.size + 1 < br
 below : Below w.heap.size w wr
theorem EInv.later {w wr w' : World} {br r c n top gd d gr dr : Nat} {p : Nat → Nat} {v : Value} {h G : Nat → Nat} (I : EInv w wr br r c n top gd d gr dr p v h G) (hb : Below wr.heap.size wr w') : EInv w w' br r c n top gd d gr dr p v h G :=
 ⟨I.vr.later hb, I.vo.later hb, I.data.later hb, I.piv.later hb, I.row.later hb, I.ne, I.low, qa0 I.below hb⟩
theorem EInv.drew {w wr : World} {br r c n top gd d gr dr : Nat} {p : Nat → Nat} {v : Value} {h G : Nat → Nat} (I : EInv w wr br r c n top gd d gr dr p v h G) : EInv w wr.drew br r c n top gd d gr dr p v h G := I.later (Below.refl _ _).drew
theorem EInv.congr {w wr : World} {br r c n top gd d gr dr : Nat} {p : Nat → Nat} {v : Value} {h G G' : Nat → Nat} (I : EInv w wr br r c n top gd d gr dr p v h G) (e : ∀ q, q < n → G q = G' q) : EInv w wr br r c n top gd d gr dr p v h G' :=
 ⟨I.vr, I.vo, I.data.congr e, I.piv, I.row, I.ne, I.low, I.below⟩
theorem EInv.set {w wr : World} {br r c n top gd d gr dr q x : Nat} {p : Nat → Nat} {v : Value} {h G : Nat → Nat} (I : EInv w wr br r c n top gd d gr dr p v h G) : EInv w (wr.setCell ⟨gd, q, none⟩ (.int .u8 (x : Int))) br r c n top gd d gr dr p v h (fun i => if i = q then x else G i) := by
 have hg := qa3 wr gd q (.int .u8 (x : Int))
 have hb : (Value.slice (some ⟨gd, 0, none⟩) n d).ownBlock = some gd := rfl
 have h1 : br ≠ gd := fun e => qbw I.data I.vr (by rw [hb, e])
 have h2 : w.heap.size + 1 ≠ gd := fun e => qbw I.data I.vo (by rw [hb, e])
 exact ⟨I.vr.kept hg h1, I.vo.kept hg h2, I.data.set q x, I.piv.kept hg (.inr (qfx I.data I.piv hb)), I.row.kept hg (.inr (by simpa [Value.ownBlock] using I.ne)), I.ne, I.low, qa9 I.below hg (I.data.base hb).1⟩
theorem elf_lt {G h : Nat → Nat} {r c n top col : Nat} (hG : ∀ t, t < n → G t < 256) (R : Rt r c n) (hcol : col < c) (q : Nat) : ∀ t, t < n → elf G h c top col q t < 256 := by
 intro t ht
 unfold elf
 split
 ·have hl := R.len
  have : t / c < r := (Nat.div_lt_iff_lt_mul (by omega)).2 (by rw [hl]; exact ht)
  exact qbd _ _ (hG t ht) (qat _ _ (hG _ (R.at this hcol)))
 ·exact hG t ht
theorem cpf_lt {f h : Nat → Nat} {n p c : Nat} (hf : ∀ t, t < n → f t < 256) (hh : ∀ l, l < c → h l < 256) : ∀ t, t < n → cpf f h p c t < 256 := by
 intro t ht
 unfold cpf
 split
 ·exact hh _ (by omega)
 ·exact hf t ht
theorem qfy (w : World) (t : TypeId) (x : Nat) : ∀ j u, [Value.int .i64 (x : Int)][j]? = some u → (w.alloc (.cells #[.int .i64 (x : Int)] t)).cell? ((⟨w.heap.size, 0, none⟩ : Addr).add j) = some u := by
 intro j u hj
 match j, hj with
 | 0, hj => simp at hj; subst hj; simp [Addr.add]
theorem qfz (x : Nat) : ∀ u ∈ [Value.int .i64 (x : Int)], u.oneCell' = true := by intro u hu; simp at hu; subst hu; rfl
/-- After a round the loop over the columns goes on. -/
theorem EInv.next {w wr w3 : World} {br r c n top j i gd d gr dr : Nat} {p : Nat → Nat} {v v' : Value} {h G PG : Nat → Nat} {M : Nat → Nat → Nat} (o : Obj) (I : EInv w wr br r c n top gd d gr dr p v h (elf (cpf PG h (top * c) c) h c top j (r * c)))
  (hp : pkf G (zsw top i) c = PG) (R : Rt r c n) (hel : ∀ q, q < n → G q < 256) (E : Elm (m2 G r c) r top j p) (S : SpEq (m2 G r c) r M r) (hi : top ≤ i) (hir : i < r) (hj : j < c) (hne : G (i * c + j) ≠ 0) (hh : ∀ l, l < c → h l = fm (finv (G (i * c + j))) (PG (top * c + l))) (hhl : ∀ l, l < c → h l < 256)
  (hown : w3.ownsRow w.heap.size 3 1 v' (top + 1) ((irow top p).toList ++ [.int .i64 (j : Int)])) (hg : (wr.alloc o).grownBy w3 v.ownBlock) :
  RInv w w3 br r c n (top + 1) (j + 1) (fun t => if t = top then j else p t) (some ⟨gd, 0, none⟩) d v' M (elf (cpf PG h (top * c) c) h c top j (r * c)) := by
 have A := I.later (qa1 wr o)
 have hpl : ∀ q, q < n → PG q < 256 := fun q hq => by
  rw [← hp]; exact qfa hel R (fun t ht => qco (by omega) hir ht) q (by rw [R.len]; exact hq)
 obtain ⟨h1, h2⟩ := qle hel R E S hi hir hj hne rfl (by rw [hp]; exact hh)
 rw [hp] at h1 h2
 have e1 := qd7 A.piv A.vr
 have e2 := qd7 A.piv A.vo
 have e3 : v.ownBlock ≠ some gd := qfx A.data A.piv rfl
 refine ⟨A.vr.grown hg e1, A.vo.grown hg e2, A.data.kept hg (.inr (fun e => e3 e.symm)), ?_, elf_lt (cpf_lt hpl hhl) R hj _, h1, h2, hj, I.low, ?_⟩
 ·rw [qd6] at hown
  exact hown
 ·cases hv : v.ownBlock with
  | none => rw [hv] at hg; exact qa0 A.below (qa8.mp hg)
  | some g => rw [hv] at hg; exact qa9 A.below hg (A.piv.base hv).1
open Go.RowKit
theorem rred_ok (w : World) (r c n k : Nat) (a : Option Addr) (F : Nat → Nat) (ha : Sl w a n F) (h0 : a = none → n = 0 ∧ k = 0) (R : Rt r c n) :
  Calls Tryz.prog 105 #[mv r c a n k] w fun e w' => ∃ s d v top p G, e = .returned (.tuple #[mv r c s n d, v, .int .i64 0]) ∧ Ob w' w.heap.size (.slice s n d) n G ∧ Oi w' w.heap.size v top p ∧ (∀ q, q < n → G q < 256) ∧ Rdf (m2 G r c) r top p ∧ SpEq (m2 G r c) r (m2 F r c) r ∧ (∀ i, i < top → p i < c) ∧ Below w.heap.size w w' := by
 obtain ⟨wb, HW, HX⟩ : ∃ wb, Hid (wb = (w.alloc (.cells #[.int .i64 (r : Int), .int .i64 (c : Int), .slice a n k] 24)).alloc (.cells #[.int .i64 0, .int .i64 0, .slice none 0 0] 24)) ∧ Hid (Box2 w wb r c n k a) := ⟨_, rfl, box2 w r c n k a⟩
 have HR : Hid (Rt r c n) := R
 have hn := R.le
 have hr := R.r64
 have hc := R.c64
 have HSa : Hid (Sl w a n F) := ha
 have HNa : Hid (a = none → n = 0 ∧ k = 0) := h0
 obtain ⟨M, HM⟩ : ∃ M, Hid (m2 F r c = M) := ⟨_, rfl⟩
 have v0 := HX.out.va.c0
 have v1 := HX.out.va.c1
 have v2 := HX.out.va.c2
 clear ha h0 R
 go_enter Tryz.func105, Tryz.ntmps105
 go_wp2_with (first
  | (go_at_call 22; have _x := HB1; refine (qjj _ _ _ n k a F (HSa.out.later (qa0 HX.out.below HB1.out)) (by omega) HNa.out).mono ?_; rintro e w2 ⟨s0, d0, rfl, ho2, hb2⟩; have HB2 : Hid (Below wb.heap.size wb w2) := qa0 HB1.out hb2; have HO2 : Hid (Ob w2 w1.heap.size (.slice s0 n d0) n F) := ho2; have hz1 : wb.heap.size ≤ w1.heap.size := HB1.out.size; clear ho2 hb2)
  | (go_at_call 68; rw [← HW.out]; refine (qbb _ _ _ _ _ _ HR.out.p).mono ?_; rintro e w1 ⟨rfl, hb1⟩; have HB1 : Hid (Below wb.heap.size wb w1) := hb1; have a0 := (HX.out.va.later hb1).c0; have a1 := (HX.out.va.later hb1).c1; have a2 := (HX.out.va.later hb1).c2; clear hb1))
 obtain ⟨W3, HW3⟩ : ∃ W, Hid (W = w2.alloc (.cells #[.int .i64 (r : Int), .int .i64 (c : Int), .slice s0 n d0] 24)) := ⟨_, rfl⟩
 have hwb : w.heap.size + 1 < wb.heap.size := HX.out.vr.lt
 have HI0 : Hid (RInv w W3 w2.heap.size r c n 0 0 (fun _ => 0) s0 d0 (.slice none 0 0) M F) := by
  show RInv _ _ _ _ _ _ _ _ _ _ _ _ _ _
  rw [HW3.out, ← HM.out]
  have hb3 : Below w.heap.size w w2 := qa0 HX.out.below HB2.out
  exact ⟨Vr.new w2 _ _ _, (HX.out.vr.later HB2.out).later (qa1 _ _), (HO2.out.mono (by omega)).later (qa1 _ _), Oi.nil _ _ _, HSa.out.1, elm_zero _ _ _, SpEq.refl (qax HSa.out.1 HR.out) _, by omega, by have := HB2.out.size; omega, qa0 hb3 (qa1 _ _)⟩
 rw [← HW3.out]
 clear HW3 HW HX HB1 HB2 HO2 HSa HNa v0 v1 v2 a0 a1 a2 hz1 hwb
 go_loopw [6, 7] (fun sv sj wr => ∃ (top j : Nat) (p : Nat → Nat) (s : Option Addr) (d : Nat) (G : Nat → Nat), sj = .int .i64 (j : Int) ∧ RInv w wr w2.heap.size r c n top j p s d sv M G) (fun _ sj _ => c - (intOf sj).toNat)
 case atStart => exact ⟨0, 0, fun _ => 0, s0, d0, F, rfl, HI0.out⟩
 case round =>
  clear HI0
  obtain ⟨top, j, p, s, d, G, rfl, I⟩ := hrel
  obtain ⟨ps, pd, rfl, _⟩ := I.piv.form
  have HI : Hid (RInv w wr w2.heap.size r c n top j p s d (.slice ps top pd) M G) := I
  have c0 := I.vr.c0
  have c1 := I.vr.c1
  have c2 := I.vr.c2
  have htr := I.elm.tr
  have hjc := I.jc
  clear I
  by_cases hj : j < c
  ·by_cases ht : top < r
   ·go_wp2
    go_loopw [9] (fun si wi => ∃ i : Nat, top ≤ i ∧ i ≤ r ∧ si = .int .i64 (i : Int) ∧ Hid (∀ t, top ≤ t → t < i → G (t * c + j) = 0) ∧ RInv w wi w2.heap.size r c n top j p s d (.slice ps top pd) M G) (fun si _ => r - (intOf si).toNat)
    case atStart => exact ⟨top, Nat.le_refl _, by omega, rfl, fun t h1 h2 => by omega, HI.out⟩
    case round =>
     clear HI c0 c1 c2
     obtain ⟨i, hti, hir, rfl, HZ, I⟩ := hrel
     have HI : Hid (RInv w wr w2.heap.size r c n top j p s d (.slice ps top pd) M G) := I
     have c0 := I.vr.c0
     have c1 := I.vr.c1
     have c2 := I.vr.c2
     clear I
     by_cases hlt : i < r
     ·obtain ⟨y, HY⟩ : ∃ y, Hid (G (i * c + j) = y) := ⟨_, rfl⟩
      have hy : y < 256 := by rw [← HY.out]; exact HI.out.el _ (HR.out.at hlt hj)
      by_cases hy0 : y = 0
      ·subst hy0
       go_wp2_with (go_at_call 69; refine (qef _ _ c i j n d 0 s G HI.out.sl (HR.out.at hlt hj) hn HY).mono ?_; rintro e w5 ⟨rfl, hb5⟩; have HB5 : Hid (Below wr.heap.size wr w5) := hb5; clear hb5)
       exact ⟨⟨i + 1, by omega, by omega, by go_num, fun t h1 h2 => by
        by_cases e : t = i
        ·rw [e]; exact HY.out
        ·exact HZ.out t h1 (by omega), HI.out.later HB5.out⟩, by simp [intOf]; omega⟩
      ·have hyb : ((y : Int) == 0) = false := by simpa using hy0
       have hib : ((i : Int) == (r : Int)) = false := by simp; omega
       obtain ⟨i0, hi0, hz0, hz1, hz2⟩ := info_parts infoI
       have hml : r ≤ maxLen := by unfold maxLen; omega
       go_wp2_with (first
        | (go_at_call 69; refine (qef _ _ c i j n d y s G HI.out.sl (HR.out.at hlt hj) hn HY).mono ?_; rintro e w5 ⟨rfl, hb5⟩; have HI5 : Hid (RInv w w5 w2.heap.size r c n top j p s d (.slice ps top pd) M G) := HI.out.later hb5; have e0 := HI5.out.vr.c0; clear hb5)
        | (at_make; refine wpList_make_full _ rfl _ _ 34 rfl w5.heap.size 3 i0 (.int .i64 0) 1 Tryz.underlying34 hi0 hz0 hz1 .i64 .i64 _ _ r rfl rfl rfl rfl (by rw [hz2]; omega) hml (Nat.le_refl _) ?_; intro w6 hown hgrow; have HO6 : Hid (IRowAt w6 w5.heap.size r (fun _ => 0)) := made_iat hown; have HB6 : Hid (Below w5.heap.size w5 w6) := qa8.mp hgrow; clear hown hgrow))
       have k1 : w2.heap.size < w5.heap.size := HI5.out.vr.lt
       have k2 : w.heap.size + 1 < w2.heap.size := HI5.out.low
       have N1 : Hid ((Value.slice s n d).ownBlock ≠ some w5.heap.size) := fun e => by have := (HI5.out.data.base e).2; omega
       have N2 : Hid ((Value.slice ps top pd).ownBlock ≠ some w5.heap.size) := fun e => by have := (HI5.out.piv.base e).2; omega
       go_loopw [11] (fun sk wk => ∃ q : Nat, q ≤ r ∧ sk = .int .i64 (q : Int) ∧ IRowAt wk w5.heap.size r (fun t => if t < q then t else 0) ∧ RInv w wk w2.heap.size r c n top j p s d (.slice ps top pd) M G) (fun sk _ => r - (intOf sk).toNat)
       case atStart => exact ⟨0, by omega, rfl, HO6.out.congr (fun t _ => by rw [if_neg (by omega)]), HI5.out.later HB6.out⟩
       case round =>
        clear HO6 HB6 HI5 e0 HI c0 c1 c2
        obtain ⟨q, hq, rfl, hO, I⟩ := hrel
        have HI : Hid (RInv w wr w2.heap.size r c n top j p s d (.slice ps top pd) M G) := I
        have HO : Hid (IRowAt wr w5.heap.size r (fun t => if t < q then t else 0)) := hO
        have c0 := I.vr.c0
        have c1 := I.vr.c1
        have c2 := I.vr.c2
        by_cases hlq : q < r
        ·have hcq := hO.cell q hlq
         have hfq := hO.free q
         clear I hO
         go_wp2
         exact ⟨⟨q + 1, by omega, by go_num, (HO.out.set q q).congr (fun t _ => by
          by_cases e : t = q
          ·rw [if_pos e, if_pos (by omega), e]
          ·rw [if_neg e]
           by_cases h : t < q
           ·rw [if_pos h, if_pos (by omega)]
           ·rw [if_neg h, if_neg (by omega)]), HI.out.kept (qa3 _ _ _ _) (by omega) (by omega) N1.out N2.out⟩, by simp [intOf]; omega⟩
        ·have hq' : r = q := by omega
         subst hq'
         have hO1 := hO.set top i
         have g1 := hO.cell top ht
         have g2 := hO.free top
         have g3 := hO1.cell i hlt
         have g4 := hO1.free i
         obtain ⟨W7, HW7⟩ : ∃ W, Hid (W = (wr.setCell ⟨w5.heap.size, top, none⟩ (.int .i64 (i : Int))).setCell ⟨w5.heap.size, i, none⟩ (.int .i64 (top : Int))) := ⟨_, rfl⟩
         have HO7 : Hid (IRowAt W7 w5.heap.size r (zsw top i)) := by
          show IRowAt _ _ _ _
          rw [HW7.out]
          refine (hO1.set i top).congr (fun t htr => ?_)
          unfold zsw
          by_cases e1 : t = i
          ·subst e1
           rw [if_pos rfl]
           by_cases e2 : t = top
           ·rw [if_pos e2, e2]
           ·rw [if_neg e2, if_pos rfl]
          ·rw [if_neg e1]
           by_cases e2 : t = top
           ·rw [if_pos e2, if_pos e2]
           ·rw [if_neg e2, if_neg e2, if_neg e1, if_pos htr]
         have HI7 : Hid (RInv w W7 w2.heap.size r c n top j p s d (.slice ps top pd) M G) := by
          show RInv _ _ _ _ _ _ _ _ _ _ _ _ _ _
          rw [HW7.out]
          exact (I.kept (qa3 _ _ _ _) (by omega) (by omega) N1.out N2.out).kept (qa3 _ _ _ _) (by omega) (by omega) N1.out N2.out
         have hnp : 0 < n := by have := HR.out.at ht hj; omega
         obtain ⟨PG, HPG⟩ : ∃ f, Hid (pkf G (zsw top i) c = f) := ⟨_, rfl⟩
         obtain ⟨dv, HDV⟩ : ∃ x, Hid (finv y = x) := ⟨_, rfl⟩
         obtain ⟨iv, HIV⟩ : ∃ x, Hid (ive y = x) := ⟨_, rfl⟩
         have hdv : dv < 256 := by rw [← HDV.out]; exact qae _
         obtain ⟨h, HH⟩ : ∃ h, Hid ((fun l => fm dv (PG (top * c + l))) = h) := ⟨_, rfl⟩
         have HHL : Hid (∀ l, l < c → h l < 256) := fun l _ => by rw [← HH.out]; exact qat _ _ hdv
         obtain ⟨P0, HP0⟩ : ∃ x, Hid (top * c = x) := ⟨_, rfl⟩
         have hP0 : P0 + c ≤ n := by
          rw [← HP0.out, ← HR.out.len]
          have := Nat.mul_le_mul_right c (show top + 1 ≤ r from ht)
          rw [Nat.add_mul, Nat.one_mul] at this
          exact this
         have e1 : ((top : Int) * (c : Int)) = (P0 : Int) := by rw [← HP0.out]; simp
         have w1' : IntKind.i64.wrap ((top : Int) * (c : Int)) = (P0 : Int) := by rw [e1, IntKind.wrap_i64]; omega
         have HInv : Hid (∀ w, Calls Tryz.prog 113 #[.int .u8 (y : Int)] w fun e w' => e = .returned (.tuple #[.int .u8 (dv : Int), .int .i64 iv]) ∧ w = w') := by rw [← HDV.out, ← HIV.out]; exact fun w => (rinv_any y w hy).mono fun _ _ h => ⟨h.1, h.2.symm⟩
         have HY8 : Hid (PG (top * c + j) = y) := by show _ = _; rw [← HPG.out, qf9 _ _ _ _ _ hj]; unfold zsw; rw [if_pos rfl]; exact HY.out
         have HL8 : Hid (∀ t, t < n → PG t < 256) := fun t ht' => by rw [← HPG.out]; exact qfa HI.out.el HR.out (fun t ht' => qco ht hlt ht') t (by rw [HR.out.len]; exact ht')
         have b0 := HI7.out.vr.c0
         have b1 := HI7.out.vr.c1
         have b2 := HI7.out.vr.c2
         rw [HW7.out] at b0 b1 b2
         clear I hO hO1 HO
         go_wp2_with (first
          | (go_at_call 37; rw [← HW7.out]; refine (qdx _ r c n d r r n s _ G (zsw top i) HI7.out.sl HR.out HO7.out.il (fun t ht' => qco ht hlt ht') hr HR.out.len).mono ?_; rintro e w8 ⟨s8, d8, rfl, ho8, hb8⟩; obtain ⟨g8, e8⟩ := qfv ho8 hnp; subst e8; have HO8 : Hid (Ob w8 w.heap.size (.slice (some ⟨g8, 0, none⟩) n d8) n PG) := by { rw [← HPG.out]; exact qd2 ho8 HI7.out.below.size }; have HI8 : Hid (RInv w w8 w2.heap.size r c n top j p s d (.slice ps top pd) M G) := HI7.out.later hb8; have hd8 := HO8.out.room; have hd9 : ¬ (d8 = P0) := (by omega); have hd10 : ¬ (P0 = d8) := (by omega); clear ho8 hb8)
          | (go_at_call 69; have _x := HD9; refine (qef _ _ c top j n d8 y _ PG (HD9.out.data.sl HL8.out) (HR.out.at ht hj) hn HY8).mono ?_; rintro e w10 ⟨rfl, hb10⟩; have HD10 : Hid (DInv w w10 w2.heap.size r c n top g8 d8 p (.slice ps top pd) PG) := HD9.out.later hb10; have m0 := HD10.out.vr.c0; have m1 := HD10.out.vr.c1; have m2' := HD10.out.vr.c2; clear hb10)
          | (go_at_call 113; refine (HInv.out _).mono ?_; rintro e w' ⟨rfl, rfl⟩)
          | (go_at_call 38; refine (ql4 _ r c n d8 top _ PG (HD10.out.data.sl HL8.out) HR.out ht).mono ?_; rintro e w11 ⟨v11, rfl, ho11, hb11⟩; obtain ⟨s11, d11, e11, _, _⟩ := qeg ho11; subst e11; have HS11 : Hid (Sl w11 s11 c (fun l => PG (top * c + l))) := qdh ho11 (fun l hl => HL8.out _ (HR.out.at ht hl)); have HD11 : Hid (DInv w w11 w2.heap.size r c n top g8 d8 p (.slice ps top pd) PG) := HD10.out.later hb11; clear ho11 hb11)
          | (go_at_call 123; refine (qjf _ s11 c dv d11 _ hdv HS11.out (by omega)).mono ?_; rintro e w12 ⟨v12, rfl, ho12, hb12⟩; rw [HH.out] at ho12; obtain ⟨s12, d12, e12, _, _⟩ := qeg ho12; subst e12; obtain ⟨g12, e12⟩ := qfv ho12 (by omega); subst e12; have HO12 : Hid (Ob w12 w11.heap.size (.slice (some ⟨g12, 0, none⟩) c d12) c h) := ho12; have HD12 : Hid (DInv w w12 w2.heap.size r c n top g8 d8 p (.slice ps top pd) PG) := HD11.out.later hb12; have o0 := HD12.out.vr.c0; have o1 := HD12.out.vr.c1; have o2 := HD12.out.vr.c2; clear ho12 hb12)
          | (refine qcp rfl _ _ rfl w.heap.size g8 P0 n c (n - P0) d8 (d8 - P0) d12 g12 0 PG h rfl rfl HD12.out.data (HO12.out.sl HHL.out) (by omega) hP0 ?_; intro w13 HO13 HG13)
          | (refine qa6 rfl _ _ rfl w2.heap.size _ _ _ (.int .i64 (r : Int)) (.int .i64 (c : Int)) (.slice (some ⟨g8, 0, none⟩) n d8) rfl rfl HI8.out.vr rfl rfl rfl ?_; intro w9 HV9 HG9; have HD9 : Hid (DInv w w9 w2.heap.size r c n top g8 d8 p (.slice ps top pd) PG) := ⟨HV9.out, HI8.out.vo.kept HG9.out (by omega), HO8.out.kept HG9.out (.inr (qbw HO8.out HI8.out.vr)), HI8.out.piv.kept HG9.out (.inr (qd7 HI8.out.piv HI8.out.vr)), HI8.out.low, qa9 HI8.out.below HG9.out (by omega)⟩; have f0 := HV9.out.c0; have f1 := HV9.out.c1; have f2 := HV9.out.c2))
         have hg12 : g12 ≠ g8 := fun e => by
          have h1 : w11.heap.size ≤ g12 := (HO12.out.base rfl).1
          have h2 : g8 < w11.heap.size := (HD11.out.data.base rfl).2
          omega
         obtain ⟨G2, HG2⟩ : ∃ f, Hid (cpf PG h P0 c = f) := ⟨_, rfl⟩
         have HGL : Hid (∀ t, t < n → G2 t < 256) := by rw [← HG2.out]; exact cpf_lt HL8.out HHL.out
         have HE13 : Hid (EInv w w13 w2.heap.size r c n top g8 d8 g12 d12 p (.slice ps top pd) h G2) := by
          show EInv _ _ _ _ _ _ _ _ _ _ _ _ _ _ _
          rw [← HG2.out]
          have J := HD12.out
          have hb : (Value.slice (some ⟨g8, 0, none⟩) n d8).ownBlock = some g8 := rfl
          exact ⟨J.vr.kept HG13.out (fun e => qbw J.data J.vr (by rw [hb, e])), J.vo.kept HG13.out (fun e => qbw J.data J.vo (by rw [hb, e])), HO13.out, J.piv.kept HG13.out (.inr (qfx J.data J.piv hb)), (HO12.out.mono HD11.out.below.size).kept HG13.out (.inr (by simpa [Value.ownBlock] using hg12)), hg12, J.low, qa9 J.below HG13.out (J.data.base hb).1⟩
         clear HD9 HD10 HD11 HD12 HO12 HO13 HG13 HI7 HI8 HO7 HO8 HV9 HG9 HW7 HS11 f0 f1 f2 m0 m1 m2' o0 o1 o2 b0 b1 b2 g1 g2 g3 g4
         go_loopw [16] (fun sk wk => ∃ q : Nat, q ≤ r ∧ sk = .int .i64 (q : Int) ∧ EInv w wk w2.heap.size r c n top g8 d8 g12 d12 p (.slice ps top pd) h (elf G2 h c top j (q * c))) (fun sk _ => r - (intOf sk).toNat)
         case atStart => exact ⟨0, by omega, rfl, HE13.out.congr (fun t _ => by rw [Nat.zero_mul, elf_zero])⟩
         case round =>
          clear HE13
          obtain ⟨q, hq, rfl, J⟩ := hrel
          have HJ : Hid (EInv w wr w2.heap.size r c n top g8 d8 g12 d12 p (.slice ps top pd) h (elf G2 h c top j (q * c))) := J
          have c0 := J.vr.c0
          have c1 := J.vr.c1
          have c2 := J.vr.c2
          clear J
          by_cases hlq : q < r
          ·by_cases hqt : q = top
           ·have HQT : Hid (q = top) := hqt
            have g1 : ((q : Int) != (top : Int)) = false := by rw [hqt]; simp
            clear hqt
            go_wp2
            exact ⟨⟨q + 1, by omega, by go_num, HJ.out.congr (fun t _ => by rw [HQT.out, elf_skip])⟩, by simp [intOf]; omega⟩
           ·have g1 : ((q : Int) != (top : Int)) = true := by simp; omega
            have HQT : Hid (q ≠ top) := hqt
            clear hqt
            obtain ⟨cc, HCC⟩ : ∃ x, Hid (G2 (q * c + j) = x) := ⟨_, rfl⟩
            have hcc : cc < 256 := by rw [← HCC.out]; exact HGL.out _ (HR.out.at hlq hj)
            go_wp2_with (go_at_call 69; refine (qef _ _ c q j n d8 cc _ (elf G2 h c top j (q * c)) (HJ.out.data.sl (elf_lt HGL.out HR.out hj _)) (HR.out.at hlq hj) hn (by rw [qib _ _ _ _ _ _ _ (by omega)]; exact HCC)).mono ?_; rintro e w15 ⟨rfl, hb15⟩; have HJ15 : Hid (EInv w w15 w2.heap.size r c n top g8 d8 g12 d12 p (.slice ps top pd) h (elf G2 h c top j (q * c))) := HJ.out.later hb15; clear hb15)
            go_loopw [18] (fun sl wl => ∃ l : Nat, l ≤ c ∧ sl = .int .i64 (l : Int) ∧ EInv w wl w2.heap.size r c n top g8 d8 g12 d12 p (.slice ps top pd) h (elf G2 h c top j (q * c + l))) (fun sl _ => c - (intOf sl).toNat)
            case atStart => exact ⟨0, by omega, rfl, HJ15.out⟩
            case round =>
             clear HJ15 HJ c0 c1 c2
             obtain ⟨l, hl, rfl, J⟩ := hrel
             have HJ : Hid (EInv w wr w2.heap.size r c n top g8 d8 g12 d12 p (.slice ps top pd) h (elf G2 h c top j (q * c + l))) := J
             have c0 := J.vr.c0
             have c1 := J.vr.c1
             have c2 := J.vr.c2
             by_cases hll : l < c
             ·obtain ⟨P, HP⟩ : ∃ x, Hid (q * c + l = x) := ⟨_, rfl⟩
              have hpn : P < n := by rw [← HP.out]; exact HR.out.at hlq hll
              have hd := J.data.cell hpn
              have hf := J.data.free P
              obtain ⟨x, HX⟩ : ∃ x, Hid (G2 P = x) := ⟨_, rfl⟩
              rw [HP.out, qib _ _ _ _ _ _ _ (Nat.le_refl _), HX.out] at hd
              have hx : x < 256 := by rw [← HX.out]; exact HGL.out _ hpn
              have hw := J.row.cell hll
              obtain ⟨z, HZ'⟩ : ∃ x, Hid (h l = x) := ⟨_, rfl⟩
              rw [HZ'.out] at hw
              have hz : z < 256 := by rw [← HZ'.out]; exact HHL.out _ hll
              obtain ⟨v, HV⟩ : ∃ v, Hid (fm cc z = v) := ⟨_, rfl⟩
              have hv : v < 256 := by rw [← HV.out]; exact qat _ _ hcc
              have hxo : bits .xor .u8 (x : Int) (v : Int) = ((x ^^^ v : Nat) : Int) := u8_xor_nat _ _ hx hv
              have HMul : Hid (∀ w, Calls Tryz.prog 114 #[.int .u8 (cc : Int), .int .u8 (z : Int)] w fun e w' => e = .returned (.int .u8 (v : Int)) ∧ w = w') := by rw [← HV.out]; exact fun w => ql0 cc z w hcc hz
              have e1 : ((q : Int) * (c : Int)) = ((q * c : Nat) : Int) := by simp
              have hmp : q * c ≤ P := by rw [← HP.out]; omega
              have w1' : IntKind.i64.wrap ((q : Int) * (c : Int)) = (q : Int) * (c : Int) := by rw [e1, IntKind.wrap_i64]; omega
              have w2' : IntKind.i64.wrap ((q : Int) * (c : Int) + (l : Int)) = (P : Int) := by rw [e1, IntKind.wrap_i64]; have := HP.out; omega
              have p0 : (0 : Int) ≤ (P : Int) := by omega
              have p1 : (P : Int) < (n : Int) := by omega
              have p2 : (0 : Int) ≤ (l : Int) := by omega
              have p3 : (l : Int) < (c : Int) := by omega
              have HN1 : Hid (EInv w (wr.drew.setCell ⟨g8, P, none⟩ (.int .u8 (x ^^^ v : Nat))) w2.heap.size r c n top g8 d8 g12 d12 p (.slice ps top pd) h (elf G2 h c top j (q * c + (l + 1)))) := (J.drew.set (q := P) (x := x ^^^ v)).congr (fun t _ => by
               rw [← HX.out, ← HV.out, ← HCC.out, ← HZ'.out, ← HP.out]
               exact elf_step G2 h hll HQT.out t)
              clear J e1
              go_wp2
              have HD : Hid (wr.drew.cell? ⟨w2.heap.size, 1, none⟩ = some (.int .i64 (c : Int)) ∧ wr.drew.cell? ⟨w2.heap.size, 2, none⟩ = some (.slice (some ⟨g8, 0, none⟩) n d8) ∧ wr.drew.cell? ⟨g8, P, none⟩ = some (.int .u8 (x : Int)) ∧ wr.drew.cell? ⟨g12, l, none⟩ = some (.int .u8 (z : Int))) := ⟨c1, c2, hd, hw⟩
              refine qf0 (k := 18) (n := 18) (fun w' => w'.cell? ⟨w2.heap.size, 1, none⟩ = some (.int .i64 (c : Int)) ∧ w'.cell? ⟨w2.heap.size, 2, none⟩ = some (.slice (some ⟨g8, 0, none⟩) n d8) ∧ w'.cell? ⟨g8, P, none⟩ = some (.int .u8 (x : Int)) ∧ w'.cell? ⟨g12, l, none⟩ = some (.int .u8 (z : Int))) (by kernel_rfl) (by kernel_rfl) (by decide) (by rfl) ?_
              refine wtkq 0 ?v0 rfl (by kernel_rfl) (fun _ _ _ h => h) (by rfl) ?y0 HD.out ?z0
              case y0 => (intro w hSw; (try dsimp only at hSw); go_simp; try with_reducible rfl)
              try simp only [mz1, mz3, Act.put, mz4, mz5, mz6]
              refine wtkq 1 ?v1 rfl (by kernel_rfl) (fun _ _ _ h => h) (by rfl) ?y1 HD.out ?z1
              case y1 => (intro w hSw; (try dsimp only at hSw); go_simp; try with_reducible rfl)
              try simp only [mz1, mz2, mz3, Act.put, mz4, mz5, mz6]
              refine wtkq 2 ?v2 rfl (by kernel_rfl) (fun _ _ _ h => h) (by rfl) ?y2 HD.out ?z2
              case y2 => (intro w hSw; (try dsimp only at hSw); go_simp; try with_reducible rfl)
              try simp only [mz1, mz2, mz3, Act.put, mz4, mz5, mz6]
              refine wtkq 3 ?v3 rfl (by kernel_rfl) (fun _ _ _ h => h) (by rfl) ?y3 HD.out ?z3
              case y3 => (intro w hSw; (try dsimp only at hSw); go_simp; try with_reducible rfl)
              try simp only [mz1, mz2, mz3, Act.put, mz4, mz5, mz6]
              refine wtkq 4 ?v4 rfl (by kernel_rfl) (fun _ _ _ h => h) (by rfl) ?y4 HD.out ?z4
              case y4 => (intro w hSw; (try dsimp only at hSw); go_simp; try with_reducible rfl)
              try simp only [mz1, mz2, mz3, Act.put, mz4, mz5, mz6]
              refine wtkq 5 ?v5 rfl (by kernel_rfl) (fun _ _ _ h => h) (by rfl) ?y5 HD.out ?z5
              case y5 => (intro w hSw; (try dsimp only at hSw); go_simp; try with_reducible rfl)
              try simp only [mz1, mz2, mz3, Act.put, mz4, mz5, mz6]
              refine wtkq 6 ?v6 rfl (by kernel_rfl) (fun _ _ _ h => h) (by rfl) ?y6 HD.out ?z6
              case y6 => (intro w hSw; (try dsimp only at hSw); go_simp; try with_reducible rfl)
              try simp only [mz1, mz2, mz3, Act.put, mz4, mz5, mz6]
              refine wtkq 7 ?v7 rfl (by kernel_rfl) (fun _ _ _ h => h) (by rfl) ?y7 HD.out ?z7
              case y7 => (intro w hSw; (try dsimp only at hSw); go_simp; try with_reducible rfl)
              try simp only [mz1, mz2, mz3, Act.put, mz4, mz5, mz6]
              refine wtkq 8 ?v8 rfl (by kernel_rfl) (fun _ _ _ h => h) (by rfl) ?y8 HD.out ?z8
              case y8 => (intro w hSw; (try dsimp only at hSw); go_simp; try with_reducible rfl)
              try simp only [mz1, mz2, mz3, Act.put, mz4, mz5, mz6]
              refine wtkq 9 ?v9 rfl (by kernel_rfl) (fun _ _ _ h => h) (by rfl) ?y9 HD.out ?z9
              case y9 => (intro w hSw; (try dsimp only at hSw); go_simp; try with_reducible rfl)
              try simp only [mz1, mz2, mz3, Act.put, mz4, mz5, mz6]
              refine wtkq 10 ?v10 rfl (by kernel_rfl) (fun _ _ _ h => h) (by rfl) ?y10 HD.out ?z10
              case y10 => (intro w hSw; (try dsimp only at hSw); go_simp; try with_reducible rfl)
              try simp only [mz1, mz2, mz3, Act.put, mz4, mz5, mz6]
              refine wtkq 11 ?v11 rfl (by kernel_rfl) (fun _ _ _ h => h) (by rfl) ?y11 HD.out ?z11
              case y11 => (intro w hSw; (try dsimp only at hSw); go_simp; try with_reducible rfl)
              try simp only [mz1, mz2, mz3, Act.put, mz4, mz5, mz6]
              refine wtkq 12 ?v12 rfl (by kernel_rfl) (fun _ _ _ h => h) (by rfl) ?y12 HD.out ?z12
              case y12 => (intro w hSw; (try dsimp only at hSw); go_simp; try with_reducible rfl)
              try simp only [mz1, mz2, mz3, Act.put, mz4, mz5, mz6]
              refine wtkq 13 ?v13 rfl (by kernel_rfl) (fun _ _ _ h => h) (by rfl) ?y13 HD.out ?z13
              case y13 => (intro w hSw; (try dsimp only at hSw); go_simp; try with_reducible rfl)
              try simp only [mz1, mz2, mz3, Act.put, mz4, mz5, mz6]
              refine wtkq 14 ?v14 rfl (by kernel_rfl) (fun _ _ _ h => h) (by rfl) ?y14 HD.out ?z14
              case y14 => (intro w hSw; (try dsimp only at hSw); go_simp; try with_reducible rfl)
              try simp only [mz1, mz2, mz3, Act.put, mz4, mz5, mz6]
              refine wpAnyH_ready (rs := [15]) (by kernel_rfl) (by simp) ?_
              refine AllReadyH.cons rfl (fun K hK => ?_) AllReadyH.nil
              go_simp
              refine (HMul.out _).mono ?_; rintro e w' ⟨rfl, rfl⟩; dsimp only
              refine hK.out _ _ HD.out (fun _ => ?_)
              clear hK K
              try simp only [mz1, mz2, mz3, Act.put, mz4, mz5, mz6]
              refine wtkq 16 ?v16 rfl (by kernel_rfl) (fun _ _ _ h => h) (by rfl) ?y16 HD.out ?z16
              case y16 => (intro w hSw; (try dsimp only at hSw); go_simp; try with_reducible rfl)
              try simp only [mz1, mz2, mz3, Act.put, mz4, mz5, mz6]
              refine wtkq 17 ?v17 rfl (by kernel_rfl) (fun _ _ _ h => h) (by rfl) ?y17 HD.out ?z17
              case y17 => (intro w hSw; (try dsimp only at hSw); go_simp; try with_reducible rfl)
              try simp only [mz1, mz2, mz3, Act.put, mz4, mz5, mz6]
              refine wpAnyH_done (by kernel_rfl) ?_ _
              refine ql7 rfl (fun K hK => ?_)
              go_simp
              refine hK.out _ _ ?_
              clear hK K
              try simp only [mz1, mz2, mz3, Act.put, mz4, mz5, mz6]
              go_wp2
              exact ⟨⟨l + 1, by omega, by go_num, HN1.out⟩, by simp [intOf]; omega⟩
             ·obtain rfl : c = l := by omega
              clear J
              go_wp2
              exact ⟨⟨q + 1, by omega, by go_num, HJ.out.congr (fun t _ => by rw [Nat.add_mul, Nat.one_mul])⟩, by simp [intOf]; omega⟩
          ·have hqr : r = q := by omega
           subst hqr
           have hml2 : top + 1 ≤ maxLen := by unfold maxLen; omega
           have hsz : w.heap.size ≤ wr.heap.size := HJ.out.below.size
           go_wp2_with (at_builtin; refine wpList_append_own _ rfl _ _ 34 rfl w.heap.size 3 i0 (.int .i64 0) 1 8 Tryz.underlying34 hi0 hz0 hz1 hz2 rfl (by decide) _ top _ rfl (World.ownsRow.alloc HJ.out.piv _) ⟨wr.heap.size, 0, none⟩ 1 1 [.int .i64 (j : Int)] rfl rfl (qfy _ _ _) (qfz _) hml2 (by omega) (by simp; omega) ?_; intro v' w16 hown' hgrow' _; have HO16 : Hid (w16.ownsRow w.heap.size 3 1 v' (top + 1) ((irow top p).toList ++ [.int .i64 (j : Int)])) := hown'; have HG16 : Hid ((wr.alloc (.cells #[.int .i64 (j : Int)] 3)).grownBy w16 (Value.slice ps top pd).ownBlock) := hgrow'; clear hown' hgrow')
           have HE16 : EInv w wr w2.heap.size r c n top g8 d8 g12 d12 p (.slice ps top pd) h (elf (cpf PG h (top * c) c) h c top j (r * c)) := by rw [HP0.out, HG2.out]; exact HJ.out
           have HN16 := EInv.next (i := i) (G := G) _ HE16 HPG.out HR.out HI.out.el HI.out.elm HI.out.sp hti hlt hj (by rw [HY.out]; exact hy0) (fun l _ => by rw [← HH.out, ← HDV.out, HY.out]) HHL.out HO16.out HG16.out
           exact ⟨⟨top + 1, j + 1, _, _, _, _, by go_num, HN16⟩, by simp [intOf]; omega⟩
     ·obtain rfl : i = r := by omega
      go_wp2
      exact ⟨⟨top, j + 1, p, s, d, G, by go_num, HI.out.skip hj (fun t h1 h2 => HZ.out t h1 h2)⟩, by simp [intOf]; omega⟩
   ·have HTR : Hid (top = r) := Nat.le_antisymm htr (by omega)
    have HVo : Hid (Vr wr (w.heap.size + 1) (.int .i64 0) (.int .i64 0) (.slice none 0 0)) := HI.out.vo
    go_wp2_with (refine qa6 rfl _ _ rfl (w.heap.size + 1) _ _ _ (.int .i64 (r : Int)) (.int .i64 (c : Int)) (.slice s n d) rfl rfl HVo.out rfl rfl rfl ?_; intro w4 HV4 HG4)
    have d0 := HV4.out.c0
    have d1 := HV4.out.c1
    have d2 := HV4.out.c2
    refine bodyPost_ret (v := .tuple #[mv r c s n d, .slice ps top pd, .int .i64 0]) (by simp [results, Tryz.results105, go_sem, d0, d1, d2, mv]) rfl ?_
    have J := HI.out
    exact ⟨s, d, _, top, p, G, rfl, J.data.kept HG4.out (.inr (qbw J.data J.vo)), J.piv.kept HG4.out (.inr (qd7 J.piv J.vo)), J.el, J.elm.rdf (.inl HTR.out), by rw [HM.out]; exact J.sp, fun i hi => by have := J.elm.lt i hi; omega, qa9 J.below HG4.out (by omega)⟩
  ·have HVo : Hid (Vr wr (w.heap.size + 1) (.int .i64 0) (.int .i64 0) (.slice none 0 0)) := HI.out.vo
   go_wp2_with (refine qa6 rfl _ _ rfl (w.heap.size + 1) _ _ _ (.int .i64 (r : Int)) (.int .i64 (c : Int)) (.slice s n d) rfl rfl HVo.out rfl rfl rfl ?_; intro w4 HV4 HG4)
   have d0 := HV4.out.c0
   have d1 := HV4.out.c1
   have d2 := HV4.out.c2
   refine bodyPost_ret (v := .tuple #[mv r c s n d, .slice ps top pd, .int .i64 0]) (by simp [results, Tryz.results105, go_sem, d0, d1, d2, mv]) rfl ?_
   have J := HI.out
   exact ⟨s, d, _, top, p, G, rfl, J.data.kept HG4.out (.inr (qbw J.data J.vo)), J.piv.kept HG4.out (.inr (qd7 J.piv J.vo)), J.el, J.elm.rdf (.inr (fun _ l _ hl => qaf _ (by omega))), by rw [HM.out]; exact J.sp, fun i hi => by have := J.elm.lt i hi; omega, qa9 J.below HG4.out (by omega)⟩
open Go.RowKit
/-- What the reference's Reduce answers of a right matrix. -/
def RedA (w w' : World) (e : Ending) (r c n : Nat) (F : Nat → Nat) : Prop := ∃ s d ps pd top p G, e = .returned (.tuple #[mv r c s n d, .slice ps top pd, .int .i64 0]) ∧ Ob w' w.heap.size (.slice s n d) n G ∧ Oi w' w.heap.size (.slice ps top pd) top p ∧ (∀ q, q < n → G q < 256) ∧ Rdf (m2 G r c) r top p ∧ SpEq (m2 G r c) r (m2 F r c) r ∧ (∀ i, i < top → p i < c) ∧ Below w.heap.size w w'
theorem rred_a (w : World) (r c n k : Nat) (a : Option Addr) (F : Nat → Nat) (ha : Sl w a n F) (h0 : a = none → n = 0 ∧ k = 0) (R : Rt r c n) : Calls Tryz.prog 105 #[mv r c a n k] w fun e w' => RedA w w' e r c n F :=
 (rred_ok w r c n k a F ha h0 R).mono fun _ _ ⟨s, d, _, top, p, G, he, ho, hi, hr⟩ => by
  obtain ⟨ps, pd, rfl, _⟩ := hi.form
  exact ⟨s, d, ps, pd, top, p, G, he, ho, hi, hr⟩
theorem qg0 (w : World) (r c n k : Nat) (a : Option Addr) (F : Nat → Nat) (ha : Sl w a n F) (h0 : a = none → n = 0 ∧ k = 0) (R : Rt r c n) :
  Calls Tryz.prog 84 #[mv r c a n k] w fun e w' => ∃ t : Nat, e = .returned (.tuple #[.int .i64 (t : Int), .int .i64 0]) ∧ Rk (m2 F r c) r t ∧ Below w.heap.size w w' := by
 have HC : Hid (∀ w', Below w.heap.size w w' → Calls Tryz.prog 105 #[mv r c a n k] w' fun e w'' => RedA w' w'' e r c n F) := fun w' h' => rred_a w' r c n k a F (ha.later h') h0 R
 have HRt : Hid (Rt r c n) := R
 clear ha h0 R
 go_enter Tryz.func84, Tryz.ntmps84
 go_wp2_with (go_at_call 105; refine (HC.out _ (qa1 _ _)).mono ?_; rintro e w1 ⟨s, d, ps, pd, top, p, G, rfl, _, _, hG, hR, hS, _, hb1⟩; have HB1 : Hid (Below w.heap.size w w1) := qa0 (qa1 _ _) hb1; have HK : Hid (Rk (m2 F r c) r top) := (hR.rk (qax hG HRt.out)).span hS; clear hb1 hR hS hG)
 go_ret2
 exact ⟨top, rfl, HK.out, qa0 HB1.out (qa1 _ _)⟩
end Go.Proofs.YtblagbghpfopcaaGreat
