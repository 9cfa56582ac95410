/-
  Contract of the polynomials' reference: DivMod.
-/
import Derived.Test.YthpjedoolbfjfabRd
import Derived.Test.YthpjedoolbfjfabWg
namespace Go.Proofs.Ythpjedoolbfjfab
open Go.RowKit
/-- What a division answers: quotient Q, remainder R of r coefficients. -/
structure DivOk (P q Q R : Nat → Nat) (t r : Nat) : Prop where
  el : El Q
  above : Above 512 Q
  trimmed : tlen R r = r
  less : r < t
  bytes : ∀ i, i < r → R i < 256
  eq : ∀ i, P i = pa (pm Q q) (zx R r) i
theorem own_set {w : World} {base g n cp j v : Nat} {f : Nat → Nat} (h : w.ownsRow base 5 1 (.slice (some ⟨g, 0, none⟩) n cp) n (row n f).toList) :
    (w.setCell ⟨g, j, none⟩ (.int .u8 (v : Int))).ownsRow base 5 1 (.slice (some ⟨g, 0, none⟩) n cp) n (row n (fun i => if i = j then v else f i)).toList := by
  have := (h.stored j (.int .u8 (v : Int))).1
  rw [← row_set, Array.toList_setIfInBounds]
  exact this
theorem own_cong {w : World} {base n : Nat} {v : Value} {f f' : Nat → Nat} (h : w.ownsRow base 5 1 v n (row n f).toList) (e : ∀ i, i < n → f i = f' i) : w.ownsRow base 5 1 v n (row n f').toList := by
  rw [← row_congr n f f' e]; exact h
theorem own_byte {w : World} {base g n cp j : Nat} {f : Nat → Nat} (h : w.ownsRow base 5 1 (.slice (some ⟨g, 0, none⟩) n cp) n (row n f).toList) (hj : j < n) : w.cell? ⟨g, j, none⟩ = some (.int .u8 (f j : Nat)) := by
  rw [h.cellAt j (by omega), Array.getElem?_toList, row_get n f j hj]
theorem own_block {w : World} {base g n cp : Nat} {xs : List Value} (h : w.ownsRow base 5 1 (.slice (some ⟨g, 0, none⟩) n cp) n xs) : base ≤ g ∧ g < w.heap.size := by
  rcases h.2 with ⟨h', _⟩ | ⟨g', cap', cur, h', hb, hg, _⟩
  · simp at h'
  · simp only [Value.slice.injEq, Option.some.injEq, Addr.mk.injEq, and_true, true_and] at h'
    obtain ⟨rfl, rfl⟩ := h'
    exact ⟨hb, lt_of_block hg⟩
theorem own_kept {w w' : World} {base n g : Nat} {v : Value} {xs : List Value} (h : w.ownsRow base 5 1 v n xs) (hg : w.grownBy w' (some g)) (hne : v.ownBlock ≠ some g) : w'.ownsRow base 5 1 v n xs :=
  h.kept hg (.inr hne)
theorem sl_setCell {w : World} {a : Option Addr} {n g j : Nat} {v : Value} {f : Nat → Nat} (h : Sl w a n f) (ho : Off g a) : Sl (w.setCell ⟨g, j, none⟩ v) a n f := h.kept (grown_setCell w g j v) ho
/-- What the loop of a division keeps. -/
structure DivInv (w wr : World) (B gq : Nat) (v : Value) (sq : Option Addr) (P h Q R : Nat → Nat) (t r k : Nat) (s : Option Addr) : Prop where
  val : v = .slice s r k
  own : wr.ownsRow B 5 1 (.slice s r k) r (row r R).toList
  quo : RowAt wr gq 5 512 Q
  den : Sl wr sq t h
  below : Below w.heap.size w wr
  ne : (Value.slice s r k).ownBlock ≠ some gq
  el : El Q
  above : Above 512 Q
  trimmed : tlen R r = r
  bytes : ∀ i, i < r → R i < 256
  eq : ∀ i, P i = pa (pm Q (zx h t)) (zx R r) i
  low : ∀ i, i + t ≤ r → Q i = 0
  le : r ≤ 512
def vlen : Value → Nat
  | .slice _ n _ => n
  | _ => 0
theorem own_mono {w : World} {B B' n : Nat} {v : Value} {xs : List Value} (h : w.ownsRow B 5 1 v n xs) (hB : B' ≤ B) : w.ownsRow B' 5 1 v n xs := by
  refine ⟨h.1, ?_⟩
  rcases h.2 with h' | ⟨g, cap, cur, e, hb, r⟩
  · exact .inl h'
  · exact .inr ⟨g, cap, cur, e, by omega, r⟩
theorem own_lt {w : World} {B n : Nat} {v : Value} {xs : List Value} (h : w.ownsRow B 5 1 v n xs) : v.ownBlock ≠ some w.heap.size := by
  rcases h.2 with ⟨rfl, _⟩ | ⟨g, cap, cur, rfl, hb, hg, _⟩
  · simp [Value.ownBlock]
  · have := lt_of_block hg
    simp [Value.ownBlock]; omega
theorem own_ge {w : World} {B n g : Nat} {v : Value} {xs : List Value} (h : w.ownsRow B 5 1 v n xs) (hg : g < B) : v.ownBlock ≠ some g := fun e => by have := own_base h g e; omega
theorem row_lk {w : World} {g n : Nat} {f : Nat → Nat} (h : RowAt w g 5 n f) (hf : ∀ i, i < n → f i < 256) (hn : n ≤ 140737488351232) : Lk w (some ⟨g, 0, none⟩) n n f :=
  ⟨h.sl hf, Nat.le_refl _, fun e => (by cases e), hn⟩
/-- The loop's beginning. -/
theorem div_begin {w w4 w5 : World} {B t1 k4 u n : Nat} {s4 sq : Option Addr} {f h : Nat → Nat} (ho : w4.ownsRow B 5 1 (.slice s4 t1 k4) t1 (row t1 f).toList) (hw : Below w.heap.size w w4) (hs : Sl w4 sq (u + 1) h) (hg : w4.grownBy w5 none) (hq : RowAt w5 w4.heap.size 5 512 (fun _ => 0)) (h1 : tlen f n = t1) (hf : ∀ i, i < n → f i < 256) (hl : t1 ≤ 512) :
    DivInv w w5 B w4.heap.size (.slice s4 t1 k4) sq (zx f n) h (fun _ => 0) f (u + 1) t1 k4 s4 where
  val := rfl
  own := ho.kept hg (by cases hv : (Value.slice s4 t1 k4).ownBlock <;> simp)
  quo := hq
  den := hs.later (grown_none.mp hg)
  below := two_below hw (grown_none.mp hg)
  ne := own_lt ho
  el := fun _ => (by decide : 0 < 256)
  above := fun _ _ => rfl
  trimmed := by rw [← h1, tlen_idem]
  bytes := fun i hi => hf i (by have := tlen_le f n; omega)
  eq := fun i => by
    show zx f n i = pm (fun _ => 0) _ i ^^^ zx f t1 i
    rw [show pm (fun _ => 0) (zx h (u + 1)) i = 0 from xs_zero (fun _ _ => zero_fm _), Nat.zero_xor, ← h1, zx_tlen]
  low := fun _ _ => rfl
  le := hl
/-- The inner loop's invariant. -/
structure DivIn (w wi : World) (B gq g : Nat) (sq : Option Addr) (h Q R : Nat → Nat) (u dd kr z k : Nat) : Prop where
  own : wi.ownsRow B 5 1 (.slice (some ⟨g, 0, none⟩) (u + dd + 1) kr) (u + dd + 1) (row (u + dd + 1) (rs R h z dd k)).toList
  quo : RowAt wi gq 5 512 (qs Q z dd)
  den : Sl wi sq (u + 1) h
  below : Below w.heap.size w wi
theorem divin_begin {w wr : World} {B gq g : Nat} {v : Value} {sq : Option Addr} {P h Q R : Nat → Nat} {u dd kr z : Nat} (I : DivInv w wr B gq v sq P h Q R (u + 1) (u + dd + 1) kr (some ⟨g, 0, none⟩)) (hg : w.heap.size ≤ gq) (ho : Off gq sq) :
    DivIn w (wr.setCell ⟨gq, dd, none⟩ (.int .u8 (z : Int))) B gq g sq h Q R u dd kr z 0 where
  own := own_cong (own_kept I.own (grown_setCell _ _ _ _) I.ne) (fun i _ => (rs_zero R h z dd i).symm)
  quo := I.quo.set dd z
  den := sl_setCell I.den ho
  below := I.below.setCell hg _
theorem divin_step {w wi : World} {B gq g : Nat} {sq : Option Addr} {h Q R : Nat → Nat} {u dd kr z k v : Nat} (I : DivIn w wi B gq g sq h Q R u dd kr z k) (hv : v = R (dd + k) ^^^ fm z (h k)) (hB : w.heap.size ≤ B) (hne : gq ≠ g) (ho : Off g sq) :
    DivIn w (wi.setCell ⟨g, dd + k, none⟩ (.int .u8 (v : Int))) B gq g sq h Q R u dd kr z (k + 1) where
  own := own_cong (own_set I.own) (fun i _ => by rw [rs_step, hv])
  quo := I.quo.other _ _ hne
  den := sl_setCell I.den ho
  below := I.below.setCell (by have := (own_block I.own).1; show w.heap.size ≤ g; omega) _
theorem DivIn.drew {w wi : World} {B gq g : Nat} {sq : Option Addr} {h Q R : Nat → Nat} {u dd kr z k : Nat} (I : DivIn w wi B gq g sq h Q R u dd kr z k) : DivIn w wi.drew B gq g sq h Q R u dd kr z k := ⟨I.own, I.quo, I.den, I.below.drew⟩
/-- Behind the inner loop, and Trim. -/
theorem div_next {w wr wi w7 : World} {B gq g : Nat} {v : Value} {sq s7 : Option Addr} {P h Q R : Nat → Nat} {u dd kr k7 z r7 : Nat} (I : DivInv w wr B gq v sq P h Q R (u + 1) (u + dd + 1) kr (some ⟨g, 0, none⟩)) (N : DivIn w wi B gq g sq h Q R u dd kr z (u + 1))
    (hz : z = fm (R (u + dd)) (finv (h u))) (hh : h u < 256) (h0 : h u ≠ 0) (hr : tlen (rs R h z dd (u + 1)) (u + dd + 1) = r7)
    (ho : w7.ownsRow wi.heap.size 5 1 (.slice s7 r7 k7) r7 (row r7 (rs R h z dd (u + 1))).toList) (hb : Below wi.heap.size wi w7) (hBi : B ≤ wi.heap.size) :
    DivInv w w7 B gq (.slice s7 r7 k7) sq P h (qs Q z dd) (rs R h z dd (u + 1)) (u + 1) r7 k7 s7 ∧ r7 < u + dd + 1 := by
  have hR := I.bytes (u + dd) (by omega)
  have hzl : z < 256 := by rw [hz]; exact fm_lt _ _ hR
  have tg : rs R h z dd (u + 1) (u + dd + 1 - 1) = 0 := by
    have := top_gone (R := R) (h := h) (d := dd) (t := u + 1) (by omega) (by rw [show dd + (u + 1) - 1 = u + dd by omega]; exact hR) (by simpa using hh) (by simpa using h0)
    rw [show dd + (u + 1) - 1 = u + dd by omega, show u + 1 - 1 = u by omega, ← hz] at this
    exact this
  have lt7 : r7 < u + dd + 1 := by rw [← hr]; exact tlen_gone (by omega) tg
  have dle := I.le
  refine ⟨{ val := rfl, own := own_mono ho hBi, quo := N.quo.later hb, den := N.den.later hb, below := two_below N.below hb, ne := own_ge ho N.quo.lt, el := ?_, above := ?_, trimmed := by rw [← hr, tlen_idem], bytes := ?_, eq := ?_, low := ?_, le := by omega }, lt7⟩
  · intro i; unfold qs; split
    · exact hzl
    · exact I.el i
  · intro i hi; unfold qs; rw [if_neg (by omega)]; exact I.above i hi
  · intro i hi; exact rs_lt I.bytes hzl i (by omega)
  · have q0 : Q dd = 0 := I.low dd (by omega)
    have e := I.eq
    rw [show u + dd + 1 = dd + (u + 1) by omega] at e
    have := div_step (q := zx h (u + 1)) I.el hzl (fun _ => rfl) q0 e
    intro i
    rw [this i]
    show _ ^^^ zx (rs R h z dd (u + 1)) (dd + (u + 1)) i = _ ^^^ zx (rs R h z dd (u + 1)) r7 i
    rw [← hr, zx_tlen, show u + dd + 1 = dd + (u + 1) by omega]
  · intro i hi; unfold qs; rw [if_neg (by omega)]; exact I.low i (by omega)
end Go.Proofs.Ythpjedoolbfjfab
