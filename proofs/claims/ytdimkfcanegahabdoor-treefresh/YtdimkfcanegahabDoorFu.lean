/-
  Contract of the law's own function spoil; memory whose lists may be written over.
-/
import Derived.Test.YtdimkfcanegahabDoorFt
namespace Go.Proofs.YtdimkfcanegahabDoor
open Go.RowKit
/-- Lists of expressions may have been written over, nothing else. -/
structure Kt (B : Nat) (w w' : World) : Prop where
  low : Below B w w'
  x : ∀ b xs, Vn w b 32 xs → ∃ ys, Vn w' b 32 ys ∧ ys.size = xs.size
  l : ∀ b xs, Vn w b 30 xs → Vn w' b 30 xs
theorem Kt.trans {B : Nat} {w v u : World} (h : Kt B w v) (g : Kt B v u) : Kt B w u := ⟨h.low.trans g.low, fun b xs hv => by
  obtain ⟨ys, h1, h2⟩ := h.x b xs hv
  obtain ⟨zs, h3, h4⟩ := g.x b ys h1
  exact ⟨zs, h3, by omega⟩, fun b xs hv => g.l b xs (h.l b xs hv)⟩
theorem Kt.of {B : Nat} {w v : World} (h : Below w.heap.size w v) (hB : B ≤ w.heap.size) : Kt B w v := ⟨h.mono hB, fun _ xs hv => ⟨xs, hv.later h, rfl⟩, fun _ _ hv => hv.later h⟩
theorem vn_ty {w : World} {b : Nat} {T U : TypeId} {xs ys : Array Value} (h : Vn w b T xs) (g : Vn w b U ys) : T = U := by
  unfold Vn at *
  rw [h] at g
  cases g
  rfl
/-- One block alone may have been changed. -/
structure Kg (B g : Nat) (w w' : World) : Prop where
  low : Below B w w'
  same : ∀ b, b ≠ g → b < w.heap.size → w'.heap[b]? = w.heap[b]?
theorem Kg.trans {B g : Nat} {w v u : World} (h : Kg B g w v) (k : Kg B g v u) : Kg B g w u := ⟨h.low.trans k.low, fun b hb hl => by rw [k.same b hb (Nat.lt_of_lt_of_le hl h.low.size), h.same b hb hl]⟩
theorem Kg.vn {B g : Nat} {w w' : World} (h : Kg B g w w') {b : Nat} {T : TypeId} {xs : Array Value} (hv : Vn w b T xs) (hb : b ≠ g) : Vn w' b T xs := by
  have hl := hv.lt
  unfold Vn at *
  rw [h.same b hb hl]
  exact hv
theorem kg_of {B g : Nat} {w w' : World} (ha : ∀ s, g < s → Ag s w w') (hb : ∀ B, B ≤ g → Below B w w') (hB : B ≤ g) : Kg B g w w' := ⟨hb B hB, fun b hne hl => by
  rcases Nat.lt_or_ge b g with h | h
  · exact (hb g (Nat.le_refl _)).block b h
  · exact (ha (g + 1) (by omega)).same b (by omega) hl⟩
set_option maxRecDepth 20000 in
set_option maxHeartbeats 4000000 in
theorem spoil_t (w : World) (B : Nat) (x : Option Addr) (m c : Nat) (hm : m ≤ 64) (h : Nb B w x m 32 6) (hB : B ≤ w.heap.size) :
    Calls Tryd.prog 6 #[.slice x m c] w fun e w' => e = .returned (.tuple #[]) ∧ Kt B w w' ∧ ∀ b xs, Vn w b 41 xs → Vn w' b 41 xs := by
  rcases h with ⟨rfl, rfl⟩ | ⟨g, cs, rfl, hg, hV, hc⟩
  · show Calls _ _ #[.slice none 0 c] _ _
    go_enter Tryd.func6, Tryd.ntmps6
    go_wp2
    go_loopw [2] (fun vi wr => vi = .int .i64 0 ∧ wr = w) (fun _ _ => 0)
    case atStart => exact ⟨rfl, rfl⟩
    case round =>
      obtain ⟨rfl, rfl⟩ := hrel
      go_wp2
      go_end0
      exact ⟨rfl, ⟨Below.refl _ _, fun _ xs hv => ⟨xs, hv, rfl⟩, fun _ _ hv => hv⟩, fun _ _ hv => hv⟩
  · have HV := jhid9 hV
    have HC := jhid9 hc
    clear hV hc
    go_enter Tryd.func6, Tryd.ntmps6
    go_wp2
    go_loopw [2] (fun vi wr => ∃ (i : Nat) (ys : Array Value), i ≤ m ∧ vi = .int .i64 (i : Int) ∧ Hid (Vn wr g 32 ys) ∧ Hid (ys.size = m * 6) ∧ Hid (Kg B g w wr)) (fun vi _ => m - (intOf vi).toNat)
    case atStart => exact ⟨0, cs, by omega, rfl, HV, HC, ⟨Below.refl _ _, fun _ _ _ => rfl⟩⟩
    case round =>
      obtain ⟨i, ys, hi, rfl, HVy, HCy, HK⟩ := hrel
      by_cases hlt : i < m
      · have p0 : (0 : Int) ≤ (i : Int) := by omega
        have p1 : (i : Int) < (m : Int) := by omega
        have M1 : True := trivial
        go_wp2_with (clear M1; refine wpList_store_spl rfl 32 _ _ rfl g (i * 6) 32 ys #[.int .u8 1, .int .i64 77, .string ⟨#[]⟩, .slice none 0 0, .int .i64 0, .int .i64 0] (by first | rfl | simp) rfl sizeX (all6 rfl rfl rfl rfl rfl rfl) HVy.out (by rw [HCy.out]; show i * 6 + 6 ≤ m * 6; omega) ?_; intro w4 HV4 HA4 HB4)
        exact ⟨⟨i + 1, _, by omega, by go_num, HV4, (spl_size _ _ _).trans HCy.out, HK.out.trans (kg_of HA4.out HB4.out hg)⟩, by simp [intOf]; omega⟩
      · obtain rfl : i = m := by omega
        go_wp2
        go_end0
        refine ⟨rfl, ⟨HK.out.low, fun b xs hv => ?_, fun b xs hv => HK.out.vn hv (fun e => ?_)⟩, fun b xs hv => HK.out.vn hv (fun e => ?_)⟩
        · by_cases hb : b = g
          · subst hb
            refine ⟨ys, HVy.out, ?_⟩
            have e : xs = cs := by
              have h1 := hv
              have h2 := HV.out
              unfold Vn at h1 h2
              rw [h1] at h2
              cases h2
              rfl
            rw [HCy.out, e, HC.out]
          · exact ⟨xs, HK.out.vn hv hb, rfl⟩
        · subst e
          have := vn_ty hv HV.out
          revert this
          decide
        · subst e
          have := vn_ty hv HV.out
          revert this
          decide
theorem Nb.kt {B s : Nat} {w w' : World} {a : Option Addr} {n : Nat} (h : Nb s w a n 32 6) (k : Kt B w w') : Nb s w' a n 32 6 := by
  rcases h with h | ⟨g, cs, h1, h2, h3, h4⟩
  · exact .inl h
  · obtain ⟨ys, y1, y2⟩ := k.x g cs h3
    exact .inr ⟨g, ys, h1, h2, y1, by omega⟩
/-- The lists of an item, new and of their lengths. -/
def PT (B : Nat) (w : World) (ys : List Value) (I : It) : Prop := ∃ va aa ra la, ys[5]? = some (.slice va (I.val []).len (I.val []).len) ∧ Nb B w va (I.val []).len 32 6 ∧ ys[10]? = some (.slice aa (I.shp []).na (I.shp []).na) ∧ Nb B w aa (I.shp []).na 32 6 ∧ ys[12]? = some (.slice ra (I.shp []).nr (I.shp []).nr) ∧ (∀ q, q < (I.shp []).nr → ∃ g rs x, ra = some ⟨g, 0, none⟩ ∧ Vn w g 30 rs ∧ rs[q]? = some (.slice x ((I.shp []).rl q) ((I.shp []).rl q)) ∧ Nb B w x ((I.shp []).rl q) 32 6) ∧ ys[16]? = some (.slice la I.nl I.nl) ∧ Nb B w la I.nl 32 6
theorem PT.kt {B : Nat} {w w' : World} {ys : List Value} {I : It} (h : PT B w ys I) (k : Kt B w w') : PT B w' ys I := by
  obtain ⟨va, aa, ra, la, a1, a2, a3, a4, a5, a6, a7, a8⟩ := h
  refine ⟨va, aa, ra, la, a1, a2.kt k, a3, a4.kt k, a5, fun q hq => ?_, a7, a8.kt k⟩
  obtain ⟨g, rs, x, e, hv, hr, hx⟩ := a6 q hq
  exact ⟨g, rs, x, e, k.l g rs hv, hr, hx.kt k⟩
theorem INew.pt {B : Nat} {w : World} {ys : List Value} {I : It} (h : INew B w ys I) : PT B w ys I := by
  obtain ⟨_, va, aa, ra, la, a1, a2, a3, a4, a5, a6, a7, a8⟩ := h
  refine ⟨va, aa, ra, la, a1, a2, a3, a4, a5, fun q hq => ?_, a7, a8⟩
  obtain ⟨g, x, e, hc, hx⟩ := a6.2 q hq
  rcases a6.1 with ⟨h0, _⟩ | ⟨g2, rs, e2, _, hv, hs⟩
  · omega
  · rw [e] at e2
    cases e2
    have hq2 : q < rs.size := by omega
    refine ⟨g, rs, x, e, hv, ?_, hx.2⟩
    have h2 := hv.cell q _ (Array.getElem?_eq_getElem hq2)
    rw [hc] at h2
    rw [Array.getElem?_eq_getElem hq2]
    exact h2.symm ▸ rfl
theorem kt_item {B g : Nat} {w w' : World} {cs : Array Value} (hV : Vn w g 41 cs) (k : Kg B g w w') : Kt B w w' := ⟨k.low, fun b xs hv => ⟨xs, k.vn hv (fun e => by
  subst e
  have := vn_ty hv hV
  revert this
  decide), rfl⟩, fun b xs hv => k.vn hv (fun e => by
  subst e
  have := vn_ty hv hV
  revert this
  decide)⟩
theorem pick_list {n : Nat} {P : Nat → List Value → Prop} (h : ∀ j, j < n → ∃ ys, P j ys) : ∃ Y : Nat → List Value, ∀ j, j < n → P j (Y j) := pickc [] h
end Go.Proofs.YtdimkfcanegahabDoor
