/-
  Contracts of the program's tree: items that are the same; Same.
-/
import Derived.Test.YtnjcpmkfghcogaaGreatDoorQbbks00
import Derived.Test.YtnjcpmkfghcogaaGreatDoorQbbks25
set_option maxRecDepth 100000
set_option maxHeartbeats 16000000
namespace Go.Proofs.YtnjcpmkfghcogaaGreatDoor
open Go.RowKit
def IVc (w : World) (X : List Value) (I : It) : Prop := ∃ (k pl nl vk vl vc sk na ca np cp nr cr lc : Nat) (nm vm sm : ByteArray) (vn vln vcl sln scl ln cl : Int) (va aa pa ra la : Option Addr) (T : Xt) (S : St) (G : Nat → Xt), X = [.int .u8 (k : Int), .string nm, .int .u8 (vk : Int), .int .i64 vn, .string vm, .slice va vl vc, .int .i64 vln, .int .i64 vcl, .int .u8 (sk : Int), .string sm, .slice aa na ca, .slice pa np cp, .slice ra nr cr, .int .i64 sln, .int .i64 scl, .int .u8 (pl : Int), .slice la nl lc, .int .i64 ln, .int .i64 cl] ∧ I = ⟨k, nm, T, S, pl, nl, G, ln, cl⟩ ∧ XV w (.agg #[.int .u8 (vk : Int), .int .i64 vn, .string vm, .slice va vl vc, .int .i64 vln, .int .i64 vcl]) T ∧ SV w (.agg #[.int .u8 (sk : Int), .string sm, .slice aa na ca, .slice pa np cp, .slice ra nr cr, .int .i64 sln, .int .i64 scl]) S ∧ (∀ d, XL d w la nl G) ∧ nl ≤ 140737488351232
theorem Its.cells {w : World} {a : Option Addr} {n : Nat} {F : Nat → It} (h : Its w a n F) : ∃ C : Nat → List Value, ∀ i, i < n → (∃ b o, a = some ⟨b, o, none⟩ ∧ (C i).length = 19 ∧ (C i).toArray.all (·.oneCell') = true ∧ ∀ w', Below w.heap.size w w' → w'.rangeAt b (o + i * 19) (C i)) ∧ IVc w (C i) (F i) := by
 refine pickc (P := fun i X => (∃ b o, a = some ⟨b, o, none⟩ ∧ X.length = 19 ∧ X.toArray.all (·.oneCell') = true ∧ ∀ w', Below w.heap.size w w' → w'.rangeAt b (o + i * 19) X) ∧ IVc w X (F i)) [] (fun i hi => ?_)
 obtain ⟨b, o, k, pl, nl, vk, vl, vc, sk, na, ca, np, cp, nr, cr, lc, nm, vm, sm, vn, vln, vcl, sln, scl, ln, cl, va, aa, pa, ra, la, T, S, G, rfl, hF, hT, hS, hG, k8, p8, hnm, hnl, hcl⟩ := h.at_ hi
 exact ⟨[.int .u8 (k : Int), .string nm, .int .u8 (vk : Int), .int .i64 vn, .string vm, .slice va vl vc, .int .i64 vln, .int .i64 vcl, .int .u8 (sk : Int), .string sm, .slice aa na ca, .slice pa np cp, .slice ra nr cr, .int .i64 sln, .int .i64 scl, .int .u8 (pl : Int), .slice la nl lc, .int .i64 ln, .int .i64 cl], ⟨b, o, rfl, rfl, qbn rfl rfl rfl rfl rfl rfl rfl rfl rfl rfl rfl rfl rfl rfl rfl rfl rfl rfl rfl, hcl⟩, k, pl, nl, vk, vl, vc, sk, na, ca, np, cp, nr, cr, lc, nm, vm, sm, vn, vln, vcl, sln, scl, ln, cl, va, aa, pa, ra, la, T, S, G, rfl, hF, hT, hS, hG, hnl⟩
def liB (I J : It) : Bool := decide (I.k = J.k) && (decide (I.nm = J.nm) && (decide (I.pl = J.pl) && (lkB 16 I.val J.val && (lsB 16 I.shp J.shp && llB I.list J.list 16 I.nl J.nl))))
theorem li_iff {I J : It} : liB I J = true ↔ ilk I J := by
 unfold liB ilk
 simp only [Bool.and_eq_true, decide_eq_true_eq, lk_iff, ls_iff, ll_iff]
 exact ⟨fun ⟨h1, h2, h3, h4, h5, h6, h7⟩ => ⟨h1, h3, h2, h4, h5, h6, h7⟩, fun ⟨h1, h3, h2, h4, h5, h6, h7⟩ => ⟨h1, h2, h3, h4, h5, h6, h7⟩⟩
theorem MI.fin {I : It} (h : MI I) : FinX 16 I.val ∧ FinS 16 I.shp ∧ ∀ i, i < I.nl → FinX 16 (I.list i) := by
 rcases h with ⟨k1, p1, n1, v1, s1, l1⟩ | ⟨k1, p1, n1, v1, s1, l1⟩ | ⟨k1, p1, n1, v1, s1, l1⟩ | ⟨k1, p1, n1, v1, s1, l1⟩ | ⟨k1, p1, n1, v1, s1, l1⟩ | ⟨k1, p1, n1, v1, s1, l1⟩ | ⟨k1, p1, n1, v1, s1, l1⟩ | ⟨k1, p1, n1, v1, s1, l1⟩ | ⟨k1, p1, n1, v1, s1, l1, l2⟩
 ·exact ⟨v1.fin, s1.fin, fun i hi => by omega⟩
 ·exact ⟨v1.fin, s1.fin, fun i hi => by omega⟩
 ·exact ⟨v1.fin, s1.fin, fun i hi => by omega⟩
 ·exact ⟨v1.fin, s1.fin, fun i hi => by omega⟩
 ·exact ⟨v1.fin, s1.fin, fun i hi => by omega⟩
 ·exact ⟨v1.fin, s1.fin, fun i hi => by omega⟩
 ·exact ⟨v1.fin, s1.fin, fun i hi => by omega⟩
 ·exact ⟨v1.fin, s1.fin, fun i hi => by omega⟩
 ·exact ⟨v1.fin, s1.fin, fun i hi => (l2 i hi).fin⟩
end Go.Proofs.YtnjcpmkfghcogaaGreatDoor
