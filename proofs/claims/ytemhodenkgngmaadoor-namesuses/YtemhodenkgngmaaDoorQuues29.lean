/-
  One item as a list of its own.
-/
import Derived.Test.YtemhodenkgngmaaDoorQuues00
import Derived.Test.YtemhodenkgngmaaDoorQuues19
import Derived.Test.YtemhodenkgngmaaDoorQuues22
import Derived.Test.YtemhodenkgngmaaDoorQuues15
import Derived.Great.BuildSlice
set_option maxRecDepth 100000
set_option maxHeartbeats 16000000
namespace Go.Proofs.YtemhodenkgngmaaDoor
open Go.RowKit
theorem XV.cells {w : World} {cs : Array Value} {T : Xt} (h : XV w (.agg cs) T) : XC w cs.toList T := by
 obtain ⟨⟨a, cap, e, hl⟩, hok⟩ := h
 cases e
 exact ⟨a, cap, rfl, hok, hl⟩
theorem SV.cells {w : World} {cs : Array Value} {S : St} (h : SV w (.agg cs) S) : SC w cs.toList S := by
 obtain ⟨⟨aa, pa, ra, ca, cp, cr, e, ha, hr, hp⟩, hok⟩ := h
 cases e
 exact ⟨aa, pa, ra, ca, cp, cr, rfl, hok, ha, hr, hp⟩
/-- An item in a block of its own is a list of one. -/
theorem its_one {w : World} {g : Nat} {k pl nl vk vl vc sk na ca np cp nr cr lc : Nat} {nm vm sm : ByteArray} {vn vln vcl sln scl ln cl : Int} {va aa pa ra la : Option Addr} {T : Xt} {S : St} {G : Nat → Xt} (hv : Vn w g 61 #[.int .u8 (k : Int), .string nm, .int .u8 (vk : Int), .int .i64 vn, .string vm, .slice va vl vc, .int .i64 vln, .int .i64 vcl, .int .u8 (sk : Int), .string sm, .slice aa na ca, .slice pa np cp, .slice ra nr cr, .int .i64 sln, .int .i64 scl, .int .u8 (pl : Int), .slice la nl lc, .int .i64 ln, .int .i64 cl]) (hT : XV w (.agg #[.int .u8 (vk : Int), .int .i64 vn, .string vm, .slice va vl vc, .int .i64 vln, .int .i64 vcl]) T) (hS : SV w (.agg #[.int .u8 (sk : Int), .string sm, .slice aa na ca, .slice pa np cp, .slice ra nr cr, .int .i64 sln, .int .i64 scl]) S) (hG : ∀ d, XL d w la nl G) (k8 : k < 256) (p8 : pl < 256) (hnm : nm.size ≤ 140737488351232) (hnl : nl ≤ 140737488351232) : Its w (some ⟨g, 0, none⟩) 1 (fun _ => ⟨k, nm, T, S, pl, nl, G, ln, cl⟩) := by
 intro i hi
 obtain rfl : i = 0 := by omega
 refine ⟨g, 0, rfl, ?_⟩
 refine IC.at_ (cs := [.int .u8 (k : Int), .string nm, .int .u8 (vk : Int), .int .i64 vn, .string vm, .slice va vl vc, .int .i64 vln, .int .i64 vcl, .int .u8 (sk : Int), .string sm, .slice aa na ca, .slice pa np cp, .slice ra nr cr, .int .i64 sln, .int .i64 scl, .int .u8 (pl : Int), .slice la nl lc, .int .i64 ln, .int .i64 cl]) ⟨_, _, la, lc, rfl, hT.cells, hS.cells, hG, k8, hnm, p8, hnl⟩ (fun j hj => ?_)
 rw [Nat.zero_mul, Nat.zero_add]
 have hj2 : j < (#[.int .u8 (k : Int), .string nm, .int .u8 (vk : Int), .int .i64 vn, .string vm, .slice va vl vc, .int .i64 vln, .int .i64 vcl, .int .u8 (sk : Int), .string sm, .slice aa na ca, .slice pa np cp, .slice ra nr cr, .int .i64 sln, .int .i64 scl, .int .u8 (pl : Int), .slice la nl lc, .int .i64 ln, .int .i64 cl] : Array Value).size := hj
 have := hv.cell j _ (Array.getElem?_eq_getElem hj2)
 rw [this, ← List.getElem?_toArray, Array.getElem?_eq_getElem hj2]
theorem cap_in {H : Type} {enc : TypeId × Value → H} {W : World} {fuel : Nat} {a : Option Addr} {len cap : Nat} {y : DataW H × List MemPlace} (h : DataW.trod enc Tryd.prog W 0 (fun _ => true) true fuel 22 [.slice a len cap] = some y) : len ≤ cap := by
 rcases DataW.trod_slice Tryd.underlying22 h with ⟨hcs, _⟩ | ⟨_, len', cap', _, _, _, _, hcs, _, _, hl, _⟩
 ·simp only [List.cons.injEq, and_true, Value.slice.injEq] at hcs
  omega
 ·simp only [List.cons.injEq, and_true, Value.slice.injEq] at hcs
  omega
end Go.Proofs.YtemhodenkgngmaaDoor
