/-
  Stage 12: environments that came in; what quotients and rests are.
-/
import Derived.Test.YtgmndjbicandfaaDoorQtted00
import Derived.Test.YtgmndjbicandfaaDoorQtted23
import Derived.Test.YtgmndjbicandfaaDoorQtted24
set_option maxRecDepth 100000
set_option maxHeartbeats 16000000
namespace Go.Proofs.YtgmndjbicandfaaDoor
open Go.RowKit Go.ChangeShapes Go.WideShapes
theorem cellsCn : Tryd.prog.cellsOf 50 = 2 := by kernel_rfl
theorem bytesCn : Tryd.prog.bytesOf 50 = 24 := by kernel_rfl
/-- An environment that came in. -/
theorem env_in {H : Type} {enc : TypeId × Value → H} {W : World} {fuel : Nat} {v : Value} {y : DataW H × List MemPlace} (h : DataW.trod enc Tryd.prog W 0 (fun _ => true) true fuel 26 [v] = some y) (hw : (y.1.weights Tryd.prog 26).all (· ≤ reachBytes) = true) :
  ∃ (a : Option Addr) (len cap : Nat) (F : Nat → Cn), v = .slice a len cap ∧ len ≤ 5864062014634 ∧ EL W a len F := by
 obtain ⟨a, len, cap, F, e, hl, hF⟩ := sl_in (⟨⟨#[]⟩, 0⟩ : Cn) (fun cs c => cs = [.string c.nm, .int .i64 c.n] ∧ CnOk c) Tryd.underlying26 cellsCn (by omega) bytesCn h hw (fun n cs z _ hz hwz => by
  obtain ⟨xs, k, hk, hxy, hlen, hxl, hf⟩ := DataW.trod_struct Tryd.underlying50 hz
  rw [cellsCn] at hlen
  match xs, hxl, cs, hlen with
  | [y0, y1], _, [v0, v1], _ =>
   have f0 := hf 0 _ rfl
   have f1 := hf 1 _ rfl
   have cS : Tryd.prog.cellsOf 9 = 1 := by kernel_rfl
   have cI : Tryd.prog.cellsOf 3 = 1 := by kernel_rfl
   simp [cS, cI] at f0 f1
   obtain ⟨s0, e0, hy0, _⟩ := DataW.trod_string Tryd.underlying9 f0
   obtain ⟨n1, e1, _, w1⟩ := DataW.trod_int Tryd.underlying3 f1
   simp only [List.cons.injEq, and_true] at e0 e1
   subst e0 e1
   have b1 := qdz w1
   subst hxy
   simp only [DataW.weights, Tryd.underlying50] at hwz
   have hss := sized_string hwz (j := 0) (t := 9) (bytes := s0.data.toList) rfl (by simp [hy0])
   simp only [Array.length_toList, reachBytes] at hss
   have hsz : s0.size = s0.data.size := rfl
   exact ⟨⟨s0, n1⟩, rfl, ⟨by show s0.size ≤ _; omega, b1.1, b1.2⟩⟩)
 simp only [reachBytes] at hl
 refine ⟨a, len, cap, F, e, by omega, fun i hi => ?_⟩
 obtain ⟨b, o, cs', e, ⟨hcs, hok⟩, hc⟩ := hF i hi
 subst hcs
 exact ⟨hok, b, o, e, by simpa using hc 0 (by omega), by simpa using hc 1 (by omega)⟩
end Go.Proofs.YtgmndjbicandfaaDoor
