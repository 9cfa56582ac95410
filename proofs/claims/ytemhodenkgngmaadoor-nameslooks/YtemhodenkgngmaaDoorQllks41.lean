/-
  Stage 13: symbols that came in.
-/
import Derived.Test.YtemhodenkgngmaaDoorQllks00
import Derived.Test.YtemhodenkgngmaaDoorQllks28
import Derived.Test.YtemhodenkgngmaaDoorQllks40
set_option maxRecDepth 100000
set_option maxHeartbeats 16000000
namespace Go.Proofs.YtemhodenkgngmaaDoor
open Go.RowKit Go.ChangeShapes Go.WideShapes
theorem cellsSy : Tryd.prog.cellsOf 35 = 4 := by kernel_rfl
theorem bytesSy : Tryd.prog.bytesOf 35 = 40 := by kernel_rfl
/-- Symbols that came in. -/
theorem syms_in {H : Type} {enc : TypeId × Value → H} {W : World} {fuel : Nat} {v : Value} {y : DataW H × List MemPlace} (h : DataW.trod enc Tryd.prog W 0 (fun _ => true) true fuel 23 [v] = some y) (hw : (y.1.weights Tryd.prog 23).all (· ≤ reachBytes) = true) :
  ∃ (a : Option Addr) (len cap : Nat) (F : Nat → Sy), v = .slice a len cap ∧ len ≤ 3600000000000 ∧ SyL W a len F := by
 obtain ⟨a, len, cap, F, e, hl, hF⟩ := sl_in sy0 (fun cs c => cs = [.string c.nm, .int .u8 (c.k : Int), .int .i64 c.it, .int .i64 c.n] ∧ SyOk c) Tryd.underlying23 cellsSy (by omega) bytesSy h hw (fun n cs z _ hz hwz => by
  obtain ⟨xs, k, hk, hxy, hlen, hxl, hf⟩ := DataW.trod_struct Tryd.underlying35 hz
  rw [cellsSy] at hlen
  match xs, hxl, cs, hlen with
  | [y0, y1, y2, y3], _, [v0, v1, v2, v3], _ =>
   have f0 := hf 0 _ rfl
   have f1 := hf 1 _ rfl
   have f2 := hf 2 _ rfl
   have f3 := hf 3 _ rfl
   have cS : Tryd.prog.cellsOf 9 = 1 := by kernel_rfl
   have cI : Tryd.prog.cellsOf 3 = 1 := by kernel_rfl
   have cK : Tryd.prog.cellsOf 33 = 1 := by kernel_rfl
   simp [cS, cI, cK] at f0 f1 f2 f3
   obtain ⟨s0, e0, hy0, _⟩ := DataW.trod_string Tryd.underlying9 f0
   obtain ⟨n1, e1, _, w1⟩ := DataW.trod_int Tryd.underlying33 f1
   obtain ⟨n2, e2, _, w2⟩ := DataW.trod_int Tryd.underlying3 f2
   obtain ⟨n3, e3, _, w3⟩ := DataW.trod_int Tryd.underlying3 f3
   simp only [List.cons.injEq, and_true] at e0 e1 e2 e3
   subst e0 e1 e2 e3
   obtain ⟨kk, rfl, hkk⟩ := u8_wfc w1
   have b2 := qdm w2
   have b3 := qdm w3
   subst hxy
   simp only [DataW.weights, Tryd.underlying35] at hwz
   have hss := sized_string hwz (j := 0) (t := 9) (bytes := s0.data.toList) rfl (by simp [hy0])
   simp only [Array.length_toList, reachBytes] at hss
   have hsz : s0.size = s0.data.size := rfl
   exact ⟨⟨s0, kk, n2, n3⟩, rfl, ⟨by show s0.size ≤ _; omega, hkk, b2.1, b2.2, b3.1, b3.2⟩⟩)
 simp only [reachBytes] at hl
 refine ⟨a, len, cap, F, e, by omega, fun i hi => ?_⟩
 obtain ⟨b, o, cs', e, ⟨hcs, hok⟩, hc⟩ := hF i hi
 subst hcs
 exact ⟨hok, b, o, e, by simpa using hc 0 (by omega), by simpa using hc 1 (by omega), by simpa using hc 2 (by omega), by simpa using hc 3 (by omega)⟩
end Go.Proofs.YtemhodenkgngmaaDoor
