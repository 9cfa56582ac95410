/-
  Stage 21: flows that came in, with what a copy of them asks.
-/
import Derived.Test.YthdgpmanijifoaaQbbst00
import Derived.Test.YthdgpmanijifoaaQbbst36
import Derived.Test.YthdgpmanijifoaaQbbst43
set_option maxRecDepth 100000
set_option maxHeartbeats 16000000
namespace Go.Proofs.Ythdgpmanijifoaa
open Go.RowKit Go.ChangeShapes Go.WideShapes
/-- A slice that came in and lies nowhere is empty and has no room. -/
theorem qbw {H : Type} {enc : TypeId × Value → H} {W : World} {t e : TypeId} (ht : Try.prog.underlying t = some (.slice e)) {fuel : Nat} {v : Value} {y : DataW H × List MemPlace} (h : DataW.trod enc Try.prog W 0 (fun _ => true) true fuel t [v] = some y) {a : Option Addr} {len cap : Nat} (hv : v = .slice a len cap) : a = none → len = 0 ∧ cap = 0 := by
 intro ha
 subst ha
 rcases DataW.trod_slice ht h with ⟨hcs, _⟩ | ⟨ad, len', cap', elems, rest, n, hn, hcs, _⟩
 ·simp only [List.cons.injEq, and_true] at hcs
  rw [hv] at hcs
  simp only [Value.slice.injEq, true_and] at hcs
  exact hcs
 ·simp only [List.cons.injEq, and_true] at hcs
  rw [hv] at hcs
  simp at hcs
/-- A list of numbers that came in. -/
theorem qbx {H : Type} {enc : TypeId × Value → H} {W : World} {fuel : Nat} {v : Value} {y : DataW H × List MemPlace} (h : DataW.trod enc Try.prog W 0 (fun _ => true) true fuel 22 [v] = some y) (hw : (y.1.weights Try.prog 22).all (· ≤ reachBytes) = true) :
  ∃ (a : Option Addr) (len cap : Nat) (q : Nat → Int), v = .slice a len cap ∧ len * 8 ≤ 140737488351232 ∧ Jl W a .i64 len q ∧ (a = none → len = 0 ∧ cap = 0) := by
 obtain ⟨a, len, cap, F, e, hl, hF⟩ := qbh (0 : Int) (fun cs x => cs = [.int .i64 x]) Try.underlying22 qbu (by omega) bytesI21 h hw (fun n cs z _ hz _ => by
  obtain ⟨x, ex, _, _⟩ := DataW.trod_int Try.underlying3 hz
  exact ⟨x, ex⟩)
 simp only [reachBytes] at hl
 refine ⟨a, len, cap, F, e, by omega, fun i hi => ?_, qbw Try.underlying22 h e⟩
 obtain ⟨b, o, cs', e, rfl, hc⟩ := hF i hi
 exact ⟨b, o, e, by simpa using hc 0 (by omega)⟩
/-- A list of terms that came in. -/
theorem qcy {H : Type} {enc : TypeId × Value → H} {W : World} {fuel : Nat} {v : Value} {y : DataW H × List MemPlace} (h : DataW.trod enc Try.prog W 0 (fun _ => true) true fuel 57 [v] = some y) (hw : (y.1.weights Try.prog 57).all (· ≤ reachBytes) = true) :
  ∃ (a : Option Addr) (len cap : Nat) (L : Nat → Trm), v = .slice a len cap ∧ len * 16 ≤ 140737488351232 ∧ Tml W a len (fun i => (L i).1) (fun i => (L i).2) ∧ (a = none → len = 0 ∧ cap = 0) := by
 obtain ⟨a, len, cap, F, e, hl, hF⟩ := qbh (α := Trm) (0, 0) (fun cs c => cs = [.int .i64 c.1, .int .u8 (c.2 : Int)] ∧ c.2 < 256) Try.underlying57 qbv (by omega) bytesT21 h hw (fun n cs z _ hz hwz => by
  obtain ⟨xs, k, hk, hxy, hlen, hxl, hf⟩ := DataW.trod_struct Try.underlying59 hz
  rw [qbv] at hlen
  match xs, hxl, cs, hlen with
  | [y0, y1], _, [v0, v1], _ =>
   have f0 := hf 0 _ rfl
   have f1 := hf 1 _ rfl
   simp [qbu, cellsU21] at f0 f1
   obtain ⟨n0, e0, _, w0⟩ := DataW.trod_int Try.underlying3 f0
   obtain ⟨n1, e1, _, w1⟩ := DataW.trod_int Try.underlying5 f1
   simp only [List.cons.injEq, and_true] at e0 e1
   subst e0 e1
   have hb : 0 ≤ n1 ∧ n1 < 256 := by simp [Lit.wf, IntKind.min, IntKind.max, IntKind.signed, IntKind.bits] at w1; omega
   obtain ⟨kk, rfl⟩ := Int.eq_ofNat_of_zero_le hb.1
   exact ⟨(n0, kk), rfl, by omega⟩)
 simp only [reachBytes] at hl
 refine ⟨a, len, cap, F, e, by omega, fun i hi => ?_, qbw Try.underlying57 h e⟩
 obtain ⟨b, o, cs', e, ⟨rfl, hk⟩, hc⟩ := hF i hi
 exact ⟨hk, b, o, e, by simpa using hc 0 (by omega), by simpa using hc 1 (by omega)⟩
theorem Ndx.ndl {w : World} {b : Option Addr} {m : Nat} {nt : Nat → Nat} {f : Nat → Nat → Int} {g : Nat → Nat → Nat} (h : Ndx w b m nt f g) : Ndl w b m nt f g := fun i hi => by
 obtain ⟨h1, x, o, t, d, e, c, ht, _⟩ := h i hi
 exact ⟨by omega, x, o, t, d, e, c, ht⟩
end Go.Proofs.Ythdgpmanijifoaa
