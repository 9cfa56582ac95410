/-
  Stage 22: flows that came in, with room and with what a copy of them asks.
-/
import Derived.Test.YthdgpmanijifoaaQbbst00
import Derived.Test.YthdgpmanijifoaaQbbst44
import Derived.Test.YthdgpmanijifoaaQbbst45
set_option maxRecDepth 100000
set_option maxHeartbeats 16000000
namespace Go.Proofs.Ythdgpmanijifoaa
open Go.RowKit Go.ChangeShapes Go.WideShapes
/-- A slice that came in is no longer than its room. -/
theorem cap_in22 {H : Type} {enc : TypeId × Value → H} {W : World} {t e : TypeId} (ht : Try.prog.underlying t = some (.slice e)) {fuel : Nat} {v : Value} {y : DataW H × List MemPlace} (h : DataW.trod enc Try.prog W 0 (fun _ => true) true fuel t [v] = some y) {a : Option Addr} {len cap : Nat} (hv : v = .slice a len cap) : len ≤ cap := by
 rcases DataW.trod_slice ht h with ⟨hcs, _⟩ | ⟨ad, len', cap', elems, rest, n, hn, hcs, _, _, hlc, _⟩
 ·simp only [List.cons.injEq, and_true] at hcs
  rw [hv] at hcs
  simp only [Value.slice.injEq] at hcs
  omega
 ·simp only [List.cons.injEq, and_true] at hcs
  rw [hv] at hcs
  simp only [Value.slice.injEq] at hcs
  omega
/-- A list of nodes that came in. -/
theorem qcz {H : Type} {enc : TypeId × Value → H} {W : World} {fuel : Nat} {v : Value} {y : DataW H × List MemPlace} (h : DataW.trod enc Try.prog W 0 (fun _ => true) true fuel 23 [v] = some y) (hw : (y.1.weights Try.prog 23).all (· ≤ reachBytes) = true) :
  ∃ (a : Option Addr) (len cap : Nat) (nt : Nat → Nat) (L : Nat → Nat → Trm), v = .slice a len cap ∧ len * 24 ≤ 140737488351232 ∧ Ndx W a len nt (fun i j => (L i j).1) (fun i j => (L i j).2) ∧ Ncp W a len nt := by
 obtain ⟨a, len, cap, F, e, hl, hF⟩ := qbh (α := Nat × (Nat → Trm)) (0, fun _ => (0, 0)) (fun cs R => ∃ a' c', cs = [.slice a' R.1 c'] ∧ R.1 * 16 ≤ 140737488351232 ∧ Tml W a' R.1 (fun i => (R.2 i).1) (fun i => (R.2 i).2) ∧ (a' = none → R.1 = 0 ∧ c' = 0) ∧ R.1 ≤ c') Try.underlying23 cellsL21 (by omega) bytesL21 h hw (fun n cs z _ hz hwz => by
  have hlen : cs.length = 1 := by
   rcases DataW.trod_slice Try.underlying57 hz with ⟨e, _⟩ | ⟨_, _, _, _, _, _, _, e, _⟩ <;> rw [e] <;> rfl
  match cs, hlen with
  | [v'], _ =>
   obtain ⟨a', len', cap', G, e, hl, hG, h0⟩ := qcy hz hwz
   exact ⟨(len', G), a', cap', by rw [e], hl, hG, h0, cap_in22 Try.underlying57 hz e⟩)
 simp only [reachBytes] at hl
 refine ⟨a, len, cap, fun i => (F i).1, fun i => (F i).2, e, by omega, fun i hi => ?_, fun i hi => ?_⟩
 ·obtain ⟨b, o, cs', e, ⟨a', c', rfl, hl2, hG, h0, h9⟩, hc⟩ := hF i hi
  refine ⟨hl2, b, o, a', c', e, ?_, hG, h0⟩
  have := hc 0 (by omega)
  rw [Nat.mul_one, Nat.add_zero] at this
  exact this
 ·obtain ⟨b, o, cs', e, ⟨a', c', rfl, hl2, hG, h0, h9⟩, hc⟩ := hF i hi
  refine ⟨b, o, a', c', e, ?_, h9⟩
  have := hc 0 (by omega)
  rw [Nat.mul_one, Nat.add_zero] at this
  exact this
/-- Three cells are a flow that can be copied, its nodes no longer than their room. -/
def IsFc (w : World) (x y z : Value) : Prop := ∃ a p b q c r F, x = .slice a F.ni p ∧ y = .slice b F.nn q ∧ z = .slice c F.no r ∧ FlX w a p b c r F ∧ Ncp w b F.nn F.nt
theorem flow_inc {H : Type} {enc : TypeId × Value → H} {W : World} {f1 f2 f3 : Nat} {x y z : Value} {dx dy dz : DataW H × List MemPlace}
  (hx : DataW.trod enc Try.prog W 0 (fun _ => true) true f1 22 [x] = some dx) (hy : DataW.trod enc Try.prog W 0 (fun _ => true) true f2 23 [y] = some dy) (hz : DataW.trod enc Try.prog W 0 (fun _ => true) true f3 22 [z] = some dz)
  (wx : (dx.1.weights Try.prog 22).all (· ≤ reachBytes) = true) (wy : (dy.1.weights Try.prog 23).all (· ≤ reachBytes) = true) (wz : (dz.1.weights Try.prog 22).all (· ≤ reachBytes) = true) : IsFc W x y z := by
 obtain ⟨a, n, p, q1, rfl, h1, h2, a0⟩ := qbx hx wx
 obtain ⟨b, m, q, nt, L, rfl, h3, h4, h9⟩ := qcz hy wy
 obtain ⟨c, k, r, q2, rfl, h5, h6, c0⟩ := qbx hz wz
 exact ⟨a, p, b, q, c, r, ⟨n, q1, m, nt, fun i j => (L i j).1, fun i j => (L i j).2, k, q2⟩, rfl, rfl, rfl, ⟨⟨by show n ≤ _; omega, by show m ≤ _; omega, by show k ≤ _; omega, h2, h4.ndl, h6⟩, a0, c0, h1, h5, h3, h4⟩, h9⟩
end Go.Proofs.Ythdgpmanijifoaa
