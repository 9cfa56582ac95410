/-
  Stage 21: flows that came in.
-/
import Derived.Test.YtkfnedpnkeacpaaQmmde00
import Derived.Test.YtkfnedpnkeacpaaQmmde31
import Derived.Deep.Slices
import Derived.SizedLaws
set_option maxRecDepth 100000
set_option maxHeartbeats 16000000
namespace Go.Proofs.Ytkfnedpnkeacpaa
open Go.RowKit Go.ChangeShapes Go.WideShapes
theorem qbz {H : Type} {P : Program} {e : TypeId} : ∀ {ds : List (DataW H)}, (DataW.weightsAll P e ds).all (· ≤ reachBytes) = true → ∀ d ∈ ds, (d.weights P e).all (· ≤ reachBytes) = true
 | [], _, d, hd => by simp at hd
 | d0 :: r, h, d, hd => by
  simp only [DataW.weightsAll, List.all_append, Bool.and_eq_true] at h
  rcases List.mem_cons.1 hd with rfl | hd
  ·exact h.1
  ·exact qbz h.2 d hd
theorem pick21 {α : Type} (d : α) {n : Nat} {P : Nat → α → Prop} (h : ∀ i, i < n → ∃ x, P i x) : ∃ q : Nat → α, ∀ i, i < n → P i (q i) := by
 refine ⟨fun i => if hi : i < n then (h i hi).choose else d, fun i hi => ?_⟩
 simp only [dif_pos hi]
 exact (h i hi).choose_spec
theorem add21 (b o j : Nat) : (⟨b, o, none⟩ : Addr).add j = ⟨b, o + j, none⟩ := by unfold Addr.add; split <;> simp_all
/-- A slice that came in, by what its elements are. -/
theorem qda {H : Type} {enc : TypeId × Value → H} {W : World} {t e : TypeId} {c bb : Nat} {α : Type} (dflt : α) (Q : List Value → α → Prop) (ht : Try.prog.underlying t = some (.slice e)) (hc : Try.prog.cellsOf e = c) (hc0 : 0 < c) (hb : Try.prog.bytesOf e = bb)
  {fuel : Nat} {v : Value} {y : DataW H × List MemPlace} (h : DataW.trod enc Try.prog W 0 (fun _ => true) true fuel t [v] = some y) (hw : (y.1.weights Try.prog t).all (· ≤ reachBytes) = true)
  (hq : ∀ n cs (z : DataW H × List MemPlace), n < fuel → DataW.trod enc Try.prog W 0 (fun _ => true) true n e cs = some z → (z.1.weights Try.prog e).all (· ≤ reachBytes) = true → ∃ a, Q cs a) :
  ∃ (a : Option Addr) (len cap : Nat) (F : Nat → α), v = .slice a len cap ∧ len * bb ≤ reachBytes ∧ ∀ i, i < len → ∃ b o cs', a = some ⟨b, o, none⟩ ∧ Q cs' (F i) ∧ ∀ j, j < c → W.cell? ⟨b, o + i * c + j, none⟩ = cs'[j]? := by
 rcases DataW.trod_slice ht h with ⟨hcs, _⟩ | ⟨ad, len, cap, elems, rest, n, hn, hcs, hy3, _, hl, hcap, hel, hget, hsp, _⟩
 ·simp only [List.cons.injEq, and_true] at hcs
  exact ⟨none, 0, 0, fun _ => dflt, hcs, by omega, fun i hi => by omega⟩
 ·simp only [List.cons.injEq, and_true] at hcs
  subst hcs
  rw [hy3] at hw
  simp only [DataW.weights, ht, hb, List.all_cons, List.all_append, Bool.and_eq_true, List.length_map] at hw
  obtain ⟨h1, h2, _⟩ := hw
  have h1 : (elems.length + rest.length) * bb ≤ reachBytes := of_decide_eq_true h1
  have hspot : 0 < len → ad.spot = none := fun h0 => by
   have hg := hget 0 h0
   have hi' : 0 < elems.length := by omega
   rw [List.getElem?_eq_getElem hi'] at hg
   obtain ⟨cs', g1, g2⟩ := Option.bind_eq_some_iff.1 hg
   rw [hc] at g1
   obtain ⟨_, hlen', hcell⟩ := World.cells?_some g1
   have z0 := hcell 0 hc0
   rw [List.getElem?_eq_getElem (by omega)] at z0
   simpa [Addr.add] using World.cell?_spot z0
  have each : ∀ i, i < len → ∃ T : α, ∃ b o cs', ad = ⟨b, o, none⟩ ∧ Q cs' T ∧ ∀ j, j < c → W.cell? ⟨b, o + i * c + j, none⟩ = cs'[j]? := fun i hi => by
   have hg := hget i hi
   have hi' : i < elems.length := by omega
   rw [List.getElem?_eq_getElem hi'] at hg
   obtain ⟨cs', g1, g2⟩ := Option.bind_eq_some_iff.1 hg
   rw [hc] at g1
   obtain ⟨_, hlen', hcell⟩ := World.cells?_some g1
   obtain ⟨T, hT⟩ := hq n cs' _ (by omega) g2 (qbz h2 _ (List.mem_map.2 ⟨_, List.getElem_mem hi', rfl⟩))
   have hp := hspot (by omega)
   rcases ad with ⟨b, o, p⟩
   have hp : p = none := hp
   subst hp
   refine ⟨T, b, o, cs', rfl, hT, fun j hj => ?_⟩
   have hj' := hcell j hj
   rw [add21, add21] at hj'
   exact hj'
  obtain ⟨F, hF⟩ := pick21 dflt each
  refine ⟨some ad, len, cap, F, rfl, ?_, fun i hi => ?_⟩
  ·refine Nat.le_trans (Nat.mul_le_mul_right bb ?_) h1
   omega
  ·obtain ⟨b, o, cs', e, hT, hcc⟩ := hF i hi
   exact ⟨b, o, cs', by rw [e], hT, hcc⟩
theorem qdr : Try.prog.cellsOf 3 = 1 := by kernel_rfl
theorem bytesI21 : Try.prog.bytesOf 3 = 8 := by kernel_rfl
theorem qds : Try.prog.cellsOf 61 = 2 := by kernel_rfl
theorem bytesT21 : Try.prog.bytesOf 61 = 16 := by kernel_rfl
theorem cellsL21 : Try.prog.cellsOf 59 = 1 := by kernel_rfl
theorem bytesL21 : Try.prog.bytesOf 59 = 24 := by kernel_rfl
theorem cellsU21 : Try.prog.cellsOf 5 = 1 := by kernel_rfl
theorem qfa : Try.prog.cellsOf 28 = 3 := by kernel_rfl
/-- A list of numbers that came in. -/
theorem qcw {H : Type} {enc : TypeId × Value → H} {W : World} {fuel : Nat} {v : Value} {y : DataW H × List MemPlace} (h : DataW.trod enc Try.prog W 0 (fun _ => true) true fuel 25 [v] = some y) (hw : (y.1.weights Try.prog 25).all (· ≤ reachBytes) = true) :
  ∃ (a : Option Addr) (len cap : Nat) (q : Nat → Int), v = .slice a len cap ∧ len ≤ 140737488351232 ∧ Jl W a .i64 len q := by
 obtain ⟨a, len, cap, F, e, hl, hF⟩ := qda (0 : Int) (fun cs x => cs = [.int .i64 x]) Try.underlying25 qdr (by omega) bytesI21 h hw (fun n cs z _ hz _ => by
  obtain ⟨x, ex, _, _⟩ := DataW.trod_int Try.underlying3 hz
  exact ⟨x, ex⟩)
 simp only [reachBytes] at hl
 refine ⟨a, len, cap, F, e, by omega, fun i hi => ?_⟩
 obtain ⟨b, o, cs', e, rfl, hc⟩ := hF i hi
 exact ⟨b, o, e, by simpa using hc 0 (by omega)⟩
/-- A list of terms that came in. -/
theorem qec {H : Type} {enc : TypeId × Value → H} {W : World} {fuel : Nat} {v : Value} {y : DataW H × List MemPlace} (h : DataW.trod enc Try.prog W 0 (fun _ => true) true fuel 59 [v] = some y) (hw : (y.1.weights Try.prog 59).all (· ≤ reachBytes) = true) :
  ∃ (a : Option Addr) (len cap : Nat) (L : Nat → Trm), v = .slice a len cap ∧ len ≤ 140737488351232 ∧ Tml W a len (fun i => (L i).1) (fun i => (L i).2) := by
 obtain ⟨a, len, cap, F, e, hl, hF⟩ := qda (α := Trm) (0, 0) (fun cs c => cs = [.int .i64 c.1, .int .u8 (c.2 : Int)] ∧ c.2 < 256) Try.underlying59 qds (by omega) bytesT21 h hw (fun n cs z _ hz hwz => by
  obtain ⟨xs, k, hk, hxy, hlen, hxl, hf⟩ := DataW.trod_struct Try.underlying61 hz
  rw [qds] at hlen
  match xs, hxl, cs, hlen with
  | [y0, y1], _, [v0, v1], _ =>
   have f0 := hf 0 _ rfl
   have f1 := hf 1 _ rfl
   simp [qdr, cellsU21] at f0 f1
   obtain ⟨n0, e0, _, w0⟩ := DataW.trod_int Try.underlying3 f0
   obtain ⟨n1, e1, _, w1⟩ := DataW.trod_int Try.underlying5 f1
   simp only [List.cons.injEq, and_true] at e0 e1
   subst e0 e1
   have hb : 0 ≤ n1 ∧ n1 < 256 := by simp [Lit.wf, IntKind.min, IntKind.max, IntKind.signed, IntKind.bits] at w1; omega
   obtain ⟨kk, rfl⟩ := Int.eq_ofNat_of_zero_le hb.1
   exact ⟨(n0, kk), rfl, by omega⟩)
 simp only [reachBytes] at hl
 refine ⟨a, len, cap, F, e, by omega, fun i hi => ?_⟩
 obtain ⟨b, o, cs', e, ⟨rfl, hk⟩, hc⟩ := hF i hi
 exact ⟨hk, b, o, e, by simpa using hc 0 (by omega), by simpa using hc 1 (by omega)⟩
/-- A list of nodes that came in. -/
theorem qed {H : Type} {enc : TypeId × Value → H} {W : World} {fuel : Nat} {v : Value} {y : DataW H × List MemPlace} (h : DataW.trod enc Try.prog W 0 (fun _ => true) true fuel 26 [v] = some y) (hw : (y.1.weights Try.prog 26).all (· ≤ reachBytes) = true) :
  ∃ (a : Option Addr) (len cap : Nat) (nt : Nat → Nat) (L : Nat → Nat → Trm), v = .slice a len cap ∧ len ≤ 140737488351232 ∧ Ndl W a len nt (fun i j => (L i j).1) (fun i j => (L i j).2) := by
 obtain ⟨a, len, cap, F, e, hl, hF⟩ := qda (α := Nat × (Nat → Trm)) (0, fun _ => (0, 0)) (fun cs R => ∃ a' c', cs = [.slice a' R.1 c'] ∧ R.1 ≤ 140737488351232 ∧ Tml W a' R.1 (fun i => (R.2 i).1) (fun i => (R.2 i).2)) Try.underlying26 cellsL21 (by omega) bytesL21 h hw (fun n cs z _ hz hwz => by
  have hlen : cs.length = 1 := by
   rcases DataW.trod_slice Try.underlying59 hz with ⟨e, _⟩ | ⟨_, _, _, _, _, _, _, e, _⟩ <;> rw [e] <;> rfl
  match cs, hlen with
  | [v'], _ =>
   obtain ⟨a', len', cap', G, e, hl, hG⟩ := qec hz hwz
   exact ⟨(len', G), a', cap', by rw [e], hl, hG⟩)
 simp only [reachBytes] at hl
 refine ⟨a, len, cap, fun i => (F i).1, fun i => (F i).2, e, by omega, fun i hi => ?_⟩
 obtain ⟨b, o, cs', e, ⟨a', c', rfl, hl2, hG⟩, hc⟩ := hF i hi
 refine ⟨hl2, b, o, a', c', e, ?_, hG⟩
 have := hc 0 (by omega)
 rw [Nat.mul_one, Nat.add_zero] at this
 exact this
/-- Three cells are a flow. -/
def IsFl (w : World) (x y z : Value) : Prop := ∃ a p b q c r F, x = .slice a F.ni p ∧ y = .slice b F.nn q ∧ z = .slice c F.no r ∧ FlR w a b c F
theorem qfb {H : Type} {enc : TypeId × Value → H} {W : World} {f1 f2 f3 : Nat} {x y z : Value} {dx dy dz : DataW H × List MemPlace}
  (hx : DataW.trod enc Try.prog W 0 (fun _ => true) true f1 25 [x] = some dx) (hy : DataW.trod enc Try.prog W 0 (fun _ => true) true f2 26 [y] = some dy) (hz : DataW.trod enc Try.prog W 0 (fun _ => true) true f3 25 [z] = some dz)
  (wx : (dx.1.weights Try.prog 25).all (· ≤ reachBytes) = true) (wy : (dy.1.weights Try.prog 26).all (· ≤ reachBytes) = true) (wz : (dz.1.weights Try.prog 25).all (· ≤ reachBytes) = true) : IsFl W x y z := by
 obtain ⟨a, n, p, q1, rfl, h1, h2⟩ := qcw hx wx
 obtain ⟨b, m, q, nt, L, rfl, h3, h4⟩ := qed hy wy
 obtain ⟨c, k, r, q2, rfl, h5, h6⟩ := qcw hz wz
 exact ⟨a, p, b, q, c, r, ⟨n, q1, m, nt, fun i j => (L i j).1, fun i j => (L i j).2, k, q2⟩, rfl, rfl, rfl, ⟨h1, h3, h5, h2, h4, h6⟩⟩
end Go.Proofs.Ytkfnedpnkeacpaa
