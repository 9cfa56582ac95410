/-
  Stage 10: expressions that came in.
  Stage 10: lists of expressions, rows, shapes and items that came in.
  Stage 10: shapes and items that came in.
  Stage 10: descriptions that came in.
-/
import Derived.Test.YtemhodenkgngmaaDoorQllks00
import Derived.Test.YtemhodenkgngmaaDoorQllks04
import Derived.Deep.Slices
import Derived.SizedLaws
set_option maxRecDepth 100000
set_option maxHeartbeats 16000000
namespace Go.Proofs.YtemhodenkgngmaaDoor
open Go.RowKit Go.ChangeShapes Go.WideShapes
theorem qbd {H : Type} {P : Program} {e : TypeId} : ∀ {ds : List (DataW H)}, (DataW.weightsAll P e ds).all (· ≤ reachBytes) = true → ∀ d ∈ ds, (d.weights P e).all (· ≤ reachBytes) = true
 | [], _, d, hd => by simp at hd
 | d0 :: r, h, d, hd => by
  simp only [DataW.weightsAll, List.all_append, Bool.and_eq_true] at h
  rcases List.mem_cons.1 hd with rfl | hd
  ·exact h.1
  ·exact qbd h.2 d hd
theorem u8_wfc {n : Int} (h : (Lit.int .u8 n).wf = true) : ∃ x : Nat, n = (x : Int) ∧ x < 256 := by
 simp [Lit.wf, IntKind.min, IntKind.max, IntKind.signed, IntKind.bits] at h
 exact ⟨n.toNat, by omega, by omega⟩
theorem qdm {n : Int} (h : (Lit.int .i64 n).wf = true) : -9223372036854775808 ≤ n ∧ n ≤ 9223372036854775807 := by
 simp [Lit.wf, IntKind.min, IntKind.max, IntKind.signed, IntKind.bits] at h
 omega
theorem pickc {α : Type} (d : α) {n : Nat} {P : Nat → α → Prop} (h : ∀ i, i < n → ∃ x, P i x) : ∃ q : Nat → α, ∀ i, i < n → P i (q i) :=
 ⟨fun i => if hi : i < n then Classical.choose (h i hi) else d, fun i hi => by show P i (if hi : i < n then Classical.choose (h i hi) else d); rw [dif_pos hi]; exact Classical.choose_spec (h i hi)⟩
theorem addc (b o j : Nat) : (⟨b, o, none⟩ : Addr).add j = ⟨b, o + j, none⟩ := by unfold Addr.add; split <;> simp_all
def l0x : Xt := fun _ => ⟨0, 0, ⟨#[]⟩, 0, 0, 0⟩
/-- The cells of an expression that came in. -/
def XC (W : World) (cs : List Value) (T : Xt) : Prop := ∃ (a : Option Addr) (cap : Nat), cs = [.int .u8 ((T []).k : Int), .int .i64 (T []).n, .string (T []).nm, .slice a (T []).len cap, .int .i64 (T []).ln, .int .i64 (T []).cl] ∧ LxOk (T []) ∧ ∀ d, XL d W a (T []).len (kid T)
theorem XC.at_ {W : World} {cs : List Value} {T : Xt} (h : XC W cs T) {b o : Nat} (hc : ∀ j, j < 6 → W.cell? ⟨b, o + j, none⟩ = cs[j]?) : ∀ d, XA d W b o T := by
 intro d
 cases d with
 | zero => trivial
 | succ d =>
  obtain ⟨a, cap, rfl, hok, hl⟩ := h
  exact ⟨a, cap, by simpa using hc 0 (by omega), by simpa using hc 1 (by omega), by simpa using hc 2 (by omega), by simpa using hc 3 (by omega), by simpa using hc 4 (by omega), by simpa using hc 5 (by omega), hok, hl d⟩
theorem XC.value {W : World} {cs : List Value} {T : Xt} (h : XC W cs T) : XV W (.agg cs.toArray) T := by
 obtain ⟨a, cap, rfl, hok, hl⟩ := h
 exact ⟨⟨a, cap, rfl, hl⟩, hok⟩
open Go.RowKit Go.ChangeShapes Go.WideShapes
/-- A slice that came in, by what its elements are. -/
theorem sl_in {H : Type} {enc : TypeId × Value → H} {W : World} {t e : TypeId} {c bb : Nat} {α : Type} (dflt : α) (Q : List Value → α → Prop) (ht : Tryd.prog.underlying t = some (.slice e)) (hc : Tryd.prog.cellsOf e = c) (hc0 : 0 < c) (hb : Tryd.prog.bytesOf e = bb)
  {fuel : Nat} {v : Value} {y : DataW H × List MemPlace} (h : DataW.trod enc Tryd.prog W 0 (fun _ => true) true fuel t [v] = some y) (hw : (y.1.weights Tryd.prog t).all (· ≤ reachBytes) = true)
  (hq : ∀ n cs (z : DataW H × List MemPlace), n < fuel → DataW.trod enc Tryd.prog W 0 (fun _ => true) true n e cs = some z → (z.1.weights Tryd.prog e).all (· ≤ reachBytes) = true → ∃ a, Q cs a) :
  ∃ (a : Option Addr) (len cap : Nat) (F : Nat → α), v = .slice a len cap ∧ len * bb ≤ reachBytes ∧ ∀ i, i < len → ∃ b o cs', a = some ⟨b, o, none⟩ ∧ Q cs' (F i) ∧ ∀ j, j < c → W.cell? ⟨b, o + i * c + j, none⟩ = cs'[j]? := by
 rcases DataW.trod_slice ht h with ⟨hcs, _⟩ | ⟨ad, len, cap, elems, rest, n, hn, hcs, hy3, _, hl, hcap, hel, hget, hsp, _⟩
 ·simp only [List.cons.injEq, and_true] at hcs
  exact ⟨none, 0, 0, fun _ => dflt, hcs, by omega, fun i hi => by omega⟩
 ·simp only [List.cons.injEq, and_true] at hcs
  subst hcs
  rw [hy3] at hw
  simp only [DataW.weights, ht, hb, List.all_cons, List.all_append, Bool.and_eq_true, List.length_map] at hw
  obtain ⟨h1, h2, _⟩ := hw
  have h1 : (elems.length + rest.length) * bb ≤ reachBytes := of_decide_eq_true h1
  have hspot : 0 < len → ad.spot = none := fun h0 => by
   have hg := hget 0 h0
   have hi' : 0 < elems.length := by omega
   rw [List.getElem?_eq_getElem hi'] at hg
   obtain ⟨cs', g1, g2⟩ := Option.bind_eq_some_iff.1 hg
   rw [hc] at g1
   obtain ⟨_, hlen', hcell⟩ := World.cells?_some g1
   have z0 := hcell 0 hc0
   rw [List.getElem?_eq_getElem (by omega)] at z0
   simpa [Addr.add] using World.cell?_spot z0
  have each : ∀ i, i < len → ∃ T : α, ∃ b o cs', ad = ⟨b, o, none⟩ ∧ Q cs' T ∧ ∀ j, j < c → W.cell? ⟨b, o + i * c + j, none⟩ = cs'[j]? := fun i hi => by
   have hg := hget i hi
   have hi' : i < elems.length := by omega
   rw [List.getElem?_eq_getElem hi'] at hg
   obtain ⟨cs', g1, g2⟩ := Option.bind_eq_some_iff.1 hg
   rw [hc] at g1
   obtain ⟨_, hlen', hcell⟩ := World.cells?_some g1
   obtain ⟨T, hT⟩ := hq n cs' _ (by omega) g2 (qbd h2 _ (List.mem_map.2 ⟨_, List.getElem_mem hi', rfl⟩))
   have hp := hspot (by omega)
   rcases ad with ⟨b, o, p⟩
   have hp : p = none := hp
   subst hp
   refine ⟨T, b, o, cs', rfl, hT, fun j hj => ?_⟩
   have hj' := hcell j hj
   rw [addc, addc] at hj'
   exact hj'
  obtain ⟨F, hF⟩ := pickc dflt each
  refine ⟨some ad, len, cap, F, rfl, ?_, fun i hi => ?_⟩
  ·refine Nat.le_trans (Nat.mul_le_mul_right bb ?_) h1
   omega
  ·obtain ⟨b, o, cs', e, hT, hcc⟩ := hF i hi
   exact ⟨b, o, cs', by rw [e], hT, hcc⟩
open Go.RowKit Go.ChangeShapes Go.WideShapes
def l0s : St := fun _ => ⟨0, ⟨#[]⟩, 0, fun _ => l0x, 0, 0, fun _ => 0, fun _ _ => l0x, 0, 0⟩
/-- The cells of a shape that came in. -/
def SC (W : World) (cs : List Value) (S : St) : Prop := ∃ (aa pa ra : Option Addr) (ca cp cr : Nat), cs = [.int .u8 ((S []).k : Int), .string (S []).nm, .slice aa (S []).na ca, .slice pa (S []).np cp, .slice ra (S []).nr cr, .int .i64 (S []).ln, .int .i64 (S []).cl] ∧ LsOk (S []) ∧ (∀ d, XL d W aa (S []).na (S []).args) ∧ XR W ra (S []).nr (S []).rl (S []).rows ∧ ∀ d, SL d W pa (S []).np (part S)
theorem SC.at_ {W : World} {cs : List Value} {S : St} (h : SC W cs S) {b o : Nat} (hc : ∀ j, j < 7 → W.cell? ⟨b, o + j, none⟩ = cs[j]?) : ∀ d, SA d W b o S := by
 intro d
 cases d with
 | zero => trivial
 | succ d =>
  obtain ⟨aa, pa, ra, ca, cp, cr, rfl, hok, ha, hr, hp⟩ := h
  exact ⟨aa, pa, ra, ca, cp, cr, by simpa using hc 0 (by omega), by simpa using hc 1 (by omega), by simpa using hc 2 (by omega), by simpa using hc 3 (by omega), by simpa using hc 4 (by omega), by simpa using hc 5 (by omega), by simpa using hc 6 (by omega), hok, ha, hr, hp d⟩
theorem SC.value {W : World} {cs : List Value} {S : St} (h : SC W cs S) : SV W (.agg cs.toArray) S := by
 obtain ⟨aa, pa, ra, ca, cp, cr, rfl, hok, ha, hr, hp⟩ := h
 exact ⟨⟨aa, pa, ra, ca, cp, cr, rfl, ha, hr, hp⟩, hok⟩
open Go.RowKit Go.ChangeShapes Go.WideShapes
/-- The cells of an item that came in. -/
def IC (W : World) (cs : List Value) (I : It) : Prop := ∃ (vc sc : List Value) (a : Option Addr) (c : Nat), cs = [.int .u8 (I.k : Int), .string I.nm] ++ vc ++ sc ++ [.int .u8 (I.pl : Int), .slice a I.nl c, .int .i64 I.ln, .int .i64 I.cl] ∧ XC W vc I.val ∧ SC W sc I.shp ∧ (∀ d, XL d W a I.nl I.list) ∧ I.k < 256 ∧ I.nm.size ≤ 140737488351232 ∧ I.pl < 256 ∧ I.nl ≤ 140737488351232
theorem IC.at_ {W : World} {cs : List Value} {I : It} (h : IC W cs I) {b o : Nat} (hc : ∀ j, j < 19 → W.cell? ⟨b, o + j, none⟩ = cs[j]?) : IA W b o I := by
 obtain ⟨vc, sc, a, c, rfl, hv, hs, hl, k8, nm, pl, nl⟩ := h
 have hv' := hv
 have hs' := hs
 obtain ⟨_, _, rfl, _⟩ := hv'
 obtain ⟨_, _, _, _, _, _, rfl, _⟩ := hs'
 refine ⟨by simpa using hc 0 (by omega), by simpa using hc 1 (by omega), hv.at_ (fun j hj => ?_), hs.at_ (fun j hj => ?_), by simpa using hc 15 (by omega), ⟨a, c, by simpa using hc 16 (by omega), hl⟩, by simpa using hc 17 (by omega), by simpa using hc 18 (by omega), k8, nm, pl, nl⟩
 ·have := hc (2 + j) (by omega)
  rw [← Nat.add_assoc] at this
  rw [this]
  rcases (by omega : j = 0 ∨ j = 1 ∨ j = 2 ∨ j = 3 ∨ j = 4 ∨ j = 5) with rfl | rfl | rfl | rfl | rfl | rfl <;> rfl
 ·have := hc (8 + j) (by omega)
  rw [← Nat.add_assoc] at this
  rw [this]
  rcases (by omega : j = 0 ∨ j = 1 ∨ j = 2 ∨ j = 3 ∨ j = 4 ∨ j = 5 ∨ j = 6) with rfl | rfl | rfl | rfl | rfl | rfl | rfl <;> rfl
end Go.Proofs.YtemhodenkgngmaaDoor
