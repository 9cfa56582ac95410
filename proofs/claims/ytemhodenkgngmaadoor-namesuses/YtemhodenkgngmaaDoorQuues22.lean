/-
  Stage 10: expressions that came in.
  Stage 10: lists of expressions, rows, shapes and items that came in.
  Stage 10: shapes and items that came in.
  Stage 10: descriptions that came in.
-/
import Derived.Test.YtemhodenkgngmaaDoorQuues00
import Derived.Test.YtemhodenkgngmaaDoorQuues02
import Derived.Deep.Slices
import Derived.SizedLaws
set_option maxRecDepth 100000
set_option maxHeartbeats 16000000
namespace Go.Proofs.YtemhodenkgngmaaDoor
open Go.RowKit Go.ChangeShapes Go.WideShapes
theorem qb6 {H : Type} {P : Program} {e : TypeId} : ∀ {ds : List (DataW H)}, (DataW.weightsAll P e ds).all (· ≤ reachBytes) = true → ∀ d ∈ ds, (d.weights P e).all (· ≤ reachBytes) = true
 | [], _, d, hd => by simp at hd
 | d0 :: r, h, d, hd => by
  simp only [DataW.weightsAll, List.all_append, Bool.and_eq_true] at h
  rcases List.mem_cons.1 hd with rfl | hd
  ·exact h.1
  ·exact qb6 h.2 d hd
theorem qe1 {n : Int} (h : (Lit.int .u8 n).wf = true) : ∃ x : Nat, n = (x : Int) ∧ x < 256 := by
 simp [Lit.wf, IntKind.min, IntKind.max, IntKind.signed, IntKind.bits] at h
 exact ⟨n.toNat, by omega, by omega⟩
theorem i64_wfc {n : Int} (h : (Lit.int .i64 n).wf = true) : -9223372036854775808 ≤ n ∧ n ≤ 9223372036854775807 := by
 simp [Lit.wf, IntKind.min, IntKind.max, IntKind.signed, IntKind.bits] at h
 omega
theorem pickc {α : Type} (d : α) {n : Nat} {P : Nat → α → Prop} (h : ∀ i, i < n → ∃ x, P i x) : ∃ q : Nat → α, ∀ i, i < n → P i (q i) :=
 ⟨fun i => if hi : i < n then Classical.choose (h i hi) else d, fun i hi => by show P i (if hi : i < n then Classical.choose (h i hi) else d); rw [dif_pos hi]; exact Classical.choose_spec (h i hi)⟩
theorem addc (b o j : Nat) : (⟨b, o, none⟩ : Addr).add j = ⟨b, o + j, none⟩ := by unfold Addr.add; split <;> simp_all
theorem cellsX : Tryd.prog.cellsOf 53 = 6 := by kernel_rfl
theorem bytesX : Tryd.prog.bytesOf 53 = 72 := by kernel_rfl
/-- An expression of a label and its parts. -/
def mkX (l : Lx) (F : Nat → Xt) : Xt := fun p => match p with | [] => l | i :: q => F i q
def l0x : Xt := fun _ => ⟨0, 0, ⟨#[]⟩, 0, 0, 0⟩
/-- The cells of an expression that came in. -/
def XC (W : World) (cs : List Value) (T : Xt) : Prop := ∃ (a : Option Addr) (cap : Nat), cs = [.int .u8 ((T []).k : Int), .int .i64 (T []).n, .string (T []).nm, .slice a (T []).len cap, .int .i64 (T []).ln, .int .i64 (T []).cl] ∧ LxOk (T []) ∧ ∀ d, XL d W a (T []).len (kid T)
theorem XC.at_ {W : World} {cs : List Value} {T : Xt} (h : XC W cs T) {b o : Nat} (hc : ∀ j, j < 6 → W.cell? ⟨b, o + j, none⟩ = cs[j]?) : ∀ d, XA d W b o T := by
 intro d
 cases d with
 | zero => trivial
 | succ d =>
  obtain ⟨a, cap, rfl, hok, hl⟩ := h
  exact ⟨a, cap, by simpa using hc 0 (by omega), by simpa using hc 1 (by omega), by simpa using hc 2 (by omega), by simpa using hc 3 (by omega), by simpa using hc 4 (by omega), by simpa using hc 5 (by omega), hok, hl d⟩
theorem XC.value {W : World} {cs : List Value} {T : Xt} (h : XC W cs T) : XV W (.agg cs.toArray) T := by
 obtain ⟨a, cap, rfl, hok, hl⟩ := h
 exact ⟨⟨a, cap, rfl, hl⟩, hok⟩
theorem x_in {H : Type} {enc : TypeId × Value → H} {W : World} : ∀ (fuel : Nat) (cs : List Value) (x : DataW H × List MemPlace), DataW.trod enc Tryd.prog W 0 (fun _ => true) true fuel 53 cs = some x → (x.1.weights Tryd.prog 53).all (· ≤ reachBytes) = true → ∃ T : Xt, XC W cs T := by
 intro fuel
 induction fuel using Nat.strongRecOn with
 | _ fuel ih =>
  intro cs x h hw
  obtain ⟨xs, k, hk, hxy, hlen, hxl, hf⟩ := DataW.trod_struct Tryd.underlying53 h
  rw [cellsX] at hlen
  match xs, hxl, cs, hlen with
  | [y0, y1, y2, y3, y4, y5], _, [v0, v1, v2, v3, v4, v5], _ =>
   have f0 := hf 0 _ rfl
   have f1 := hf 1 _ rfl
   have f2 := hf 2 _ rfl
   have f3 := hf 3 _ rfl
   have f4 := hf 4 _ rfl
   have f5 := hf 5 _ rfl
   have cU : Tryd.prog.cellsOf 50 = 1 := by kernel_rfl
   have cS : Tryd.prog.cellsOf 9 = 1 := by kernel_rfl
   have cI : Tryd.prog.cellsOf 3 = 1 := by kernel_rfl
   have cL : Tryd.prog.cellsOf 51 = 1 := by kernel_rfl
   simp [cU, cS, cI, cL] at f0 f1 f2 f3 f4 f5
   obtain ⟨k0, e0, _, w0⟩ := DataW.trod_int Tryd.underlying50 f0
   obtain ⟨n1, e1, _, w1⟩ := DataW.trod_int Tryd.underlying3 f1
   obtain ⟨s2, e2, hy2, _⟩ := DataW.trod_string Tryd.underlying9 f2
   obtain ⟨n4, e4, _, _⟩ := DataW.trod_int Tryd.underlying3 f4
   obtain ⟨n5, e5, _, _⟩ := DataW.trod_int Tryd.underlying3 f5
   simp only [List.cons.injEq, and_true] at e0 e1 e2 e4 e5
   subst e0 e1 e2 e4 e5
   obtain ⟨kk, rfl, hk8⟩ := qe1 w0
   have b1 := i64_wfc w1
   subst hxy
   simp only [DataW.weights, Tryd.underlying53] at hw
   have hss := sized_string hw (j := 2) (t := 9) (bytes := s2.data.toList) rfl (by simp [hy2])
   simp only [Array.length_toList, reachBytes] at hss
   have hsz : s2.size = s2.data.size := rfl
   have hw3 : (y3.1.weights Tryd.prog 51).all (· ≤ reachBytes) = true := List.all_eq_true.2 fun n hn => List.all_eq_true.1 hw n (DataW.weights_mem_each (j := 3) rfl rfl n hn)
   rcases DataW.trod_slice Tryd.underlying51 f3 with ⟨hcs, _⟩ | hh
   ·simp only [List.cons.injEq, and_true] at hcs
    subst hcs
    exact ⟨mkX ⟨kk, n1, s2, 0, n4, n5⟩ (fun _ => l0x), none, 0, rfl, ⟨hk8, b1.1, b1.2, by show s2.size ≤ _; omega, by show 0 ≤ _; omega⟩, fun d i hi => by have hi : i < 0 := hi; omega⟩
   ·obtain ⟨ad, len, cap, elems, rest, n, hn, hcs, hy3, _, hl, hcap, hel, hget, hsp, _⟩ := hh
    simp only [List.cons.injEq, and_true] at hcs
    subst hcs
    rw [hy3] at hw3
    simp only [DataW.weights, Tryd.underlying51, bytesX, List.all_cons, List.all_append, Bool.and_eq_true, List.length_map] at hw3
    obtain ⟨h1, h2, _⟩ := hw3
    have h1 : (elems.length + rest.length) * 72 ≤ reachBytes := of_decide_eq_true h1
    simp only [reachBytes] at h1
    have hspot : 0 < len → ad.spot = none := fun h0 => by
     have hg := hget 0 h0
     have hi' : 0 < elems.length := by omega
     rw [List.getElem?_eq_getElem hi'] at hg
     obtain ⟨cs', g1, g2⟩ := Option.bind_eq_some_iff.1 hg
     rw [cellsX] at g1
     obtain ⟨_, hlen', hcell⟩ := World.cells?_some g1
     obtain ⟨T, a', cap', e', _, _⟩ := ih n (by omega) cs' _ g2 (qb6 h2 _ (List.mem_map.2 ⟨_, List.getElem_mem hi', rfl⟩))
     have z0 := hcell 0 (by omega)
     rw [e'] at z0
     simpa [Addr.add] using World.cell?_spot z0
    have each : ∀ i, i < len → ∃ T : Xt, ∃ b o, ad = ⟨b, o, none⟩ ∧ ∀ d, XA d W b (o + i * 6) T := fun i hi => by
     have hg := hget i hi
     have hi' : i < elems.length := by omega
     rw [List.getElem?_eq_getElem hi'] at hg
     obtain ⟨cs', g1, g2⟩ := Option.bind_eq_some_iff.1 hg
     rw [cellsX] at g1
     obtain ⟨_, hlen', hcell⟩ := World.cells?_some g1
     obtain ⟨T, hT⟩ := ih n (by omega) cs' _ g2 (qb6 h2 _ (List.mem_map.2 ⟨_, List.getElem_mem hi', rfl⟩))
     have hp := hspot (by omega)
     rcases ad with ⟨b, o, p⟩
     have hp : p = none := hp
     subst hp
     refine ⟨T, b, o, rfl, hT.at_ (fun j hj => ?_)⟩
     have hj' := hcell j (by omega)
     rw [addc, addc] at hj'
     exact hj'
    obtain ⟨F, hF⟩ := pickc l0x each
    refine ⟨mkX ⟨kk, n1, s2, len, n4, n5⟩ F, some ad, cap, rfl, ⟨hk8, b1.1, b1.2, by show s2.size ≤ _; omega, by show len ≤ _; omega⟩, fun d i hi => ?_⟩
    obtain ⟨b, o, e, h⟩ := hF i hi
    exact ⟨b, o, by rw [e], h d⟩
open Go.RowKit Go.ChangeShapes Go.WideShapes
/-- A slice that came in, by what its elements are. -/
theorem sl_in {H : Type} {enc : TypeId × Value → H} {W : World} {t e : TypeId} {c bb : Nat} {α : Type} (dflt : α) (Q : List Value → α → Prop) (ht : Tryd.prog.underlying t = some (.slice e)) (hc : Tryd.prog.cellsOf e = c) (hc0 : 0 < c) (hb : Tryd.prog.bytesOf e = bb)
  {fuel : Nat} {v : Value} {y : DataW H × List MemPlace} (h : DataW.trod enc Tryd.prog W 0 (fun _ => true) true fuel t [v] = some y) (hw : (y.1.weights Tryd.prog t).all (· ≤ reachBytes) = true)
  (hq : ∀ n cs (z : DataW H × List MemPlace), n < fuel → DataW.trod enc Tryd.prog W 0 (fun _ => true) true n e cs = some z → (z.1.weights Tryd.prog e).all (· ≤ reachBytes) = true → ∃ a, Q cs a) :
  ∃ (a : Option Addr) (len cap : Nat) (F : Nat → α), v = .slice a len cap ∧ len * bb ≤ reachBytes ∧ ∀ i, i < len → ∃ b o cs', a = some ⟨b, o, none⟩ ∧ Q cs' (F i) ∧ ∀ j, j < c → W.cell? ⟨b, o + i * c + j, none⟩ = cs'[j]? := by
 rcases DataW.trod_slice ht h with ⟨hcs, _⟩ | ⟨ad, len, cap, elems, rest, n, hn, hcs, hy3, _, hl, hcap, hel, hget, hsp, _⟩
 ·simp only [List.cons.injEq, and_true] at hcs
  exact ⟨none, 0, 0, fun _ => dflt, hcs, by omega, fun i hi => by omega⟩
 ·simp only [List.cons.injEq, and_true] at hcs
  subst hcs
  rw [hy3] at hw
  simp only [DataW.weights, ht, hb, List.all_cons, List.all_append, Bool.and_eq_true, List.length_map] at hw
  obtain ⟨h1, h2, _⟩ := hw
  have h1 : (elems.length + rest.length) * bb ≤ reachBytes := of_decide_eq_true h1
  have hspot : 0 < len → ad.spot = none := fun h0 => by
   have hg := hget 0 h0
   have hi' : 0 < elems.length := by omega
   rw [List.getElem?_eq_getElem hi'] at hg
   obtain ⟨cs', g1, g2⟩ := Option.bind_eq_some_iff.1 hg
   rw [hc] at g1
   obtain ⟨_, hlen', hcell⟩ := World.cells?_some g1
   have z0 := hcell 0 hc0
   rw [List.getElem?_eq_getElem (by omega)] at z0
   simpa [Addr.add] using World.cell?_spot z0
  have each : ∀ i, i < len → ∃ T : α, ∃ b o cs', ad = ⟨b, o, none⟩ ∧ Q cs' T ∧ ∀ j, j < c → W.cell? ⟨b, o + i * c + j, none⟩ = cs'[j]? := fun i hi => by
   have hg := hget i hi
   have hi' : i < elems.length := by omega
   rw [List.getElem?_eq_getElem hi'] at hg
   obtain ⟨cs', g1, g2⟩ := Option.bind_eq_some_iff.1 hg
   rw [hc] at g1
   obtain ⟨_, hlen', hcell⟩ := World.cells?_some g1
   obtain ⟨T, hT⟩ := hq n cs' _ (by omega) g2 (qb6 h2 _ (List.mem_map.2 ⟨_, List.getElem_mem hi', rfl⟩))
   have hp := hspot (by omega)
   rcases ad with ⟨b, o, p⟩
   have hp : p = none := hp
   subst hp
   refine ⟨T, b, o, cs', rfl, hT, fun j hj => ?_⟩
   have hj' := hcell j hj
   rw [addc, addc] at hj'
   exact hj'
  obtain ⟨F, hF⟩ := pickc dflt each
  refine ⟨some ad, len, cap, F, rfl, ?_, fun i hi => ?_⟩
  ·refine Nat.le_trans (Nat.mul_le_mul_right bb ?_) h1
   omega
  ·obtain ⟨b, o, cs', e, hT, hcc⟩ := hF i hi
   exact ⟨b, o, cs', by rw [e], hT, hcc⟩
/-- A list of expressions that came in. -/
theorem xs_in {H : Type} {enc : TypeId × Value → H} {W : World} {fuel : Nat} {v : Value} {y : DataW H × List MemPlace} (h : DataW.trod enc Tryd.prog W 0 (fun _ => true) true fuel 51 [v] = some y) (hw : (y.1.weights Tryd.prog 51).all (· ≤ reachBytes) = true) :
  ∃ (a : Option Addr) (len cap : Nat) (F : Nat → Xt), v = .slice a len cap ∧ len ≤ 140737488351232 ∧ ∀ d, XL d W a len F := by
 obtain ⟨a, len, cap, F, e, hl, hF⟩ := sl_in l0x (fun cs T => XC W cs T) Tryd.underlying51 cellsX (by omega) bytesX h hw (fun n cs z _ hz hwz => x_in n cs z hz hwz)
 simp only [reachBytes] at hl
 refine ⟨a, len, cap, F, e, by omega, fun d i hi => ?_⟩
 obtain ⟨b, o, cs', e, hT, hc⟩ := hF i hi
 exact ⟨b, o, e, hT.at_ hc d⟩
theorem cellsL : Tryd.prog.cellsOf 51 = 1 := by kernel_rfl
theorem bytesL : Tryd.prog.bytesOf 51 = 24 := by kernel_rfl
/-- Rows that came in. -/
theorem rows_in {H : Type} {enc : TypeId × Value → H} {W : World} {fuel : Nat} {v : Value} {y : DataW H × List MemPlace} (h : DataW.trod enc Tryd.prog W 0 (fun _ => true) true fuel 56 [v] = some y) (hw : (y.1.weights Tryd.prog 56).all (· ≤ reachBytes) = true) :
  ∃ (a : Option Addr) (len cap : Nat) (rl : Nat → Nat) (F : Nat → Nat → Xt), v = .slice a len cap ∧ len ≤ 140737488351232 ∧ (∀ i, i < len → rl i ≤ 140737488351232) ∧ XR W a len rl F := by
 obtain ⟨a, len, cap, F, e, hl, hF⟩ := sl_in (α := Nat × (Nat → Xt)) (0, fun _ => l0x) (fun cs R => ∃ a' c', cs = [.slice a' R.1 c'] ∧ R.1 ≤ 140737488351232 ∧ ∀ d, XL d W a' R.1 R.2) Tryd.underlying56 cellsL (by omega) bytesL h hw (fun n cs z _ hz hwz => by
  have hlen : cs.length = 1 := by
   rcases DataW.trod_slice Tryd.underlying51 hz with ⟨e, _⟩ | ⟨_, _, _, _, _, _, _, e, _⟩ <;> rw [e] <;> rfl
  match cs, hlen with
  | [v'], _ =>
   obtain ⟨a', len', cap', G, e, hl, hG⟩ := xs_in hz hwz
   exact ⟨(len', G), a', cap', by rw [e], hl, hG⟩)
 simp only [reachBytes] at hl
 refine ⟨a, len, cap, fun i => (F i).1, fun i => (F i).2, e, by omega, fun i hi => ?_, fun i hi => ?_⟩
 ·obtain ⟨b, o, cs', _, ⟨a', c', _, h, _⟩, _⟩ := hF i hi
  exact h
 ·obtain ⟨b, o, cs', e, ⟨a', c', rfl, _, hG⟩, hc⟩ := hF i hi
  refine ⟨b, o, a', c', e, ?_, hG⟩
  have := hc 0 (by omega)
  rw [Nat.mul_one, Nat.add_zero] at this
  exact this
open Go.RowKit Go.ChangeShapes Go.WideShapes
theorem cellsS : Tryd.prog.cellsOf 58 = 7 := by kernel_rfl
theorem bytesS : Tryd.prog.bytesOf 58 = 112 := by kernel_rfl
/-- A shape of a label and its parts. -/
def mkS (l : Ls) (F : Nat → St) : St := fun p => match p with | [] => l | i :: q => F i q
def l0s : St := fun _ => ⟨0, ⟨#[]⟩, 0, fun _ => l0x, 0, 0, fun _ => 0, fun _ _ => l0x, 0, 0⟩
/-- The cells of a shape that came in. -/
def SC (W : World) (cs : List Value) (S : St) : Prop := ∃ (aa pa ra : Option Addr) (ca cp cr : Nat), cs = [.int .u8 ((S []).k : Int), .string (S []).nm, .slice aa (S []).na ca, .slice pa (S []).np cp, .slice ra (S []).nr cr, .int .i64 (S []).ln, .int .i64 (S []).cl] ∧ LsOk (S []) ∧ (∀ d, XL d W aa (S []).na (S []).args) ∧ XR W ra (S []).nr (S []).rl (S []).rows ∧ ∀ d, SL d W pa (S []).np (part S)
theorem SC.at_ {W : World} {cs : List Value} {S : St} (h : SC W cs S) {b o : Nat} (hc : ∀ j, j < 7 → W.cell? ⟨b, o + j, none⟩ = cs[j]?) : ∀ d, SA d W b o S := by
 intro d
 cases d with
 | zero => trivial
 | succ d =>
  obtain ⟨aa, pa, ra, ca, cp, cr, rfl, hok, ha, hr, hp⟩ := h
  exact ⟨aa, pa, ra, ca, cp, cr, by simpa using hc 0 (by omega), by simpa using hc 1 (by omega), by simpa using hc 2 (by omega), by simpa using hc 3 (by omega), by simpa using hc 4 (by omega), by simpa using hc 5 (by omega), by simpa using hc 6 (by omega), hok, ha, hr, hp d⟩
theorem SC.value {W : World} {cs : List Value} {S : St} (h : SC W cs S) : SV W (.agg cs.toArray) S := by
 obtain ⟨aa, pa, ra, ca, cp, cr, rfl, hok, ha, hr, hp⟩ := h
 exact ⟨⟨aa, pa, ra, ca, cp, cr, rfl, ha, hr, hp⟩, hok⟩
theorem s_in {H : Type} {enc : TypeId × Value → H} {W : World} : ∀ (fuel : Nat) (cs : List Value) (x : DataW H × List MemPlace), DataW.trod enc Tryd.prog W 0 (fun _ => true) true fuel 58 cs = some x → (x.1.weights Tryd.prog 58).all (· ≤ reachBytes) = true → ∃ S : St, SC W cs S := by
 intro fuel
 induction fuel using Nat.strongRecOn with
 | _ fuel ih =>
  intro cs x h hw
  obtain ⟨xs, k, hk, hxy, hlen, hxl, hf⟩ := DataW.trod_struct Tryd.underlying58 h
  rw [cellsS] at hlen
  match xs, hxl, cs, hlen with
  | [y0, y1, y2, y3, y4, y5, y6], _, [v0, v1, v2, v3, v4, v5, v6], _ =>
   have f0 := hf 0 _ rfl
   have f1 := hf 1 _ rfl
   have f2 := hf 2 _ rfl
   have f3 := hf 3 _ rfl
   have f4 := hf 4 _ rfl
   have f5 := hf 5 _ rfl
   have f6 := hf 6 _ rfl
   have cU : Tryd.prog.cellsOf 54 = 1 := by kernel_rfl
   have cS : Tryd.prog.cellsOf 9 = 1 := by kernel_rfl
   have cI : Tryd.prog.cellsOf 3 = 1 := by kernel_rfl
   have cP : Tryd.prog.cellsOf 55 = 1 := by kernel_rfl
   have cR : Tryd.prog.cellsOf 56 = 1 := by kernel_rfl
   simp [cU, cS, cI, cellsL, cP, cR] at f0 f1 f2 f3 f4 f5 f6
   obtain ⟨k0, e0, _, w0⟩ := DataW.trod_int Tryd.underlying54 f0
   obtain ⟨s1, e1, hy1, _⟩ := DataW.trod_string Tryd.underlying9 f1
   obtain ⟨n5, e5, _, _⟩ := DataW.trod_int Tryd.underlying3 f5
   obtain ⟨n6, e6, _, _⟩ := DataW.trod_int Tryd.underlying3 f6
   simp only [List.cons.injEq, and_true] at e0 e1 e5 e6
   subst e0 e1 e5 e6
   obtain ⟨kk, rfl, hk8⟩ := qe1 w0
   subst hxy
   simp only [DataW.weights, Tryd.underlying58] at hw
   have hss := sized_string hw (j := 1) (t := 9) (bytes := s1.data.toList) rfl (by simp [hy1])
   simp only [Array.length_toList, reachBytes] at hss
   have hsz : s1.size = s1.data.size := rfl
   have hw2 : (y2.1.weights Tryd.prog 51).all (· ≤ reachBytes) = true := List.all_eq_true.2 fun n hn => List.all_eq_true.1 hw n (DataW.weights_mem_each (j := 2) rfl rfl n hn)
   have hw3 : (y3.1.weights Tryd.prog 55).all (· ≤ reachBytes) = true := List.all_eq_true.2 fun n hn => List.all_eq_true.1 hw n (DataW.weights_mem_each (j := 3) rfl rfl n hn)
   have hw4 : (y4.1.weights Tryd.prog 56).all (· ≤ reachBytes) = true := List.all_eq_true.2 fun n hn => List.all_eq_true.1 hw n (DataW.weights_mem_each (j := 4) rfl rfl n hn)
   obtain ⟨aa, na, ca, A, rfl, ha, hA⟩ := xs_in f2 hw2
   obtain ⟨ra, nr, cr, rl, R, rfl, hr, hrl, hR⟩ := rows_in f4 hw4
   obtain ⟨pa, np, cp, F, rfl, hp, hF⟩ := sl_in l0s (fun cs S => SC W cs S) Tryd.underlying55 cellsS (by omega) bytesS f3 hw3 (fun n cs z hn hz hwz => ih n (by omega) cs z hz hwz)
   simp only [reachBytes] at hp
   refine ⟨mkS ⟨kk, s1, na, A, np, nr, rl, R, n5, n6⟩ F, aa, pa, ra, ca, cp, cr, rfl, ⟨hk8, by show s1.size ≤ _; omega, ha, by show np ≤ _; omega, hr, hrl⟩, hA, hR, fun d i hi => ?_⟩
   obtain ⟨b, o, cs', e, hT, hc⟩ := hF i hi
   exact ⟨b, o, e, hT.at_ hc d⟩
theorem cellsI : Tryd.prog.cellsOf 61 = 19 := by kernel_rfl
theorem bytesI : Tryd.prog.bytesOf 61 = 256 := by kernel_rfl
open Go.RowKit Go.ChangeShapes Go.WideShapes
/-- The cells of an item that came in. -/
def IC (W : World) (cs : List Value) (I : It) : Prop := ∃ (vc sc : List Value) (a : Option Addr) (c : Nat), cs = [.int .u8 (I.k : Int), .string I.nm] ++ vc ++ sc ++ [.int .u8 (I.pl : Int), .slice a I.nl c, .int .i64 I.ln, .int .i64 I.cl] ∧ XC W vc I.val ∧ SC W sc I.shp ∧ (∀ d, XL d W a I.nl I.list) ∧ I.k < 256 ∧ I.nm.size ≤ 140737488351232 ∧ I.pl < 256 ∧ I.nl ≤ 140737488351232
theorem IC.at_ {W : World} {cs : List Value} {I : It} (h : IC W cs I) {b o : Nat} (hc : ∀ j, j < 19 → W.cell? ⟨b, o + j, none⟩ = cs[j]?) : IA W b o I := by
 obtain ⟨vc, sc, a, c, rfl, hv, hs, hl, k8, nm, pl, nl⟩ := h
 have hv' := hv
 have hs' := hs
 obtain ⟨_, _, rfl, _⟩ := hv'
 obtain ⟨_, _, _, _, _, _, rfl, _⟩ := hs'
 refine ⟨by simpa using hc 0 (by omega), by simpa using hc 1 (by omega), hv.at_ (fun j hj => ?_), hs.at_ (fun j hj => ?_), by simpa using hc 15 (by omega), ⟨a, c, by simpa using hc 16 (by omega), hl⟩, by simpa using hc 17 (by omega), by simpa using hc 18 (by omega), k8, nm, pl, nl⟩
 ·have := hc (2 + j) (by omega)
  rw [← Nat.add_assoc] at this
  rw [this]
  rcases (by omega : j = 0 ∨ j = 1 ∨ j = 2 ∨ j = 3 ∨ j = 4 ∨ j = 5) with rfl | rfl | rfl | rfl | rfl | rfl <;> rfl
 ·have := hc (8 + j) (by omega)
  rw [← Nat.add_assoc] at this
  rw [this]
  rcases (by omega : j = 0 ∨ j = 1 ∨ j = 2 ∨ j = 3 ∨ j = 4 ∨ j = 5 ∨ j = 6) with rfl | rfl | rfl | rfl | rfl | rfl | rfl <;> rfl
theorem i_in {H : Type} {enc : TypeId × Value → H} {W : World} {fuel : Nat} {cs : List Value} {x : DataW H × List MemPlace} (h : DataW.trod enc Tryd.prog W 0 (fun _ => true) true fuel 61 cs = some x) (hw : (x.1.weights Tryd.prog 61).all (· ≤ reachBytes) = true) : ∃ I : It, IC W cs I := by
 obtain ⟨xs, k, hk, hxy, hlen, hxl, hf⟩ := DataW.trod_struct Tryd.underlying61 h
 rw [cellsI] at hlen
 match xs, hxl, cs, hlen with
 | [y0, y1, y2, y3, y4, y5, y6, y7], _, [v0, v1, v2, v3, v4, v5, v6, v7, v8, v9, v10, v11, v12, v13, v14, v15, v16, v17, v18], _ =>
  have f0 := hf 0 _ rfl
  have f1 := hf 1 _ rfl
  have f2 := hf 2 _ rfl
  have f3 := hf 3 _ rfl
  have f4 := hf 4 _ rfl
  have f5 := hf 5 _ rfl
  have f6 := hf 6 _ rfl
  have f7 := hf 7 _ rfl
  have cU : Tryd.prog.cellsOf 49 = 1 := by kernel_rfl
  have cQ : Tryd.prog.cellsOf 59 = 1 := by kernel_rfl
  have cS : Tryd.prog.cellsOf 9 = 1 := by kernel_rfl
  have cI : Tryd.prog.cellsOf 3 = 1 := by kernel_rfl
  simp [cU, cQ, cS, cI, cellsL, cellsX, cellsS] at f0 f1 f2 f3 f4 f5 f6 f7
  obtain ⟨k0, e0, _, w0⟩ := DataW.trod_int Tryd.underlying49 f0
  obtain ⟨s1, e1, hy1, _⟩ := DataW.trod_string Tryd.underlying9 f1
  obtain ⟨k4, e4, _, w4⟩ := DataW.trod_int Tryd.underlying59 f4
  obtain ⟨n6, e6, _, _⟩ := DataW.trod_int Tryd.underlying3 f6
  obtain ⟨n7, e7, _, _⟩ := DataW.trod_int Tryd.underlying3 f7
  simp only [List.cons.injEq, and_true] at e0 e1 e4 e6 e7
  subst e0 e1 e4 e6 e7
  obtain ⟨kk, rfl, hk8⟩ := qe1 w0
  obtain ⟨pp, rfl, hp8⟩ := qe1 w4
  subst hxy
  simp only [DataW.weights, Tryd.underlying61] at hw
  have hss := sized_string hw (j := 1) (t := 9) (bytes := s1.data.toList) rfl (by simp [hy1])
  simp only [Array.length_toList, reachBytes] at hss
  have hsz : s1.size = s1.data.size := rfl
  have hw2 : (y2.1.weights Tryd.prog 53).all (· ≤ reachBytes) = true := List.all_eq_true.2 fun n hn => List.all_eq_true.1 hw n (DataW.weights_mem_each (j := 2) rfl rfl n hn)
  have hw3 : (y3.1.weights Tryd.prog 58).all (· ≤ reachBytes) = true := List.all_eq_true.2 fun n hn => List.all_eq_true.1 hw n (DataW.weights_mem_each (j := 3) rfl rfl n hn)
  have hw5 : (y5.1.weights Tryd.prog 51).all (· ≤ reachBytes) = true := List.all_eq_true.2 fun n hn => List.all_eq_true.1 hw n (DataW.weights_mem_each (j := 5) rfl rfl n hn)
  obtain ⟨V, hV⟩ := x_in _ _ _ f2 hw2
  obtain ⟨S, hS⟩ := s_in _ _ _ f3 hw3
  obtain ⟨a, nl, c, F, rfl, hl, hF⟩ := xs_in f5 hw5
  exact ⟨⟨kk, s1, V, S, pp, nl, F, n6, n7⟩, _, _, a, c, rfl, hV, hS, hF, hk8, by show s1.size ≤ _; omega, hp8, hl⟩
def l0i : It := ⟨0, ⟨#[]⟩, l0x, l0s, 0, 0, fun _ => l0x, 0, 0⟩
/-- A description that came in. -/
theorem its_in {H : Type} {enc : TypeId × Value → H} {W : World} {fuel : Nat} {v : Value} {y : DataW H × List MemPlace} (h : DataW.trod enc Tryd.prog W 0 (fun _ => true) true fuel 22 [v] = some y) (hw : (y.1.weights Tryd.prog 22).all (· ≤ reachBytes) = true) :
  ∃ (a : Option Addr) (len cap : Nat) (F : Nat → It), v = .slice a len cap ∧ len ≤ 549755813888 ∧ Its W a len F := by
 obtain ⟨a, len, cap, F, e, hl, hF⟩ := sl_in l0i (fun cs I => IC W cs I) Tryd.underlying22 cellsI (by omega) bytesI h hw (fun n cs z _ hz hwz => i_in hz hwz)
 simp only [reachBytes] at hl
 refine ⟨a, len, cap, F, e, by omega, fun i hi => ?_⟩
 obtain ⟨b, o, cs', e, hT, hc⟩ := hF i hi
 exact ⟨b, o, e, hT.at_ hc⟩
end Go.Proofs.YtemhodenkgngmaaDoor
