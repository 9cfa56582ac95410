/-
  Stage 21: flows that came in, with what a copy of them asks.
  Stage 21: Spoil of a list that has no room: what it leaves there are bytes again.
-/
import Derived.Test.YtkfnedpnkeacpaaQffsh00
import Derived.Test.YtkfnedpnkeacpaaQffsh23
import Derived.Test.YtkfnedpnkeacpaaQffsh41
import Derived.Test.YtkfnedpnkeacpaaQffsh42
set_option maxRecDepth 100000
set_option maxHeartbeats 16000000
namespace Go.Proofs.Ytkfnedpnkeacpaa
open Go.RowKit Go.ChangeShapes Go.WideShapes
/-- A slice that came in and lies nowhere is empty and has no room. -/
theorem qe0 {H : Type} {enc : TypeId × Value → H} {W : World} {t e : TypeId} (ht : Try.prog.underlying t = some (.slice e)) {fuel : Nat} {v : Value} {y : DataW H × List MemPlace} (h : DataW.trod enc Try.prog W 0 (fun _ => true) true fuel t [v] = some y) {a : Option Addr} {len cap : Nat} (hv : v = .slice a len cap) : a = none → len = 0 ∧ cap = 0 := by
 intro ha
 subst ha
 rcases DataW.trod_slice ht h with ⟨hcs, _⟩ | ⟨ad, len', cap', elems, rest, n, hn, hcs, _⟩
 ·simp only [List.cons.injEq, and_true] at hcs
  rw [hv] at hcs
  simp only [Value.slice.injEq, true_and] at hcs
  exact hcs
 ·simp only [List.cons.injEq, and_true] at hcs
  rw [hv] at hcs
  simp at hcs
/-- A list of numbers that came in. -/
theorem qe1 {H : Type} {enc : TypeId × Value → H} {W : World} {fuel : Nat} {v : Value} {y : DataW H × List MemPlace} (h : DataW.trod enc Try.prog W 0 (fun _ => true) true fuel 25 [v] = some y) (hw : (y.1.weights Try.prog 25).all (· ≤ reachBytes) = true) :
  ∃ (a : Option Addr) (len cap : Nat) (q : Nat → Int), v = .slice a len cap ∧ len * 8 ≤ 140737488351232 ∧ Jl W a .i64 len q ∧ (a = none → len = 0 ∧ cap = 0) := by
 obtain ⟨a, len, cap, F, e, hl, hF⟩ := qd8 (0 : Int) (fun cs x => cs = [.int .i64 x]) Try.underlying25 qdw (by omega) bytesI21 h hw (fun n cs z _ hz _ => by
  obtain ⟨x, ex, _, _⟩ := DataW.trod_int Try.underlying3 hz
  exact ⟨x, ex⟩)
 simp only [reachBytes] at hl
 refine ⟨a, len, cap, F, e, by omega, fun i hi => ?_, qe0 Try.underlying25 h e⟩
 obtain ⟨b, o, cs', e, rfl, hc⟩ := hF i hi
 exact ⟨b, o, e, by simpa using hc 0 (by omega)⟩
/-- A list of terms that came in. -/
theorem qfl {H : Type} {enc : TypeId × Value → H} {W : World} {fuel : Nat} {v : Value} {y : DataW H × List MemPlace} (h : DataW.trod enc Try.prog W 0 (fun _ => true) true fuel 59 [v] = some y) (hw : (y.1.weights Try.prog 59).all (· ≤ reachBytes) = true) :
  ∃ (a : Option Addr) (len cap : Nat) (L : Nat → Trm), v = .slice a len cap ∧ len * 16 ≤ 140737488351232 ∧ Tml W a len (fun i => (L i).1) (fun i => (L i).2) ∧ (a = none → len = 0 ∧ cap = 0) := by
 obtain ⟨a, len, cap, F, e, hl, hF⟩ := qd8 (α := Trm) (0, 0) (fun cs c => cs = [.int .i64 c.1, .int .u8 (c.2 : Int)] ∧ c.2 < 256) Try.underlying59 qdx (by omega) bytesT21 h hw (fun n cs z _ hz hwz => by
  obtain ⟨xs, k, hk, hxy, hlen, hxl, hf⟩ := DataW.trod_struct Try.underlying61 hz
  rw [qdx] at hlen
  match xs, hxl, cs, hlen with
  | [y0, y1], _, [v0, v1], _ =>
   have f0 := hf 0 _ rfl
   have f1 := hf 1 _ rfl
   simp [qdw, cellsU21] at f0 f1
   obtain ⟨n0, e0, _, w0⟩ := DataW.trod_int Try.underlying3 f0
   obtain ⟨n1, e1, _, w1⟩ := DataW.trod_int Try.underlying5 f1
   simp only [List.cons.injEq, and_true] at e0 e1
   subst e0 e1
   have hb : 0 ≤ n1 ∧ n1 < 256 := by simp [Lit.wf, IntKind.min, IntKind.max, IntKind.signed, IntKind.bits] at w1; omega
   obtain ⟨kk, rfl⟩ := Int.eq_ofNat_of_zero_le hb.1
   exact ⟨(n0, kk), rfl, by omega⟩)
 simp only [reachBytes] at hl
 refine ⟨a, len, cap, F, e, by omega, fun i hi => ?_, qe0 Try.underlying59 h e⟩
 obtain ⟨b, o, cs', e, ⟨rfl, hk⟩, hc⟩ := hF i hi
 exact ⟨hk, b, o, e, by simpa using hc 0 (by omega), by simpa using hc 1 (by omega)⟩
/-- A list of nodes that came in. -/
theorem qfm {H : Type} {enc : TypeId × Value → H} {W : World} {fuel : Nat} {v : Value} {y : DataW H × List MemPlace} (h : DataW.trod enc Try.prog W 0 (fun _ => true) true fuel 26 [v] = some y) (hw : (y.1.weights Try.prog 26).all (· ≤ reachBytes) = true) :
  ∃ (a : Option Addr) (len cap : Nat) (nt : Nat → Nat) (L : Nat → Nat → Trm), v = .slice a len cap ∧ len * 24 ≤ 140737488351232 ∧ Ndx W a len nt (fun i j => (L i j).1) (fun i j => (L i j).2) := by
 obtain ⟨a, len, cap, F, e, hl, hF⟩ := qd8 (α := Nat × (Nat → Trm)) (0, fun _ => (0, 0)) (fun cs R => ∃ a' c', cs = [.slice a' R.1 c'] ∧ R.1 * 16 ≤ 140737488351232 ∧ Tml W a' R.1 (fun i => (R.2 i).1) (fun i => (R.2 i).2) ∧ (a' = none → R.1 = 0 ∧ c' = 0)) Try.underlying26 cellsL21 (by omega) bytesL21 h hw (fun n cs z _ hz hwz => by
  have hlen : cs.length = 1 := by
   rcases DataW.trod_slice Try.underlying59 hz with ⟨e, _⟩ | ⟨_, _, _, _, _, _, _, e, _⟩ <;> rw [e] <;> rfl
  match cs, hlen with
  | [v'], _ =>
   obtain ⟨a', len', cap', G, e, hl, hG, h0⟩ := qfl hz hwz
   exact ⟨(len', G), a', cap', by rw [e], hl, hG, h0⟩)
 simp only [reachBytes] at hl
 refine ⟨a, len, cap, fun i => (F i).1, fun i => (F i).2, e, by omega, fun i hi => ?_⟩
 obtain ⟨b, o, cs', e, ⟨a', c', rfl, hl2, hG, h0⟩, hc⟩ := hF i hi
 refine ⟨hl2, b, o, a', c', e, ?_, hG, h0⟩
 have := hc 0 (by omega)
 rw [Nat.mul_one, Nat.add_zero] at this
 exact this
/-- Three cells are a flow that can be copied. -/
def IsFx (w : World) (x y z : Value) : Prop := ∃ a p b q c r F, x = .slice a F.ni p ∧ y = .slice b F.nn q ∧ z = .slice c F.no r ∧ FlX w a p b c r F
theorem Ndx.ndl {w : World} {b : Option Addr} {m : Nat} {nt : Nat → Nat} {f : Nat → Nat → Int} {g : Nat → Nat → Nat} (h : Ndx w b m nt f g) : Ndl w b m nt f g := fun i hi => by
 obtain ⟨h1, x, o, t, d, e, c, ht, _⟩ := h i hi
 exact ⟨by omega, x, o, t, d, e, c, ht⟩
theorem flow_inx {H : Type} {enc : TypeId × Value → H} {W : World} {f1 f2 f3 : Nat} {x y z : Value} {dx dy dz : DataW H × List MemPlace}
  (hx : DataW.trod enc Try.prog W 0 (fun _ => true) true f1 25 [x] = some dx) (hy : DataW.trod enc Try.prog W 0 (fun _ => true) true f2 26 [y] = some dy) (hz : DataW.trod enc Try.prog W 0 (fun _ => true) true f3 25 [z] = some dz)
  (wx : (dx.1.weights Try.prog 25).all (· ≤ reachBytes) = true) (wy : (dy.1.weights Try.prog 26).all (· ≤ reachBytes) = true) (wz : (dz.1.weights Try.prog 25).all (· ≤ reachBytes) = true) : IsFx W x y z := by
 obtain ⟨a, n, p, q1, rfl, h1, h2, a0⟩ := qe1 hx wx
 obtain ⟨b, m, q, nt, L, rfl, h3, h4⟩ := qfm hy wy
 obtain ⟨c, k, r, q2, rfl, h5, h6, c0⟩ := qe1 hz wz
 exact ⟨a, p, b, q, c, r, ⟨n, q1, m, nt, fun i j => (L i j).1, fun i j => (L i j).2, k, q2⟩, rfl, rfl, rfl, ⟨⟨by show n ≤ _; omega, by show m ≤ _; omega, by show k ≤ _; omega, h2, h4.ndl, h6⟩, a0, c0, h1, h5, h3, h4⟩⟩
open Go.RowKit
/-- A list without room, and any other one behind it: a new list. -/
theorem qbe {ops : Array Oper} {rest : List Oper} {o : Oper} {a : Act} {Q : Exit → Act → World → Prop} {w : World} (hgd : o.guard = none) (s x : Operand)
  (ho : o.op = .call { callee := .builtin .append, args := #[s, x], argTypes := #[22, 22] })
  (g n : Nat) (xs : List Value) (hs : a.eval s = .slice (some ⟨g, 0, none⟩) n n) (hown : w.ownsRow 0 5 1 (.slice (some ⟨g, 0, none⟩) n n) n xs)
  (ad : Addr) (m c : Nat) (news : List Value) (hx : a.eval x = .slice (some ad) m c) (hl : news.length = m * 1) (hnews : ∀ j u, news[j]? = some u → w.cell? (ad.add j) = some u) (hm : 0 < m)
  (h63 : n + m ≤ 140737488355328)
  (h : ∀ d w', w'.ownsRow w.heap.size 5 1 (.slice (some ⟨w.heap.size, 0, none⟩) (n + m) d) (n + m) (xs ++ news) → Below w.heap.size w w' → wpList Try.prog ops Q rest (a.put o.dst (.slice (some ⟨w.heap.size, 0, none⟩) (n + m) d)) w') : wpList Try.prog ops Q (o :: rest) a w := by
 obtain ⟨i0, hi, hz0, hz1, hz2⟩ := info_parts qcr
 have hmx : n + m ≤ maxLen := by unfold maxLen; omega
 have holds : ∀ j u, xs[j]? = some u → w.cell? ((⟨g, 0, none⟩ : Addr).add j) = some u := hown.cells (g := g) rfl
 have hr := run_append_grow (P := Try.prog) w 22 o.type 5 i0 (.int .u8 0) Try.underlying22 hi hz0 ⟨g, 0, none⟩ n n xs (by rw [hz1]; exact hown.1) holds ad m c news (by rw [hz1]; exact hl) hnews (by omega) (by omega) (growslice_fits (by omega) (by rw [hz2]; omega))
 have hge := grownCap_ge w (n + m) n 5
 have hcm := grownCap_le_maxLen w (n + m) n 5 hmx
 have hlen : (xs ++ news).length = (n + m) * 1 := by rw [List.length_append, hown.1, hl, Nat.add_mul]
 refine wpList_plain hgd fun K hK => ?_
 unfold Oper.wp execOp
 simp only [ho, resolve, invoke, builtin, Sem.run_bind, Sem.run_pure, Result.andThen_ok, List.map_toArray, List.map_cons, List.map_nil, hs, hx, hr]
 refine hK _ _ (h _ _ ⟨hlen, .inr ⟨w.heap.size, _, _, rfl, Nat.le_refl _, heap_alloc_new w.drew _, hge, hcm, ?_, ?_⟩⟩ (jtwo (qal w) (jlow w.drew _)))
 ·simp only [Array.size_append, List.size_toArray, size_zeroCells, hown.1, hl, Value.cells]
  simp
  omega
 ·simp only [Array.toList_append, List.append_assoc]
  rw [← List.append_assoc, ← hlen]
  exact List.take_left
/-- A list of bytes, all of it. -/
def Rb (w : World) (g n : Nat) : Prop := ∃ f : Nat → Nat, RowAt w g 5 n f ∧ ∀ i, i < n → f i < 256
theorem Rb.later {w w' : World} {g n : Nat} (h : Rb w g n) (hb : Below w.heap.size w w') : Rb w' g n := by
 obtain ⟨f, h1, h2⟩ := h
 exact ⟨f, h1.later hb, h2⟩
theorem Rb.set {w : World} {g n k x : Nat} (h : Rb w g n) (hx : x < 256) : Rb (w.setCell ⟨g, k, none⟩ (.int .u8 (x : Int))) g n := by
 obtain ⟨f, h1, h2⟩ := h
 refine ⟨fun i => if i = k then x else f i, h1.set k x, fun i hi => ?_⟩
 show (if i = k then x else f i) < 256
 split
 ·exact hx
 ·exact h2 i hi
theorem xorv21 {x k : Nat} (hx : x < 256) : bits BinOp.xor IntKind.u8 (x : Int) ((k : Int) % 256) = ((x ^^^ (k % 256) : Nat) : Int) := by
 rw [show ((k : Int) % 256) = ((k % 256 : Nat) : Int) by omega]
 exact u8_xor_nat x (k % 256) hx (by omega)
theorem xorl21 {x y : Nat} (hx : x < 256) (hy : y < 256) : x ^^^ y < 256 := Nat.xor_lt_two_pow (n := 8) hx hy
theorem qel (w : World) (g n m : Nat) (hn : n ≤ 140737488351232) (hm : m < 256) (h : Rb w g n) :
  Calls Try.prog 27 #[.slice (some ⟨g, 0, none⟩) n n, .int .u8 (m : Int)] w fun e w' => e = .returned (.tuple #[]) ∧ Rb w' g n ∧ w.grownBy w' (some g) := by
 have H := qa0 h
 clear h
 go_enter Try.func27, Try.ntmps27
 go_wp2
 go_loopw [4] (fun i wr => ∃ k : Nat, k ≤ n ∧ i = .int .i64 (k : Int) ∧ Rb wr g n ∧ w.grownBy wr (some g)) (fun i _ => n - (intOf i).toNat)
 case atStart => exact ⟨0, by omega, rfl, H.out, World.grownBy.refl _ _⟩
 case round =>
  clear H
  obtain ⟨k, hk, rfl, ho, hg⟩ := hrel
  have HO := qa0 ho
  have HG := qa0 hg
  obtain ⟨f, hr, hf8⟩ := ho
  by_cases hlt : k < n
  ·have hc := hr.cell k hlt
   have hf := qek hr k
   have p0 : (0 : Int) ≤ (k : Int) := by omega
   have p1 : (k : Int) < (n : Int) := by omega
   clear hr hg hf8
   go_wp2
   rw [xorv21 hm]
   exact ⟨⟨k + 1, by omega, by go_num, HO.out.set (xorl21 hm (by omega)), qdp HG.out (.inl rfl)⟩, by simp [intOf]; omega⟩
  ·have hown := qez hr hn
   have HW := qa0 hown
   have hgl := hr.lt
   clear hr hg hf8 hown
   go_wp2_with (at_builtin; refine qbe rfl _ _ rfl g n _ rfl (HW.out.alloc _) ⟨wr.heap.size, 0, none⟩ 3 3 [.int .u8 m, .int .u8 m, .int .u8 m] rfl rfl (qey _ _ _) (by omega) (by omega) ?_; intro d w1 hown1 hb1; have HO1 := qa0 hown1; have hb2 := jtwo (jlow wr (.cells #[.int .u8 m, .int .u8 m, .int .u8 m] 5)) hb1; have HR1 := qa0 (HO.out.later hb2); have HG1 := qa0 (qad HG.out (qa9 hb2 (some g))); clear hown1 hb1 hb2)
   have hsz := HG1.out.size
   have es : (wr.alloc (.cells #[.int .u8 m, .int .u8 m, .int .u8 m] 5)).heap.size = wr.heap.size + 1 := by simp
   rw [es] at HO1
   try rw [es]
   clear es
   have hgw : w.heap.size ≤ wr.heap.size := HG.out.size
   go_loopw [5] (fun i w2 => ∃ k : Nat, k ≤ n + 3 ∧ i = .int .i64 (k : Int) ∧ (∃ xs, w2.ownsRow (wr.heap.size + 1) 5 1 (.slice (some ⟨wr.heap.size + 1, 0, none⟩) (n + 3) d) (n + 3) xs) ∧ Rb w2 g n ∧ w.grownBy w2 (some g)) (fun i _ => n + 3 - (intOf i).toNat)
   case atStart => exact ⟨0, by omega, rfl, ⟨_, HO1.out⟩, HR1.out, HG1.out⟩
   case round =>
    clear HO1 HR1 HG1
    obtain ⟨k, hk, rfl, ⟨ys, ho⟩, hr, hg⟩ := hrel
    have HO := qa0 ho
    have HR := qa0 hr
    have HG := qa0 hg
    by_cases hlt : k < n + 3
    ·obtain ⟨v0, hc⟩ := own_cell ho hlt
     have hf := ho.frozenAt k
     have p0 : (0 : Int) ≤ (k : Int) := by omega
     have p1 : (k : Int) < ((n + 3 : Nat) : Int) := by omega
     have p2 : (k : Int) < (n : Int) + 3 := by omega
     clear ho hr hg
     go_wp2
     refine ⟨⟨k + 1, by omega, by go_num, ⟨_, (HO.out.stored k _).1⟩, ?_, qdp HG.out (.inr (by omega))⟩, by simp [intOf]; omega⟩
     obtain ⟨f, h1, h2⟩ := HR.out
     exact ⟨f, h1.kept (qa2 _ _ _ _) (by omega), h2⟩
    ·clear ho hr hg
     go_wp2
     go_end0
     exact ⟨rfl, HR.out, HG.out⟩
end Go.Proofs.Ytkfnedpnkeacpaa
