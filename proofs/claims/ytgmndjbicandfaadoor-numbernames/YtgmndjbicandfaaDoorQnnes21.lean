/-
  Stage 12: faultAt, worth: what an expression that may be comes to.
-/
import Derived.Test.YtgmndjbicandfaaDoorQnnes00
import Derived.Test.YtgmndjbicandfaaDoorQnnes12
import Derived.Test.YtgmndjbicandfaaDoorQnnes13
import Derived.Test.YtgmndjbicandfaaDoorQnnes20
set_option maxRecDepth 100000
set_option maxHeartbeats 16000000
namespace Go.Proofs.YtgmndjbicandfaaDoor
open Go.RowKit Go.Maps
theorem qbu {op : Oper} {a : Act} {w : World} {K : Act → World → Prop} {Q : Exit → Act → World → Prop} (T : TypeId) (p q : Operand) (ho : op.op = .store T p q)
  (b : Nat) (xs ys : Array Value) (hp : a.eval p = .pointer (some ⟨b, 0, none⟩)) (hq : a.eval q = .agg ys) (hv : Vn w b T xs) (hi : (Tryd.prog.info? T).map (·.size) = some ys.size) (hsz : xs.size = ys.size) (h1 : ys.all (·.oneCell') = true)
  (h : ∀ w', Hid (Vn w' b T ys) → Hid (w.grownBy w' (some b)) → K (a.put op.dst undef) w') : op.wp Tryd.prog a w K Q :=
 wp_store_row T p q ho b ys hp hq T xs hv hi hsz h1 (h _ (hv.row ys) (qav w b ys))
theorem Vn.kept12 {w w' : World} {b : Nat} {T : TypeId} {xs : Array Value} {row : Option Nat} (h : Vn w b T xs) (hg : w.grownBy w' row) (hne : some b ≠ row) : Vn w' b T xs := (hg.block b h.lt hne).trans h
theorem qbe (w : World) (T : Xt) (v : Value) (e : Nat) (hX : XV w v T) : Calls Tryd.prog 42 #[v, .int .i64 (e : Int)] w fun r w' => r = .returned (.agg #[.int .i64 (e : Int), .int .i64 (T []).ln, .int .i64 (T []).cl]) ∧ Below w.heap.size w w' := by
 obtain ⟨⟨a, cap, rfl, _⟩, _⟩ := hX
 generalize T [] = l
 obtain ⟨k, n, nm, len, ln, cl⟩ := l
 show Calls Tryd.prog 42 #[.agg #[.int .u8 (k : Int), .int .i64 n, .string nm, .slice a len cap, .int .i64 ln, .int .i64 cl], .int .i64 (e : Int)] w fun r w' => r = .returned (.agg #[.int .i64 (e : Int), .int .i64 ln, .int .i64 cl]) ∧ Below w.heap.size w w'
 have HX := qa0 (Vn.new w 25 #[.int .u8 (k : Int), .int .i64 n, .string nm, .slice a len cap, .int .i64 ln, .int .i64 cl])
 have HX2 := qa0 (HX.out.later (jlow _ (.cells #[.int .i64 0, .int .i64 0, .int .i64 0] 29)))
 have HVt := qa0 (Vn.new (w.alloc (.cells #[.int .u8 (k : Int), .int .i64 n, .string nm, .slice a len cap, .int .i64 ln, .int .i64 cl] 25)) 29 #[.int .i64 0, .int .i64 0, .int .i64 0])
 have HB := qa0 (jtwo (jlow w (.cells #[.int .u8 (k : Int), .int .i64 n, .string nm, .slice a len cap, .int .i64 ln, .int .i64 cl] 25)) (jlow _ (.cells #[.int .i64 0, .int .i64 0, .int .i64 0] 29)))
 rw [qa2] at HVt
 have c4 := HX2.out.cell 4 _ rfl
 have c5 := HX2.out.cell 5 _ rfl
 clear HX HX2
 go_enter Tryd.func42, Tryd.ntmps42
 go_wp2_with (refine qa1 rfl 29 _ _ rfl (w.heap.size + 1) _ #[.int .i64 (e : Int), .int .i64 ln, .int .i64 cl] rfl rfl HVt.out sizeFau rfl (all3 rfl rfl rfl) ?_; intro w8 HV8 hg8)
 have d0 := HV8.out.cell 0 _ rfl
 have d1 := HV8.out.cell 1 _ rfl
 have d2 := HV8.out.cell 2 _ rfl
 refine bodyPost_ret (v := .agg #[.int .i64 (e : Int), .int .i64 ln, .int .i64 cl]) (by simp [results, Tryd.results42, go_sem, d0, d1, d2]) rfl ?_
 exact ⟨rfl, HB.out.trans (jbelow hg8.out HB.out.size (fun g e => by cases e; omega))⟩
theorem mx_kind {d : Nat} {T : Xt} (h : MX (d + 1) T) : 1 ≤ (T []).k ∧ (T []).k ≤ 8 := by
 obtain ⟨left, _, hl⟩ := h
 have hl : 0 ≤ (if left - 1 < 0 then -1 else match xwant (T []) with | none => -1 | some m => xks (xleft d) (kid T) m (left - 1)) := hl
 split at hl
 ·omega
 ·split at hl
  ·omega
  ·rename_i hw
   unfold xwant at hw
   split at hw
   ·omega
   ·split at hw
    ·omega
    ·split at hw
     ·omega
     ·split at hw
      ·omega
      ·cases hw
theorem lit_i64 {x y : Int} (h : (DataW.lit (.int .i64 x) : DataW Unit) = .lit (.int .i64 y)) : x = y := by cases h; rfl
/-- What worth promises, d deep. -/
def WorthC (d : Nat) : Prop := ∀ (w : World) (T : Xt) (v : Value) (b m : Nat) (E : ByteArray → Option Int), XV w v T → MX d T → Mp w b m E → Calls Tryd.prog 24 #[v, .map (some b)] w fun e w' => e = .returned (.tuple #[.int .i64 (xval E d T).v, .agg #[.int .i64 ((xval E d T).c : Int), .int .i64 (xval E d T).ln, .int .i64 (xval E d T).cl]]) ∧ Below w.heap.size w w'
/-- A number. -/
theorem worth_1 (w : World) (k len cap : Nat) (n ln cl : Int) (nm : ByteArray) (a : Option Addr) (b : Nat) (hk : k = 1) : Calls Tryd.prog 24 #[.agg #[.int .u8 (k : Int), .int .i64 n, .string nm, .slice a len cap, .int .i64 ln, .int .i64 cl], .map (some b)] w fun e w' => e = .returned (.tuple #[.int .i64 n, .agg #[.int .i64 0, .int .i64 0, .int .i64 0]]) ∧ Below w.heap.size w w' := by
 subst hk
 have HX := qa0 (Vn.new w 25 #[.int .u8 ((1 : Nat) : Int), .int .i64 n, .string nm, .slice a len cap, .int .i64 ln, .int .i64 cl])
 have HX2 := qa0 (HX.out.later (jlow _ (.cells #[.int .i64 0, .int .i64 0, .int .i64 0] 29)))
 have HVt := qa0 (Vn.new (w.alloc (.cells #[.int .u8 ((1 : Nat) : Int), .int .i64 n, .string nm, .slice a len cap, .int .i64 ln, .int .i64 cl] 25)) 29 #[.int .i64 0, .int .i64 0, .int .i64 0])
 have HB := qa0 (jtwo (jlow w (.cells #[.int .u8 ((1 : Nat) : Int), .int .i64 n, .string nm, .slice a len cap, .int .i64 ln, .int .i64 cl] 25)) (jlow _ (.cells #[.int .i64 0, .int .i64 0, .int .i64 0] 29)))
 rw [qa2] at HVt
 have c0 := HX2.out.cell 0 _ rfl
 have c1 := HX2.out.cell 1 _ rfl
 have c2 := HX2.out.cell 2 _ rfl
 have c3 := HX2.out.cell 3 _ rfl
 have c4 := HX2.out.cell 4 _ rfl
 have c5 := HX2.out.cell 5 _ rfl
 clear HX HX2
 go_enter Tryd.func24, Tryd.ntmps24
 go_wp2_with (refine qa1 rfl 29 _ _ rfl (w.heap.size + 1) _ #[.int .i64 0, .int .i64 0, .int .i64 0] rfl rfl HVt.out sizeFau rfl (all3 rfl rfl rfl) ?_; intro w8 HV8 hg8)
 have d0 := HV8.out.cell 0 _ rfl
 have d1 := HV8.out.cell 1 _ rfl
 have d2 := HV8.out.cell 2 _ rfl
 refine bodyPost_ret (v := .tuple #[.int .i64 n, .agg #[.int .i64 0, .int .i64 0, .int .i64 0]]) (by simp [results, Tryd.results24, go_sem, d0, d1, d2]) rfl ?_
 exact ⟨rfl, HB.out.trans (jbelow hg8.out HB.out.size (fun g e => by cases e; omega))⟩
/-- A name that is there. -/
theorem worth_2 (w : World) (k len cap : Nat) (n ln cl x : Int) (nm : ByteArray) (a : Option Addr) (b m : Nat) (E : ByteArray → Option Int) (hk : k = 2) (hs : nm.size ≤ 140737488351232) (hM : Mp w b m E) (hE : E nm = some x) : Calls Tryd.prog 24 #[.agg #[.int .u8 (k : Int), .int .i64 n, .string nm, .slice a len cap, .int .i64 ln, .int .i64 cl], .map (some b)] w fun e w' => e = .returned (.tuple #[.int .i64 x, .agg #[.int .i64 0, .int .i64 0, .int .i64 0]]) ∧ Below w.heap.size w w' := by
 subst hk
 have HX := qa0 (Vn.new w 25 #[.int .u8 ((2 : Nat) : Int), .int .i64 n, .string nm, .slice a len cap, .int .i64 ln, .int .i64 cl])
 have HX2 := qa0 (HX.out.later (jlow _ (.cells #[.int .i64 0, .int .i64 0, .int .i64 0] 29)))
 have HVt := qa0 (Vn.new (w.alloc (.cells #[.int .u8 ((2 : Nat) : Int), .int .i64 n, .string nm, .slice a len cap, .int .i64 ln, .int .i64 cl] 25)) 29 #[.int .i64 0, .int .i64 0, .int .i64 0])
 have HB := qa0 (jtwo (jlow w (.cells #[.int .u8 ((2 : Nat) : Int), .int .i64 n, .string nm, .slice a len cap, .int .i64 ln, .int .i64 cl] 25)) (jlow _ (.cells #[.int .i64 0, .int .i64 0, .int .i64 0] 29)))
 rw [qa2] at HVt
 have c0 := HX2.out.cell 0 _ rfl
 have c1 := HX2.out.cell 1 _ rfl
 have c2 := HX2.out.cell 2 _ rfl
 have c3 := HX2.out.cell 3 _ rfl
 have c4 := HX2.out.cell 4 _ rfl
 have c5 := HX2.out.cell 5 _ rfl
 obtain ⟨D, hO, hD⟩ := hM
 have HO2 := qa0 (qab hO HB.out)
 have HK := qa0 (WideMaps.keyOf_string_mk (P := Tryd.prog) (k := 9) Tryd.underlying9 (s := nm) (by unfold maxLen; omega))
 obtain ⟨hh, hv⟩ := hD nm hs
 rw [hE] at hh
 have hh : Maps.has D (.string nm.data.toList) = true := hh
 have HA := qa0 (hv x hE)
 clear HX HX2 hO hD hv hE
 go_enter Tryd.func24, Tryd.ntmps24
 go_wp2_with (first
  | (refine qa1 rfl 29 _ _ rfl (w.heap.size + 1) _ #[.int .i64 0, .int .i64 0, .int .i64 0] rfl rfl HVt.out sizeFau rfl (all3 rfl rfl rfl) ?_; intro w8 HV8 hg8)
  | (at_lookup; refine wpList_lookup_own_ok_int _ rfl _ _ 57 rfl 9 3 .i64 qb0 Tryd.underlying57 Tryd.underlying3 (qb2 _) b m D rfl HO2.out _ _ rfl HK.out ?_; intro c hat hwc; have hcx : c = x := lit_i64 (hat.symm.trans HA.out); clear hat hwc; subst hcx))
 have d0 := HV8.out.cell 0 _ rfl
 have d1 := HV8.out.cell 1 _ rfl
 have d2 := HV8.out.cell 2 _ rfl
 refine bodyPost_ret (v := .tuple #[.int .i64 c, .agg #[.int .i64 0, .int .i64 0, .int .i64 0]]) (by simp [results, Tryd.results24, go_sem, d0, d1, d2]) rfl ?_
 exact ⟨rfl, HB.out.trans (jbelow hg8.out HB.out.size (fun g e => by cases e; omega))⟩
/-- A name that is not there. -/
theorem worth_2n (w : World) (k len cap : Nat) (n ln cl : Int) (nm : ByteArray) (a : Option Addr) (b m : Nat) (E : ByteArray → Option Int) (hk : k = 2) (hs : nm.size ≤ 140737488351232) (hM : Mp w b m E) (hE : E nm = none)
  (hF : ∀ w', Below w.heap.size w w' → Calls Tryd.prog 42 #[.agg #[.int .u8 (k : Int), .int .i64 n, .string nm, .slice a len cap, .int .i64 ln, .int .i64 cl], .int .i64 121] w' fun r w'' => r = .returned (.agg #[.int .i64 121, .int .i64 ln, .int .i64 cl]) ∧ Below w'.heap.size w' w'') : Calls Tryd.prog 24 #[.agg #[.int .u8 (k : Int), .int .i64 n, .string nm, .slice a len cap, .int .i64 ln, .int .i64 cl], .map (some b)] w fun e w' => e = .returned (.tuple #[.int .i64 0, .agg #[.int .i64 121, .int .i64 ln, .int .i64 cl]]) ∧ Below w.heap.size w w' := by
 subst hk
 have HX := qa0 (Vn.new w 25 #[.int .u8 ((2 : Nat) : Int), .int .i64 n, .string nm, .slice a len cap, .int .i64 ln, .int .i64 cl])
 have HX2 := qa0 (HX.out.later (jlow _ (.cells #[.int .i64 0, .int .i64 0, .int .i64 0] 29)))
 have HVt := qa0 (Vn.new (w.alloc (.cells #[.int .u8 ((2 : Nat) : Int), .int .i64 n, .string nm, .slice a len cap, .int .i64 ln, .int .i64 cl] 25)) 29 #[.int .i64 0, .int .i64 0, .int .i64 0])
 have HB := qa0 (jtwo (jlow w (.cells #[.int .u8 ((2 : Nat) : Int), .int .i64 n, .string nm, .slice a len cap, .int .i64 ln, .int .i64 cl] 25)) (jlow _ (.cells #[.int .i64 0, .int .i64 0, .int .i64 0] 29)))
 rw [qa2] at HVt
 have c0 := HX2.out.cell 0 _ rfl
 have c1 := HX2.out.cell 1 _ rfl
 have c2 := HX2.out.cell 2 _ rfl
 have c3 := HX2.out.cell 3 _ rfl
 have c4 := HX2.out.cell 4 _ rfl
 have c5 := HX2.out.cell 5 _ rfl
 obtain ⟨D, hO, hD⟩ := hM
 have HO2 := qa0 (qab hO HB.out)
 have HK := qa0 (WideMaps.keyOf_string_mk (P := Tryd.prog) (k := 9) Tryd.underlying9 (s := nm) (by unfold maxLen; omega))
 obtain ⟨hh, _⟩ := hD nm hs
 rw [hE] at hh
 have hh : Maps.has D (.string nm.data.toList) = false := hh
 have HFa := qa0 hF
 clear HX HX2 hO hD hE hF
 go_enter Tryd.func24, Tryd.ntmps24
 go_wp2_with (first
  | (refine qa1 rfl 29 _ _ rfl (w.heap.size + 1) _ #[.int .i64 121, .int .i64 ln, .int .i64 cl] rfl rfl HV7.out sizeFau rfl (all3 rfl rfl rfl) ?_; intro w8 HV8 hg8)
  | (at_lookup; refine wpList_lookup_own_ok_int _ rfl _ _ 57 rfl 9 3 .i64 qb0 Tryd.underlying57 Tryd.underlying3 (qb2 _) b m D rfl HO2.out _ _ rfl HK.out ?_; intro c hat hwc)
  | (go_at_call 42; refine (HFa.out _ HB.out).mono ?_; rintro e w7 ⟨rfl, hb7⟩; have HV7 := qa0 (HVt.out.later hb7); have HB7 := qa0 (jtwo HB.out hb7); clear hb7))
 have d0 := HV8.out.cell 0 _ rfl
 have d1 := HV8.out.cell 1 _ rfl
 have d2 := HV8.out.cell 2 _ rfl
 refine bodyPost_ret (v := .tuple #[.int .i64 0, .agg #[.int .i64 121, .int .i64 ln, .int .i64 cl]]) (by simp [results, Tryd.results24, go_sem, d0, d1, d2]) rfl ?_
 exact ⟨rfl, HB7.out.trans (jbelow hg8.out HB7.out.size (fun g e => by cases e; have := HB.out.size; omega))⟩
end Go.Proofs.YtgmndjbicandfaaDoor
