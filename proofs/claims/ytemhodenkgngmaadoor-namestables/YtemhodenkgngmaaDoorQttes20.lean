/-
  Stage 12: isName, byName: the environment as a map; MayEnv of the reference.
  Stage 12: byName, the environment as a map.
  Stage 12: faultAt, worth: what an expression that may be comes to.
-/
import Derived.Test.YtemhodenkgngmaaDoorQttes00
import Derived.Test.YtemhodenkgngmaaDoorQttes17
import Derived.Maps.OwnSet
import Derived.StringKeys
import Derived.Test.YtemhodenkgngmaaDoorQttes18
import Derived.Test.YtemhodenkgngmaaDoorQttes19
set_option maxRecDepth 100000
set_option maxHeartbeats 16000000
namespace Go.Proofs.YtemhodenkgngmaaDoor
open Go.RowKit Go.Maps
/-- A name as an expression. -/
def nmX (s : ByteArray) : Xt := fun _ => ⟨2, 0, s, 0, 0, 0⟩
theorem nmX_may (s : ByteArray) : mayX (nmX s) = isN s := by
 have h : xleft 16 (nmX s) 8192 = if isN s = true then 8191 else -1 := by
  show (if (8192 : Int) - 1 < 0 then -1 else match xwant ⟨2, 0, s, 0, 0, 0⟩ with | none => -1 | some m => xks (xleft 15) (kid (nmX s)) m (8192 - 1)) = _
  rw [if_neg (by omega)]
  show (match (if (0 : Int) = 0 ∧ isN s = true ∧ (0 : Nat) = 0 then some 0 else none) with | none => -1 | some m => xks (xleft 15) (kid (nmX s)) m (8192 - 1)) = _
  cases hs : isN s <;> simp [xks]
 unfold mayX
 rw [h]
 cases isN s <;> rfl
theorem nmX_xv (w : World) (s : ByteArray) (hs : s.size ≤ 140737488351232) : XV w (.agg #[.int .u8 2, .int .i64 0, .string s, .slice none 0 0, .int .i64 0, .int .i64 0]) (nmX s) :=
 ⟨⟨none, 0, rfl, fun d i hi => absurd hi (Nat.not_lt_zero i)⟩, ⟨by show 2 < 256; omega, by show _ ≤ (0 : Int); omega, by show (0 : Int) ≤ _; omega, hs, by show 0 ≤ _; omega⟩⟩
theorem isname12 (w : World) (x : ByteArray) (hx : x.size ≤ 140737488351232) (hw : Wt9 w) : Calls Tryd.prog 71 #[.string x] w fun e w' => e = .returned (.bool (isN x)) ∧ Below w.heap.size w w' := by
 have HM : Hid (∀ v, v = Value.agg #[.int .u8 2, .int .i64 0, .string x, .slice none 0 0, .int .i64 0, .int .i64 0] → Calls Tryd.prog 56 #[v] w fun e w' => e = .returned (.bool (isN x)) ∧ Below w.heap.size w w') := fun v hv => by subst hv; rw [← nmX_may]; exact tmayx w (nmX x) _ (nmX_xv w x hx) hw
 obtain ⟨r, Hr⟩ : ∃ r, Hid (isN x = r) := ⟨_, rfl⟩
 rw [Hr.out] at HM
 rw [Hr.out]
 clear hw hx
 go_enter Tryd.func71, Tryd.ntmps71
 go_wp2_with (go_at_call 56; refine (HM.out _ rfl).mono ?_; rintro e w1 ⟨rfl, hb1⟩)
 go_ret
 exact ⟨rfl, hb1⟩
theorem qaw : Keyed Tryd.prog 9 := string_keyed Tryd.underlying9
theorem qbp (w : World) : (zeroValue 3).run Tryd.prog w = .ok (.int .i64 0) w := by kernel_rfl
/-- A block is a map that reads as E. -/
def MpD (D : DataW Unit) (E : ByteArray → Option Int) : Prop := ∀ s : ByteArray, s.size ≤ 140737488351232 → Maps.has D (.string s.data.toList) = (E s).isSome ∧ ∀ v, E s = some v → D.atKey (.string s.data.toList) (.lit (.int .i64 0)) = .lit (.int .i64 v)
def Mp (w : World) (b n : Nat) (E : ByteArray → Option Int) : Prop := ∃ D : DataW Unit, w.ownsMap Tryd.prog 9 (plainElem Tryd.prog 3) b n D ∧ MpD D E
theorem qap {w w' : World} {b n : Nat} {D : DataW Unit} (h : w.ownsMap Tryd.prog 9 (plainElem Tryd.prog 3) b n D) (hb : Below w.heap.size w w') : w'.ownsMap Tryd.prog 9 (plainElem Tryd.prog 3) b n D := h.kept (jgrown.mpr hb) (by simp)
theorem Mp.later {w w' : World} {b n : Nat} {E : ByteArray → Option Int} (h : Mp w b n E) (hb : Below w.heap.size w w') : Mp w' b n E := by
 obtain ⟨D, h1, h2⟩ := h
 exact ⟨D, qap h1 hb, h2⟩
theorem mpD_nil : MpD (.map []) (fun _ => none) := fun s _ => ⟨rfl, fun v h => by cases h⟩
theorem qeh {x y : ByteArray} (h : x ≠ y) : Lit.string x.data.toList ≠ Lit.string y.data.toList := fun e => h (by
 injection e with e
 exact ByteArray.ext (Array.toList_inj.1 e))
theorem mpD_put {D : DataW Unit} {F : Nat → Cn} {i : Nat} (h : MpD D (elk F i)) (hD : IsMap D) : MpD (D.put (.string (F i).nm.data.toList) (.lit (.int .i64 (F i).n))) (elk F (i + 1)) := by
 intro s hs
 show _ = (if sbq (F i).nm s then some (F i).n else elk F i s).isSome ∧ ∀ v, (if sbq (F i).nm s then some (F i).n else elk F i s) = some v → _
 by_cases e : (F i).nm = s
 ·subst e
  rw [qb8, if_pos rfl]
  exact ⟨has_put_same hD (by trivial) _, fun v hv => by cases hv; exact atKey_put_same hD (by trivial) _ _⟩
 ·rw [qbt e, if_neg (by decide)]
  obtain ⟨h1, h2⟩ := h s hs
  exact ⟨by rw [has_put_other (qeh (Ne.symm e))]; exact h1, fun v hv => by rw [atKey_put_other (qeh (Ne.symm e))]; exact h2 v hv⟩
theorem sizeCn : (Tryd.prog.info? 42).map (·.size) = some 2 := by kernel_rfl
theorem all2 {x y : Value} (h0 : x.oneCell' = true) (h1 : y.oneCell' = true) : (#[x, y] : Array Value).all (·.oneCell') = true := by simp [h0, h1]
open Go.RowKit Go.Maps
/-- What byName answers. -/
def BnA (w' : World) (F : Nat → Cn) (n : Nat) (e : Ending) : Prop :=
 (mayE F n = true ∧ ∃ b, e = .returned (.tuple #[.map (some b), .bool true]) ∧ Mp w' b n (elk F n)) ∨ (mayE F n = false ∧ e = .returned (.tuple #[.map none, .bool false]))
theorem qf7 (w : World) (a : Option Addr) (n c : Nat) (F : Nat → Cn) (hE : EL w a n F) (hn : n ≤ 140737488351232) (hw : Wt9 w) :
  Calls Tryd.prog 55 #[.slice a n c] w fun e w' => BnA w' F n e ∧ Below w.heap.size w w' := by
 have HE := qa0 hE
 have HW := qa0 hw
 clear hE hw
 have hmm := @run_makeMap Tryd.prog
 go_enter Tryd.func55, Tryd.ntmps55
 go_wp2
 go_loopw [12] (fun vi wr => ∃ (i : Nat), i ≤ n ∧ vi = .int .i64 (i : Int) ∧ Hid (mayE F i = true) ∧ Hid (Mp wr w.heap.size i (elk F i)) ∧ Below w.heap.size w wr) (fun vi _ => n - (intOf vi).toNat)
 case atStart => exact ⟨0, by omega, rfl, rfl, ⟨_, World.ownsMap_made _ _ _ _, mpD_nil⟩, jlow _ _⟩
 case round =>
  obtain ⟨i, hi, rfl, HM, HO, hb⟩ := hrel
  have HB := qa0 hb
  by_cases hlt : i < n
  ·have p0 : (0 : Int) ≤ (i : Int) := by omega
   have p1 : (i : Int) < (n : Int) := by omega
   obtain ⟨⟨hs, hn1, hn2⟩, b, o, rfl, k0, k1⟩ := (HE.out.later hb) i hlt
   have HNo : Hid ((isN (F i).nm && nmB (F i).n && (elk F i (F i).nm).isNone) = false → mayE F n = false) := fun h => mayE_no hlt h
   have HYes : Hid ((isN (F i).nm && nmB (F i).n && (elk F i (F i).nm).isNone) = true → mayE F (i + 1) = true) := fun h => by
    show (mayE F i && _) = true
    rw [HM.out, h]
    rfl
   obtain ⟨D, hO, hD⟩ := HO.out
   have HOw := qa0 hO
   have HDn : Hid (MpD (D.put (.string (F i).nm.data.toList) (.lit (.int .i64 (F i).n))) (elk F (i + 1))) := mpD_put hD hO.isMap
   have hh := (hD (F i).nm hs).1
   have HK := qa0 (WideMaps.keyOf_string_mk (P := Tryd.prog) (k := 9) Tryd.underlying9 (s := (F i).nm) (by unfold maxLen; omega))
   have HI : Hid (∀ w' : World, Below w.heap.size w w' → Calls Tryd.prog 71 #[.string (F i).nm] w' fun e w'' => e = .returned (.bool (isN (F i).nm)) ∧ Below w'.heap.size w' w'') := fun w' hb => isname12 w' _ hs (HW.out.later hb)
   have HN : Hid (∀ w' : World, Calls Tryd.prog 72 #[.int .i64 (F i).n] w' fun e w'' => e = .returned (.bool (nmB (F i).n)) ∧ w' = w'') := fun w' => qbi w' _
   have hwf : (Lit.int .i64 (F i).n).wf = true := WalkArith.wf_i64 (by omega)
   have HWf := qa0 hwf
   clear hwf hO hD HO
   generalize (elk F i (F i).nm) = r at *
   generalize isN (F i).nm = r1 at *
   generalize nmB (F i).n = r2 at *
   generalize (F i).nm = s at *
   generalize (F i).n = v at *
   have MS : True := trivial
   cases r with
   | some rv =>
    have hf := HNo.out (by simp)
    have hh : Maps.has D (.string s.data.toList) = true := hh
    clear HNo HYes
    go_wp2_with (first
     | (clear MS; refine qa1 rfl 42 _ _ rfl wr.heap.size _ #[.string s, .int .i64 v] rfl rfl (Vn.new wr _ _) sizeCn rfl (all2 rfl rfl) ?_; intro w1 HV1 hg1; have hb1 : Below wr.heap.size wr w1 := (jlow _ _).trans (jbelow hg1.out (jlow _ _).size (fun g e => by cases e; exact Nat.le_refl _)); have HB1 := qa0 (jtwo HB.out hb1); have HO1 := qa0 (qap HOw.out hb1); have m0 := HV1.out.cell 0 _ rfl; have m1 := HV1.out.cell 1 _ rfl; clear hg1 hb1)
     | (at_lookup; refine wpList_lookup_own_ok_int _ rfl _ _ 113 rfl 9 3 .i64 qaw Tryd.underlying113 Tryd.underlying3 (qbp _) w.heap.size i D rfl HO1.out _ _ rfl HK.out ?_; intro c hat hwc))
    go_ret2
    exact ⟨.inr ⟨hf, rfl⟩, HB1.out⟩
   | none =>
    have hh : Maps.has D (.string s.data.toList) = false := hh
    cases r1 with
    | false =>
     have hf := HNo.out (by simp)
     clear HNo HYes
     go_wp2_with (first
      | (clear MS; refine qa1 rfl 42 _ _ rfl wr.heap.size _ #[.string s, .int .i64 v] rfl rfl (Vn.new wr _ _) sizeCn rfl (all2 rfl rfl) ?_; intro w1 HV1 hg1; have hb1 : Below wr.heap.size wr w1 := (jlow _ _).trans (jbelow hg1.out (jlow _ _).size (fun g e => by cases e; exact Nat.le_refl _)); have HB1 := qa0 (jtwo HB.out hb1); have HO1 := qa0 (qap HOw.out hb1); have m0 := HV1.out.cell 0 _ rfl; have m1 := HV1.out.cell 1 _ rfl; clear hg1 hb1)
      | (at_lookup; refine wpList_lookup_own_ok_int _ rfl _ _ 113 rfl 9 3 .i64 qaw Tryd.underlying113 Tryd.underlying3 (qbp _) w.heap.size i D rfl HO1.out _ _ rfl HK.out ?_; intro c hat hwc)
      | (go_at_call 71; refine (HI.out _ HB1.out).mono ?_; rintro e w2 ⟨rfl, hb2⟩; have HB2 := qa0 (jtwo HB1.out hb2); clear hb2))
     go_ret2
     exact ⟨.inr ⟨hf, rfl⟩, HB2.out⟩
    | true =>
     cases r2 with
     | false =>
      have hf := HNo.out (by simp)
      clear HNo HYes
      go_wp2_with (first
       | (clear MS; refine qa1 rfl 42 _ _ rfl wr.heap.size _ #[.string s, .int .i64 v] rfl rfl (Vn.new wr _ _) sizeCn rfl (all2 rfl rfl) ?_; intro w1 HV1 hg1; have hb1 : Below wr.heap.size wr w1 := (jlow _ _).trans (jbelow hg1.out (jlow _ _).size (fun g e => by cases e; exact Nat.le_refl _)); have HB1 := qa0 (jtwo HB.out hb1); have HO1 := qa0 (qap HOw.out hb1); have m0 := HV1.out.cell 0 _ rfl; have m1 := HV1.out.cell 1 _ rfl; have HV1k := HV1; clear hg1 hb1)
       | (at_lookup; refine wpList_lookup_own_ok_int _ rfl _ _ 113 rfl 9 3 .i64 qaw Tryd.underlying113 Tryd.underlying3 (qbp _) w.heap.size i D rfl HO1.out _ _ rfl HK.out ?_; intro c hat hwc)
       | (go_at_call 71; refine (HI.out _ HB1.out).mono ?_; rintro e w2 ⟨rfl, hb2⟩; have HB2 := qa0 (jtwo HB1.out hb2); have HV2 := qa0 (HV1.out.later hb2); have n0 := HV2.out.cell 0 _ rfl; have n1 := HV2.out.cell 1 _ rfl; clear hb2)
       | (go_at_call 72; refine (HN.out _).mono ?_; rintro e w3 ⟨rfl, rfl⟩))
      go_ret2
      exact ⟨.inr ⟨hf, rfl⟩, HB2.out⟩
     | true =>
      have hf := qa0 (HYes.out (by simp))
      clear HNo HYes
      go_wp2_with (first
       | (clear MS; refine qa1 rfl 42 _ _ rfl wr.heap.size _ #[.string s, .int .i64 v] rfl rfl (Vn.new wr _ _) sizeCn rfl (all2 rfl rfl) ?_; intro w1 HV1 hg1; have hb1 : Below wr.heap.size wr w1 := (jlow _ _).trans (jbelow hg1.out (jlow _ _).size (fun g e => by cases e; exact Nat.le_refl _)); have HB1 := qa0 (jtwo HB.out hb1); have HO1 := qa0 (qap HOw.out hb1); have m0 := HV1.out.cell 0 _ rfl; have m1 := HV1.out.cell 1 _ rfl; clear hg1 hb1)
       | (at_lookup; refine wpList_lookup_own_ok_int _ rfl _ _ 113 rfl 9 3 .i64 qaw Tryd.underlying113 Tryd.underlying3 (qbp _) w.heap.size i D rfl HO1.out _ _ rfl HK.out ?_; intro c hat hwc)
       | (go_at_call 71; refine (HI.out _ HB1.out).mono ?_; rintro e w2 ⟨rfl, hb2⟩; have HB2 := qa0 (jtwo HB1.out hb2); have HO2 := qa0 (qap HO1.out hb2); have HV2 := qa0 (HV1.out.later hb2); have n0 := HV2.out.cell 0 _ rfl; have n1 := HV2.out.cell 1 _ rfl; clear hb2)
       | (go_at_call 72; refine (HN.out _).mono ?_; rintro e w3 ⟨rfl, rfl⟩)
       | (at_mapUpdate; refine wpList_mapUpdate_own _ rfl _ _ _ 113 rfl 9 3 qaw Tryd.underlying113 _ w.heap.size i D rfl HO2.out (by unfold maxLen; omega) _ _ _ rfl rfl HK.out _ [] (plainElem_int Tryd.underlying3 HWf.out) ?_; intro w4 hO4 hg4))
      exact ⟨⟨i + 1, by omega, by go_num, hf, ⟨_, hO4, HDn.out⟩, HB2.out.trans (jbelow hg4 HB2.out.size (fun g e => by cases e; exact Nat.le_refl _))⟩, by simp [intOf]; omega⟩
  ·obtain rfl : i = n := by omega
   clear hb
   go_wp2
   go_ret2
   exact ⟨.inl ⟨HM.out, _, rfl, HO.out⟩, HB.out⟩
open Go.RowKit Go.Maps
theorem qar {op : Oper} {a : Act} {w : World} {K : Act → World → Prop} {Q : Exit → Act → World → Prop} (T : TypeId) (p q : Operand) (ho : op.op = .store T p q)
  (b : Nat) (xs ys : Array Value) (hp : a.eval p = .pointer (some ⟨b, 0, none⟩)) (hq : a.eval q = .agg ys) (hv : Vn w b T xs) (hi : (Tryd.prog.info? T).map (·.size) = some ys.size) (hsz : xs.size = ys.size) (h1 : ys.all (·.oneCell') = true)
  (h : ∀ w', Hid (Vn w' b T ys) → Hid (w.grownBy w' (some b)) → K (a.put op.dst undef) w') : op.wp Tryd.prog a w K Q :=
 wp_store_row T p q ho b ys hp hq T xs hv hi hsz h1 (h _ (hv.row ys) (qbh w b ys))
theorem Vn.kept12 {w w' : World} {b : Nat} {T : TypeId} {xs : Array Value} {row : Option Nat} (h : Vn w b T xs) (hg : w.grownBy w' row) (hne : some b ≠ row) : Vn w' b T xs := (hg.block b h.lt hne).trans h
theorem qce (w : World) (T : Xt) (v : Value) (e : Nat) (hX : XV w v T) : Calls Tryd.prog 73 #[v, .int .i64 (e : Int)] w fun r w' => r = .returned (.agg #[.int .i64 (e : Int), .int .i64 (T []).ln, .int .i64 (T []).cl]) ∧ Below w.heap.size w w' := by
 obtain ⟨⟨a, cap, rfl, _⟩, _⟩ := hX
 generalize T [] = l
 obtain ⟨k, n, nm, len, ln, cl⟩ := l
 show Calls Tryd.prog 73 #[.agg #[.int .u8 (k : Int), .int .i64 n, .string nm, .slice a len cap, .int .i64 ln, .int .i64 cl], .int .i64 (e : Int)] w fun r w' => r = .returned (.agg #[.int .i64 (e : Int), .int .i64 ln, .int .i64 cl]) ∧ Below w.heap.size w w'
 have HX := qa0 (Vn.new w 53 #[.int .u8 (k : Int), .int .i64 n, .string nm, .slice a len cap, .int .i64 ln, .int .i64 cl])
 have HX2 := qa0 (HX.out.later (jlow _ (.cells #[.int .i64 0, .int .i64 0, .int .i64 0] 26)))
 have HVt := qa0 (Vn.new (w.alloc (.cells #[.int .u8 (k : Int), .int .i64 n, .string nm, .slice a len cap, .int .i64 ln, .int .i64 cl] 53)) 26 #[.int .i64 0, .int .i64 0, .int .i64 0])
 have HB := qa0 (jtwo (jlow w (.cells #[.int .u8 (k : Int), .int .i64 n, .string nm, .slice a len cap, .int .i64 ln, .int .i64 cl] 53)) (jlow _ (.cells #[.int .i64 0, .int .i64 0, .int .i64 0] 26)))
 rw [qaa] at HVt
 have c4 := HX2.out.cell 4 _ rfl
 have c5 := HX2.out.cell 5 _ rfl
 clear HX HX2
 go_enter Tryd.func73, Tryd.ntmps73
 go_wp2_with (refine qa1 rfl 26 _ _ rfl (w.heap.size + 1) _ #[.int .i64 (e : Int), .int .i64 ln, .int .i64 cl] rfl rfl HVt.out sizeFau rfl (all3 rfl rfl rfl) ?_; intro w8 HV8 hg8)
 have d0 := HV8.out.cell 0 _ rfl
 have d1 := HV8.out.cell 1 _ rfl
 have d2 := HV8.out.cell 2 _ rfl
 refine bodyPost_ret (v := .agg #[.int .i64 (e : Int), .int .i64 ln, .int .i64 cl]) (by simp [results, Tryd.results73, go_sem, d0, d1, d2]) rfl ?_
 exact ⟨rfl, HB.out.trans (jbelow hg8.out HB.out.size (fun g e => by cases e; omega))⟩
theorem qg2 {d : Nat} {T : Xt} (h : MX (d + 1) T) : 1 ≤ (T []).k ∧ (T []).k ≤ 8 := by
 obtain ⟨left, _, hl⟩ := h
 have hl : 0 ≤ (if left - 1 < 0 then -1 else match xwant (T []) with | none => -1 | some m => xks (xleft d) (kid T) m (left - 1)) := hl
 split at hl
 ·omega
 ·split at hl
  ·omega
  ·rename_i hw
   unfold xwant at hw
   split at hw
   ·omega
   ·split at hw
    ·omega
    ·split at hw
     ·omega
     ·split at hw
      ·omega
      ·cases hw
theorem lit_i64 {x y : Int} (h : (DataW.lit (.int .i64 x) : DataW Unit) = .lit (.int .i64 y)) : x = y := by cases h; rfl
/-- What worth promises, d deep. -/
def WorthC (d : Nat) : Prop := ∀ (w : World) (T : Xt) (v : Value) (b m : Nat) (E : ByteArray → Option Int), XV w v T → MX d T → Mp w b m E → Calls Tryd.prog 57 #[v, .map (some b)] w fun e w' => e = .returned (.tuple #[.int .i64 (xval E d T).v, .agg #[.int .i64 ((xval E d T).c : Int), .int .i64 (xval E d T).ln, .int .i64 (xval E d T).cl]]) ∧ Below w.heap.size w w'
/-- A number. -/
theorem worth_1 (w : World) (k len cap : Nat) (n ln cl : Int) (nm : ByteArray) (a : Option Addr) (b : Nat) (hk : k = 1) : Calls Tryd.prog 57 #[.agg #[.int .u8 (k : Int), .int .i64 n, .string nm, .slice a len cap, .int .i64 ln, .int .i64 cl], .map (some b)] w fun e w' => e = .returned (.tuple #[.int .i64 n, .agg #[.int .i64 0, .int .i64 0, .int .i64 0]]) ∧ Below w.heap.size w w' := by
 subst hk
 have HX := qa0 (Vn.new w 53 #[.int .u8 ((1 : Nat) : Int), .int .i64 n, .string nm, .slice a len cap, .int .i64 ln, .int .i64 cl])
 have HX2 := qa0 (HX.out.later (jlow _ (.cells #[.int .i64 0, .int .i64 0, .int .i64 0] 26)))
 have HVt := qa0 (Vn.new (w.alloc (.cells #[.int .u8 ((1 : Nat) : Int), .int .i64 n, .string nm, .slice a len cap, .int .i64 ln, .int .i64 cl] 53)) 26 #[.int .i64 0, .int .i64 0, .int .i64 0])
 have HB := qa0 (jtwo (jlow w (.cells #[.int .u8 ((1 : Nat) : Int), .int .i64 n, .string nm, .slice a len cap, .int .i64 ln, .int .i64 cl] 53)) (jlow _ (.cells #[.int .i64 0, .int .i64 0, .int .i64 0] 26)))
 rw [qaa] at HVt
 have c0 := HX2.out.cell 0 _ rfl
 have c1 := HX2.out.cell 1 _ rfl
 have c2 := HX2.out.cell 2 _ rfl
 have c3 := HX2.out.cell 3 _ rfl
 have c4 := HX2.out.cell 4 _ rfl
 have c5 := HX2.out.cell 5 _ rfl
 clear HX HX2
 go_enter Tryd.func57, Tryd.ntmps57
 go_wp2_with (refine qa1 rfl 26 _ _ rfl (w.heap.size + 1) _ #[.int .i64 0, .int .i64 0, .int .i64 0] rfl rfl HVt.out sizeFau rfl (all3 rfl rfl rfl) ?_; intro w8 HV8 hg8)
 have d0 := HV8.out.cell 0 _ rfl
 have d1 := HV8.out.cell 1 _ rfl
 have d2 := HV8.out.cell 2 _ rfl
 refine bodyPost_ret (v := .tuple #[.int .i64 n, .agg #[.int .i64 0, .int .i64 0, .int .i64 0]]) (by simp [results, Tryd.results57, go_sem, d0, d1, d2]) rfl ?_
 exact ⟨rfl, HB.out.trans (jbelow hg8.out HB.out.size (fun g e => by cases e; omega))⟩
/-- A name that is there. -/
theorem worth_2 (w : World) (k len cap : Nat) (n ln cl x : Int) (nm : ByteArray) (a : Option Addr) (b m : Nat) (E : ByteArray → Option Int) (hk : k = 2) (hs : nm.size ≤ 140737488351232) (hM : Mp w b m E) (hE : E nm = some x) : Calls Tryd.prog 57 #[.agg #[.int .u8 (k : Int), .int .i64 n, .string nm, .slice a len cap, .int .i64 ln, .int .i64 cl], .map (some b)] w fun e w' => e = .returned (.tuple #[.int .i64 x, .agg #[.int .i64 0, .int .i64 0, .int .i64 0]]) ∧ Below w.heap.size w w' := by
 subst hk
 have HX := qa0 (Vn.new w 53 #[.int .u8 ((2 : Nat) : Int), .int .i64 n, .string nm, .slice a len cap, .int .i64 ln, .int .i64 cl])
 have HX2 := qa0 (HX.out.later (jlow _ (.cells #[.int .i64 0, .int .i64 0, .int .i64 0] 26)))
 have HVt := qa0 (Vn.new (w.alloc (.cells #[.int .u8 ((2 : Nat) : Int), .int .i64 n, .string nm, .slice a len cap, .int .i64 ln, .int .i64 cl] 53)) 26 #[.int .i64 0, .int .i64 0, .int .i64 0])
 have HB := qa0 (jtwo (jlow w (.cells #[.int .u8 ((2 : Nat) : Int), .int .i64 n, .string nm, .slice a len cap, .int .i64 ln, .int .i64 cl] 53)) (jlow _ (.cells #[.int .i64 0, .int .i64 0, .int .i64 0] 26)))
 rw [qaa] at HVt
 have c0 := HX2.out.cell 0 _ rfl
 have c1 := HX2.out.cell 1 _ rfl
 have c2 := HX2.out.cell 2 _ rfl
 have c3 := HX2.out.cell 3 _ rfl
 have c4 := HX2.out.cell 4 _ rfl
 have c5 := HX2.out.cell 5 _ rfl
 obtain ⟨D, hO, hD⟩ := hM
 have HO2 := qa0 (qap hO HB.out)
 have HK := qa0 (WideMaps.keyOf_string_mk (P := Tryd.prog) (k := 9) Tryd.underlying9 (s := nm) (by unfold maxLen; omega))
 obtain ⟨hh, hv⟩ := hD nm hs
 rw [hE] at hh
 have hh : Maps.has D (.string nm.data.toList) = true := hh
 have HA := qa0 (hv x hE)
 clear HX HX2 hO hD hv hE
 go_enter Tryd.func57, Tryd.ntmps57
 go_wp2_with (first
  | (refine qa1 rfl 26 _ _ rfl (w.heap.size + 1) _ #[.int .i64 0, .int .i64 0, .int .i64 0] rfl rfl HVt.out sizeFau rfl (all3 rfl rfl rfl) ?_; intro w8 HV8 hg8)
  | (at_lookup; refine wpList_lookup_own_ok_int _ rfl _ _ 113 rfl 9 3 .i64 qaw Tryd.underlying113 Tryd.underlying3 (qbp _) b m D rfl HO2.out _ _ rfl HK.out ?_; intro c hat hwc; have hcx : c = x := lit_i64 (hat.symm.trans HA.out); clear hat hwc; subst hcx))
 have d0 := HV8.out.cell 0 _ rfl
 have d1 := HV8.out.cell 1 _ rfl
 have d2 := HV8.out.cell 2 _ rfl
 refine bodyPost_ret (v := .tuple #[.int .i64 c, .agg #[.int .i64 0, .int .i64 0, .int .i64 0]]) (by simp [results, Tryd.results57, go_sem, d0, d1, d2]) rfl ?_
 exact ⟨rfl, HB.out.trans (jbelow hg8.out HB.out.size (fun g e => by cases e; omega))⟩
/-- A name that is not there. -/
theorem worth_2n (w : World) (k len cap : Nat) (n ln cl : Int) (nm : ByteArray) (a : Option Addr) (b m : Nat) (E : ByteArray → Option Int) (hk : k = 2) (hs : nm.size ≤ 140737488351232) (hM : Mp w b m E) (hE : E nm = none)
  (hF : ∀ w', Below w.heap.size w w' → Calls Tryd.prog 73 #[.agg #[.int .u8 (k : Int), .int .i64 n, .string nm, .slice a len cap, .int .i64 ln, .int .i64 cl], .int .i64 121] w' fun r w'' => r = .returned (.agg #[.int .i64 121, .int .i64 ln, .int .i64 cl]) ∧ Below w'.heap.size w' w'') : Calls Tryd.prog 57 #[.agg #[.int .u8 (k : Int), .int .i64 n, .string nm, .slice a len cap, .int .i64 ln, .int .i64 cl], .map (some b)] w fun e w' => e = .returned (.tuple #[.int .i64 0, .agg #[.int .i64 121, .int .i64 ln, .int .i64 cl]]) ∧ Below w.heap.size w w' := by
 subst hk
 have HX := qa0 (Vn.new w 53 #[.int .u8 ((2 : Nat) : Int), .int .i64 n, .string nm, .slice a len cap, .int .i64 ln, .int .i64 cl])
 have HX2 := qa0 (HX.out.later (jlow _ (.cells #[.int .i64 0, .int .i64 0, .int .i64 0] 26)))
 have HVt := qa0 (Vn.new (w.alloc (.cells #[.int .u8 ((2 : Nat) : Int), .int .i64 n, .string nm, .slice a len cap, .int .i64 ln, .int .i64 cl] 53)) 26 #[.int .i64 0, .int .i64 0, .int .i64 0])
 have HB := qa0 (jtwo (jlow w (.cells #[.int .u8 ((2 : Nat) : Int), .int .i64 n, .string nm, .slice a len cap, .int .i64 ln, .int .i64 cl] 53)) (jlow _ (.cells #[.int .i64 0, .int .i64 0, .int .i64 0] 26)))
 rw [qaa] at HVt
 have c0 := HX2.out.cell 0 _ rfl
 have c1 := HX2.out.cell 1 _ rfl
 have c2 := HX2.out.cell 2 _ rfl
 have c3 := HX2.out.cell 3 _ rfl
 have c4 := HX2.out.cell 4 _ rfl
 have c5 := HX2.out.cell 5 _ rfl
 obtain ⟨D, hO, hD⟩ := hM
 have HO2 := qa0 (qap hO HB.out)
 have HK := qa0 (WideMaps.keyOf_string_mk (P := Tryd.prog) (k := 9) Tryd.underlying9 (s := nm) (by unfold maxLen; omega))
 obtain ⟨hh, _⟩ := hD nm hs
 rw [hE] at hh
 have hh : Maps.has D (.string nm.data.toList) = false := hh
 have HFa := qa0 hF
 clear HX HX2 hO hD hE hF
 go_enter Tryd.func57, Tryd.ntmps57
 go_wp2_with (first
  | (refine qa1 rfl 26 _ _ rfl (w.heap.size + 1) _ #[.int .i64 121, .int .i64 ln, .int .i64 cl] rfl rfl HV7.out sizeFau rfl (all3 rfl rfl rfl) ?_; intro w8 HV8 hg8)
  | (at_lookup; refine wpList_lookup_own_ok_int _ rfl _ _ 113 rfl 9 3 .i64 qaw Tryd.underlying113 Tryd.underlying3 (qbp _) b m D rfl HO2.out _ _ rfl HK.out ?_; intro c hat hwc)
  | (go_at_call 73; refine (HFa.out _ HB.out).mono ?_; rintro e w7 ⟨rfl, hb7⟩; have HV7 := qa0 (HVt.out.later hb7); have HB7 := qa0 (jtwo HB.out hb7); clear hb7))
 have d0 := HV8.out.cell 0 _ rfl
 have d1 := HV8.out.cell 1 _ rfl
 have d2 := HV8.out.cell 2 _ rfl
 refine bodyPost_ret (v := .tuple #[.int .i64 0, .agg #[.int .i64 121, .int .i64 ln, .int .i64 cl]]) (by simp [results, Tryd.results57, go_sem, d0, d1, d2]) rfl ?_
 exact ⟨rfl, HB7.out.trans (jbelow hg8.out HB7.out.size (fun g e => by cases e; have := HB.out.size; omega))⟩
end Go.Proofs.YtemhodenkgngmaaDoor
