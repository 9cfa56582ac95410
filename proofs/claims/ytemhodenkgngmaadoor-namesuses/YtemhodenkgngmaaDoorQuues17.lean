/-
  Stage 12: environments in memory, what an expression comes to.
  Stage 12: isName, byName: the environment as a map; MayEnv of the reference.
  Stage 12: byName, the environment as a map.
-/
import Derived.Test.YtemhodenkgngmaaDoorQuues00
import Derived.Test.YtemhodenkgngmaaDoorQuues16
import Derived.Test.YtemhodenkgngmaaDoorQuues07
import Derived.Laws.StructEq
import Derived.Maps.OwnSet
import Derived.StringKeys
set_option maxRecDepth 100000
set_option maxHeartbeats 16000000
namespace Go.Proofs.YtemhodenkgngmaaDoor
open Go.RowKit
/-- Are two texts the same? -/
def sbq (x y : ByteArray) : Bool := x.toList == y.toList
theorem qf4 {x y : ByteArray} : sbq x y = true ↔ x = y := by
 unfold sbq
 rw [beq_iff_eq]
 exact ⟨fun h => by rw [ByteArray.toList_eq, ByteArray.toList_eq] at h; exact ByteArray.ext (Array.toList_inj.1 h), fun h => by rw [h]⟩
theorem sbq_self (x : ByteArray) : sbq x x = true := qf4.2 rfl
theorem sbq_ne {x y : ByteArray} (h : x ≠ y) : sbq x y = false := by rw [← Bool.not_eq_true]; exact fun g => h (qf4.1 g)
/-- A constant. -/
structure Cn where
 nm : ByteArray
 n : Int
structure CnOk (c : Cn) : Prop where
 nm47 : c.nm.size ≤ 140737488351232
 n1 : -9223372036854775808 ≤ c.n
 n2 : c.n ≤ 9223372036854775807
/-- An environment lies at a slice's address. -/
def EL (w : World) (a : Option Addr) (n : Nat) (F : Nat → Cn) : Prop := ∀ i, i < n → CnOk (F i) ∧ ∃ b o, a = some ⟨b, o, none⟩ ∧ w.cell? ⟨b, o + i * 2, none⟩ = some (.string (F i).nm) ∧ w.cell? ⟨b, o + i * 2 + 1, none⟩ = some (.int .i64 (F i).n)
theorem EL.later {w w' : World} {a : Option Addr} {n : Nat} {F : Nat → Cn} (h : EL w a n F) (hb : Below w.heap.size w w') : EL w' a n F := fun i hi => by
 obtain ⟨ok, b, o, e, h0, h1⟩ := h i hi
 exact ⟨ok, b, o, e, cell_kept h0 hb, cell_kept h1 hb⟩
/-- The number of a name among the first n constants. -/
def elk (F : Nat → Cn) : Nat → ByteArray → Option Int
 | 0, _ => none
 | n + 1, s => if sbq (F n).nm s then some (F n).n else elk F n s
/-- May the first n constants be an environment? -/
def mayE (F : Nat → Cn) : Nat → Bool
 | 0 => true
 | n + 1 => mayE F n && (isN (F n).nm && nmB (F n).n && (elk F n (F n).nm).isNone)
theorem qf5 {F : Nat → Cn} : ∀ {n m : Nat}, mayE F n = true → m ≤ n → mayE F m = true := by
 intro n
 induction n with
 | zero =>
  intro m h hm
  obtain rfl : m = 0 := by omega
  exact h
 | succ n ih =>
  intro m h hm
  by_cases e : m = n + 1
  ·subst e; exact h
  ·have h2 : mayE F n = true := by unfold mayE at h; rw [Bool.and_eq_true] at h; exact h.1
   exact ih h2 (by omega)
theorem mayE_no {F : Nat → Cn} {n i : Nat} (hi : i < n) (h : (isN (F i).nm && nmB (F i).n && (elk F i (F i).nm).isNone) = false) : mayE F n = false := by
 rw [← Bool.not_eq_true]
 intro g
 have g2 := qf5 g (show i + 1 ≤ n by omega)
 unfold mayE at g2
 rw [h, Bool.and_false] at g2
 cases g2
/-- What comes out: a number and a fault. -/
structure Vt where
 v : Int
 c : Nat
 ln : Int
 cl : Int
/-- The first fault of the first n parts. -/
def xflt (R : Nat → Vt) : Nat → Option Vt
 | 0 => none
 | n + 1 => match xflt R n with
  | some r => some r
  | none => if (R n).c = 0 then none else some (R n)
/-- What an expression comes to, its parts having come to a and b. -/
def xfin (l : Lx) (a b : Int) : Vt := if wre l.k a b = 0 then ⟨wrv l.k a b, 0, 0, 0⟩ else ⟨0, wre l.k a b, l.ln, l.cl⟩
/-- The number of part j, of n parts. -/
def xprt (R : Nat → Vt) (n j : Nat) : Int := if j < n then (R j).v else 0
/-- What an expression comes to. -/
def xval (E : ByteArray → Option Int) : Nat → Xt → Vt
 | 0, _ => ⟨0, 0, 0, 0⟩
 | d + 1, T =>
  if (T []).k = 1 then ⟨(T []).n, 0, 0, 0⟩
  else if (T []).k = 2 then match E (T []).nm with
   | some v => ⟨v, 0, 0, 0⟩
   | none => ⟨0, 121, (T []).ln, (T []).cl⟩
  else match xflt (fun i => xval E d (kid T i)) (T []).len with
   | some r => ⟨0, r.c, r.ln, r.cl⟩
   | none => xfin (T []) (xprt (fun i => xval E d (kid T i)) (T []).len 0) (xprt (fun i => xval E d (kid T i)) (T []).len 1)
theorem qf6 {R : Nat → Vt} {i : Nat} {r : Vt} (h : xflt R i = some r) : ∀ n, i ≤ n → xflt R n = some r := by
 intro n hn
 induction n with
 | zero =>
  obtain rfl : i = 0 := by omega
  exact h
 | succ n ih =>
  by_cases e : i = n + 1
  ·subst e; exact h
  ·show (match xflt R n with | some r => some r | none => if (R n).c = 0 then none else some (R n)) = some r
   rw [ih (by omega)]
theorem xflt_hit {R : Nat → Vt} {i : Nat} (h : xflt R i = none) (hc : (R i).c ≠ 0) : xflt R (i + 1) = some (R i) := by
 show (match xflt R i with | some r => some r | none => if (R i).c = 0 then none else some (R i)) = _
 rw [h]
 exact if_neg hc
theorem xflt_on {R : Nat → Vt} {i : Nat} (h : xflt R i = none) (hc : (R i).c = 0) : xflt R (i + 1) = none := by
 show (match xflt R i with | some r => some r | none => if (R i).c = 0 then none else some (R i)) = _
 rw [h]
 exact if_pos hc
theorem qbf (E : ByteArray → Option Int) (d : Nat) (T : Xt) : xval E (d + 1) T = if (T []).k = 1 then ⟨(T []).n, 0, 0, 0⟩
  else if (T []).k = 2 then match E (T []).nm with
   | some v => ⟨v, 0, 0, 0⟩
   | none => ⟨0, 121, (T []).ln, (T []).cl⟩
  else match xflt (fun i => xval E d (kid T i)) (T []).len with
   | some r => ⟨0, r.c, r.ln, r.cl⟩
   | none => xfin (T []) (xprt (fun i => xval E d (kid T i)) (T []).len 0) (xprt (fun i => xval E d (kid T i)) (T []).len 1) := rfl
theorem xval1 {E : ByteArray → Option Int} {d : Nat} {T : Xt} (h : (T []).k = 1) : xval E (d + 1) T = ⟨(T []).n, 0, 0, 0⟩ := if_pos h
theorem xval2 {E : ByteArray → Option Int} {d : Nat} {T : Xt} {v : Int} (h : (T []).k = 2) (hE : E (T []).nm = some v) : xval E (d + 1) T = ⟨v, 0, 0, 0⟩ := by
 rw [qbf, if_neg (by omega), if_pos h, hE]
theorem xval2n {E : ByteArray → Option Int} {d : Nat} {T : Xt} (h : (T []).k = 2) (hE : E (T []).nm = none) : xval E (d + 1) T = ⟨0, 121, (T []).ln, (T []).cl⟩ := by
 rw [qbf, if_neg (by omega), if_pos h, hE]
theorem xval3 {E : ByteArray → Option Int} {d : Nat} {T : Xt} (h1 : (T []).k ≠ 1) (h2 : (T []).k ≠ 2) {r : Vt} (h : xflt (fun i => xval E d (kid T i)) (T []).len = some r) : xval E (d + 1) T = ⟨0, r.c, r.ln, r.cl⟩ := by
 rw [qbf, if_neg h1, if_neg h2, h]
theorem xval4 {E : ByteArray → Option Int} {d : Nat} {T : Xt} (h1 : (T []).k ≠ 1) (h2 : (T []).k ≠ 2) (h : xflt (fun i => xval E d (kid T i)) (T []).len = none) : xval E (d + 1) T = xfin (T []) (xprt (fun i => xval E d (kid T i)) (T []).len 0) (xprt (fun i => xval E d (kid T i)) (T []).len 1) := by
 rw [qbf, if_neg h1, if_neg h2, h]
/-- Without a fault all its cells are 0. -/
theorem qf7 {E : ByteArray → Option Int} {d : Nat} {T : Xt} (h : (xval E d T).c = 0) : (xval E d T).ln = 0 ∧ (xval E d T).cl = 0 := by
 cases d with
 | zero => exact ⟨rfl, rfl⟩
 | succ d =>
  by_cases h1 : (T []).k = 1
  ·rw [xval1 h1]; exact ⟨rfl, rfl⟩
  ·by_cases h2 : (T []).k = 2
   ·cases hE : E (T []).nm with
    | none => rw [xval2n h2 hE] at h; cases h
    | some v => rw [xval2 h2 hE]; exact ⟨rfl, rfl⟩
   ·cases hf : xflt (fun i => xval E d (kid T i)) (T []).len with
    | some r =>
     rw [xval3 h1 h2 hf] at h
     have hr : ∀ n, xflt (fun i => xval E d (kid T i)) n = some r → r.c ≠ 0 := by
      intro n
      induction n with
      | zero => intro e; cases e
      | succ n ih =>
       intro e
       have e : (match xflt (fun i => xval E d (kid T i)) n with | some r => some r | none => if (xval E d (kid T n)).c = 0 then none else some (xval E d (kid T n))) = some r := e
       cases hq : xflt (fun i => xval E d (kid T i)) n with
       | some r2 => rw [hq] at e ih; cases e; exact ih rfl
       | none =>
        rw [hq] at e
        by_cases hc : (xval E d (kid T n)).c = 0
        ·simp [hc] at e
        ·simp [hc] at e; rw [← e]; exact hc
     exact absurd h (hr _ hf)
    | none =>
     rw [xval4 h1 h2 hf] at h ⊢
     unfold xfin at *
     split at h
     ·rename_i g; rw [if_pos g]; exact ⟨rfl, rfl⟩
     ·rename_i g; exact absurd h g
/-- A fault of three cells against the empty one, against another one. -/
theorem qbi : ∀ (op : BinOp) (x y : Operand) (xs ys : Array Value) (w : World), (eqGuard op 26 x y (.agg xs) (.agg ys)).run Tryd.prog w = .ok () w := fun op x y xs ys w => run_eqGuard_agg w op _ x y xs ys (by kernel_rfl)
theorem qf8 : ∀ (a1 a2 a3 b1 b2 b3 : Int) (w : World), (binOp .eql 26 (.agg #[.int .i64 a1, .int .i64 a2, .int .i64 a3]) (.agg #[.int .i64 b1, .int .i64 b2, .int .i64 b3])).run Tryd.prog w = .ok (.bool ((a1 == b1) && ((a2 == b2) && (a3 == b3)))) w := by
 intro a1 a2 a3 b1 b2 b3 w
 rw [run_eql_struct, run_equalIn_struct w 9999 _ _ _ (by kernel_rfl) (by kernel_rfl)]
 by_cases h1 : a1 = b1 <;> by_cases h2 : a2 = b2 <;> by_cases h3 : a3 = b3 <;> simp [Op.eqFields, go_sem, h1, h2, h3]
theorem qf9 : ∀ (a1 a2 a3 b1 b2 b3 : Int) (w : World), (binOp .neq 26 (.agg #[.int .i64 a1, .int .i64 a2, .int .i64 a3]) (.agg #[.int .i64 b1, .int .i64 b2, .int .i64 b3])).run Tryd.prog w = .ok (.bool (!((a1 == b1) && ((a2 == b2) && (a3 == b3))))) w := by
 intro a1 a2 a3 b1 b2 b3 w
 rw [run_neq_struct, run_equalIn_struct w 9999 _ _ _ (by kernel_rfl) (by kernel_rfl)]
 by_cases h1 : a1 = b1 <;> by_cases h2 : a2 = b2 <;> by_cases h3 : a3 = b3 <;> simp [Op.eqFields, go_sem, h1, h2, h3]
open Go.RowKit Go.Maps
/-- A name as an expression. -/
def nmX (s : ByteArray) : Xt := fun _ => ⟨2, 0, s, 0, 0, 0⟩
theorem nmX_may (s : ByteArray) : mayX (nmX s) = isN s := by
 have h : xleft 16 (nmX s) 8192 = if isN s = true then 8191 else -1 := by
  show (if (8192 : Int) - 1 < 0 then -1 else match xwant ⟨2, 0, s, 0, 0, 0⟩ with | none => -1 | some m => xks (xleft 15) (kid (nmX s)) m (8192 - 1)) = _
  rw [if_neg (by omega)]
  show (match (if (0 : Int) = 0 ∧ isN s = true ∧ (0 : Nat) = 0 then some 0 else none) with | none => -1 | some m => xks (xleft 15) (kid (nmX s)) m (8192 - 1)) = _
  cases hs : isN s <;> simp [xks]
 unfold mayX
 rw [h]
 cases isN s <;> rfl
theorem nmX_xv (w : World) (s : ByteArray) (hs : s.size ≤ 140737488351232) : XV w (.agg #[.int .u8 2, .int .i64 0, .string s, .slice none 0 0, .int .i64 0, .int .i64 0]) (nmX s) :=
 ⟨⟨none, 0, rfl, fun d i hi => absurd hi (Nat.not_lt_zero i)⟩, ⟨by show 2 < 256; omega, by show _ ≤ (0 : Int); omega, by show (0 : Int) ≤ _; omega, hs, by show 0 ≤ _; omega⟩⟩
theorem isname12 (w : World) (x : ByteArray) (hx : x.size ≤ 140737488351232) (hw : Wt9 w) : Calls Tryd.prog 71 #[.string x] w fun e w' => e = .returned (.bool (isN x)) ∧ Below w.heap.size w w' := by
 have HM : Hid (∀ v, v = Value.agg #[.int .u8 2, .int .i64 0, .string x, .slice none 0 0, .int .i64 0, .int .i64 0] → Calls Tryd.prog 56 #[v] w fun e w' => e = .returned (.bool (isN x)) ∧ Below w.heap.size w w') := fun v hv => by subst hv; rw [← nmX_may]; exact tmayx w (nmX x) _ (nmX_xv w x hx) hw
 obtain ⟨r, Hr⟩ : ∃ r, Hid (isN x = r) := ⟨_, rfl⟩
 rw [Hr.out] at HM
 rw [Hr.out]
 clear hw hx
 go_enter Tryd.func71, Tryd.ntmps71
 go_wp2_with (go_at_call 56; refine (HM.out _ rfl).mono ?_; rintro e w1 ⟨rfl, hb1⟩)
 go_ret
 exact ⟨rfl, hb1⟩
theorem qau : Keyed Tryd.prog 9 := string_keyed Tryd.underlying9
theorem qbj (w : World) : (zeroValue 3).run Tryd.prog w = .ok (.int .i64 0) w := by kernel_rfl
/-- A block is a map that reads as E. -/
def MpD (D : DataW Unit) (E : ByteArray → Option Int) : Prop := ∀ s : ByteArray, s.size ≤ 140737488351232 → Maps.has D (.string s.data.toList) = (E s).isSome ∧ ∀ v, E s = some v → D.atKey (.string s.data.toList) (.lit (.int .i64 0)) = .lit (.int .i64 v)
def Mp (w : World) (b n : Nat) (E : ByteArray → Option Int) : Prop := ∃ D : DataW Unit, w.ownsMap Tryd.prog 9 (plainElem Tryd.prog 3) b n D ∧ MpD D E
theorem qan {w w' : World} {b n : Nat} {D : DataW Unit} (h : w.ownsMap Tryd.prog 9 (plainElem Tryd.prog 3) b n D) (hb : Below w.heap.size w w') : w'.ownsMap Tryd.prog 9 (plainElem Tryd.prog 3) b n D := h.kept (jgrown.mpr hb) (by simp)
theorem Mp.later {w w' : World} {b n : Nat} {E : ByteArray → Option Int} (h : Mp w b n E) (hb : Below w.heap.size w w') : Mp w' b n E := by
 obtain ⟨D, h1, h2⟩ := h
 exact ⟨D, qan h1 hb, h2⟩
theorem mpD_nil : MpD (.map []) (fun _ => none) := fun s _ => ⟨rfl, fun v h => by cases h⟩
theorem str_ne {x y : ByteArray} (h : x ≠ y) : Lit.string x.data.toList ≠ Lit.string y.data.toList := fun e => h (by
 injection e with e
 exact ByteArray.ext (Array.toList_inj.1 e))
theorem mpD_put {D : DataW Unit} {F : Nat → Cn} {i : Nat} (h : MpD D (elk F i)) (hD : IsMap D) : MpD (D.put (.string (F i).nm.data.toList) (.lit (.int .i64 (F i).n))) (elk F (i + 1)) := by
 intro s hs
 show _ = (if sbq (F i).nm s then some (F i).n else elk F i s).isSome ∧ ∀ v, (if sbq (F i).nm s then some (F i).n else elk F i s) = some v → _
 by_cases e : (F i).nm = s
 ·subst e
  rw [sbq_self, if_pos rfl]
  exact ⟨has_put_same hD (by trivial) _, fun v hv => by cases hv; exact atKey_put_same hD (by trivial) _ _⟩
 ·rw [sbq_ne e, if_neg (by decide)]
  obtain ⟨h1, h2⟩ := h s hs
  exact ⟨by rw [has_put_other (str_ne (Ne.symm e))]; exact h1, fun v hv => by rw [atKey_put_other (str_ne (Ne.symm e))]; exact h2 v hv⟩
theorem sizeCn : (Tryd.prog.info? 42).map (·.size) = some 2 := by kernel_rfl
theorem all2 {x y : Value} (h0 : x.oneCell' = true) (h1 : y.oneCell' = true) : (#[x, y] : Array Value).all (·.oneCell') = true := by simp [h0, h1]
open Go.RowKit Go.Maps
/-- What byName answers. -/
def BnA (w' : World) (F : Nat → Cn) (n : Nat) (e : Ending) : Prop :=
 (mayE F n = true ∧ ∃ b, e = .returned (.tuple #[.map (some b), .bool true]) ∧ Mp w' b n (elk F n)) ∨ (mayE F n = false ∧ e = .returned (.tuple #[.map none, .bool false]))
theorem qeh (w : World) (a : Option Addr) (n c : Nat) (F : Nat → Cn) (hE : EL w a n F) (hn : n ≤ 140737488351232) (hw : Wt9 w) :
  Calls Tryd.prog 55 #[.slice a n c] w fun e w' => BnA w' F n e ∧ Below w.heap.size w w' := by
 have HE := qa0 hE
 have HW := qa0 hw
 clear hE hw
 have hmm := @run_makeMap Tryd.prog
 go_enter Tryd.func55, Tryd.ntmps55
 go_wp2
 go_loopw [12] (fun vi wr => ∃ (i : Nat), i ≤ n ∧ vi = .int .i64 (i : Int) ∧ Hid (mayE F i = true) ∧ Hid (Mp wr w.heap.size i (elk F i)) ∧ Below w.heap.size w wr) (fun vi _ => n - (intOf vi).toNat)
 case atStart => exact ⟨0, by omega, rfl, rfl, ⟨_, World.ownsMap_made _ _ _ _, mpD_nil⟩, jlow _ _⟩
 case round =>
  obtain ⟨i, hi, rfl, HM, HO, hb⟩ := hrel
  have HB := qa0 hb
  by_cases hlt : i < n
  ·have p0 : (0 : Int) ≤ (i : Int) := by omega
   have p1 : (i : Int) < (n : Int) := by omega
   obtain ⟨⟨hs, hn1, hn2⟩, b, o, rfl, k0, k1⟩ := (HE.out.later hb) i hlt
   have HNo : Hid ((isN (F i).nm && nmB (F i).n && (elk F i (F i).nm).isNone) = false → mayE F n = false) := fun h => mayE_no hlt h
   have HYes : Hid ((isN (F i).nm && nmB (F i).n && (elk F i (F i).nm).isNone) = true → mayE F (i + 1) = true) := fun h => by
    show (mayE F i && _) = true
    rw [HM.out, h]
    rfl
   obtain ⟨D, hO, hD⟩ := HO.out
   have HOw := qa0 hO
   have HDn : Hid (MpD (D.put (.string (F i).nm.data.toList) (.lit (.int .i64 (F i).n))) (elk F (i + 1))) := mpD_put hD hO.isMap
   have hh := (hD (F i).nm hs).1
   have HK := qa0 (WideMaps.keyOf_string_mk (P := Tryd.prog) (k := 9) Tryd.underlying9 (s := (F i).nm) (by unfold maxLen; omega))
   have HI : Hid (∀ w' : World, Below w.heap.size w w' → Calls Tryd.prog 71 #[.string (F i).nm] w' fun e w'' => e = .returned (.bool (isN (F i).nm)) ∧ Below w'.heap.size w' w'') := fun w' hb => isname12 w' _ hs (HW.out.later hb)
   have HN : Hid (∀ w' : World, Calls Tryd.prog 72 #[.int .i64 (F i).n] w' fun e w'' => e = .returned (.bool (nmB (F i).n)) ∧ w' = w'') := fun w' => qbd w' _
   have hwf : (Lit.int .i64 (F i).n).wf = true := WalkArith.wf_i64 (by omega)
   have HWf := qa0 hwf
   clear hwf hO hD HO
   generalize (elk F i (F i).nm) = r at *
   generalize isN (F i).nm = r1 at *
   generalize nmB (F i).n = r2 at *
   generalize (F i).nm = s at *
   generalize (F i).n = v at *
   have MS : True := trivial
   cases r with
   | some rv =>
    have hf := HNo.out (by simp)
    have hh : Maps.has D (.string s.data.toList) = true := hh
    clear HNo HYes
    go_wp2_with (first
     | (clear MS; refine qa1 rfl 42 _ _ rfl wr.heap.size _ #[.string s, .int .i64 v] rfl rfl (Vn.new wr _ _) sizeCn rfl (all2 rfl rfl) ?_; intro w1 HV1 hg1; have hb1 : Below wr.heap.size wr w1 := (jlow _ _).trans (jbelow hg1.out (jlow _ _).size (fun g e => by cases e; exact Nat.le_refl _)); have HB1 := qa0 (jtwo HB.out hb1); have HO1 := qa0 (qan HOw.out hb1); have m0 := HV1.out.cell 0 _ rfl; have m1 := HV1.out.cell 1 _ rfl; clear hg1 hb1)
     | (at_lookup; refine wpList_lookup_own_ok_int _ rfl _ _ 113 rfl 9 3 .i64 qau Tryd.underlying113 Tryd.underlying3 (qbj _) w.heap.size i D rfl HO1.out _ _ rfl HK.out ?_; intro c hat hwc))
    go_ret2
    exact ⟨.inr ⟨hf, rfl⟩, HB1.out⟩
   | none =>
    have hh : Maps.has D (.string s.data.toList) = false := hh
    cases r1 with
    | false =>
     have hf := HNo.out (by simp)
     clear HNo HYes
     go_wp2_with (first
      | (clear MS; refine qa1 rfl 42 _ _ rfl wr.heap.size _ #[.string s, .int .i64 v] rfl rfl (Vn.new wr _ _) sizeCn rfl (all2 rfl rfl) ?_; intro w1 HV1 hg1; have hb1 : Below wr.heap.size wr w1 := (jlow _ _).trans (jbelow hg1.out (jlow _ _).size (fun g e => by cases e; exact Nat.le_refl _)); have HB1 := qa0 (jtwo HB.out hb1); have HO1 := qa0 (qan HOw.out hb1); have m0 := HV1.out.cell 0 _ rfl; have m1 := HV1.out.cell 1 _ rfl; clear hg1 hb1)
      | (at_lookup; refine wpList_lookup_own_ok_int _ rfl _ _ 113 rfl 9 3 .i64 qau Tryd.underlying113 Tryd.underlying3 (qbj _) w.heap.size i D rfl HO1.out _ _ rfl HK.out ?_; intro c hat hwc)
      | (go_at_call 71; refine (HI.out _ HB1.out).mono ?_; rintro e w2 ⟨rfl, hb2⟩; have HB2 := qa0 (jtwo HB1.out hb2); clear hb2))
     go_ret2
     exact ⟨.inr ⟨hf, rfl⟩, HB2.out⟩
    | true =>
     cases r2 with
     | false =>
      have hf := HNo.out (by simp)
      clear HNo HYes
      go_wp2_with (first
       | (clear MS; refine qa1 rfl 42 _ _ rfl wr.heap.size _ #[.string s, .int .i64 v] rfl rfl (Vn.new wr _ _) sizeCn rfl (all2 rfl rfl) ?_; intro w1 HV1 hg1; have hb1 : Below wr.heap.size wr w1 := (jlow _ _).trans (jbelow hg1.out (jlow _ _).size (fun g e => by cases e; exact Nat.le_refl _)); have HB1 := qa0 (jtwo HB.out hb1); have HO1 := qa0 (qan HOw.out hb1); have m0 := HV1.out.cell 0 _ rfl; have m1 := HV1.out.cell 1 _ rfl; have HV1k := HV1; clear hg1 hb1)
       | (at_lookup; refine wpList_lookup_own_ok_int _ rfl _ _ 113 rfl 9 3 .i64 qau Tryd.underlying113 Tryd.underlying3 (qbj _) w.heap.size i D rfl HO1.out _ _ rfl HK.out ?_; intro c hat hwc)
       | (go_at_call 71; refine (HI.out _ HB1.out).mono ?_; rintro e w2 ⟨rfl, hb2⟩; have HB2 := qa0 (jtwo HB1.out hb2); have HV2 := qa0 (HV1.out.later hb2); have n0 := HV2.out.cell 0 _ rfl; have n1 := HV2.out.cell 1 _ rfl; clear hb2)
       | (go_at_call 72; refine (HN.out _).mono ?_; rintro e w3 ⟨rfl, rfl⟩))
      go_ret2
      exact ⟨.inr ⟨hf, rfl⟩, HB2.out⟩
     | true =>
      have hf := qa0 (HYes.out (by simp))
      clear HNo HYes
      go_wp2_with (first
       | (clear MS; refine qa1 rfl 42 _ _ rfl wr.heap.size _ #[.string s, .int .i64 v] rfl rfl (Vn.new wr _ _) sizeCn rfl (all2 rfl rfl) ?_; intro w1 HV1 hg1; have hb1 : Below wr.heap.size wr w1 := (jlow _ _).trans (jbelow hg1.out (jlow _ _).size (fun g e => by cases e; exact Nat.le_refl _)); have HB1 := qa0 (jtwo HB.out hb1); have HO1 := qa0 (qan HOw.out hb1); have m0 := HV1.out.cell 0 _ rfl; have m1 := HV1.out.cell 1 _ rfl; clear hg1 hb1)
       | (at_lookup; refine wpList_lookup_own_ok_int _ rfl _ _ 113 rfl 9 3 .i64 qau Tryd.underlying113 Tryd.underlying3 (qbj _) w.heap.size i D rfl HO1.out _ _ rfl HK.out ?_; intro c hat hwc)
       | (go_at_call 71; refine (HI.out _ HB1.out).mono ?_; rintro e w2 ⟨rfl, hb2⟩; have HB2 := qa0 (jtwo HB1.out hb2); have HO2 := qa0 (qan HO1.out hb2); have HV2 := qa0 (HV1.out.later hb2); have n0 := HV2.out.cell 0 _ rfl; have n1 := HV2.out.cell 1 _ rfl; clear hb2)
       | (go_at_call 72; refine (HN.out _).mono ?_; rintro e w3 ⟨rfl, rfl⟩)
       | (at_mapUpdate; refine wpList_mapUpdate_own _ rfl _ _ _ 113 rfl 9 3 qau Tryd.underlying113 _ w.heap.size i D rfl HO2.out (by unfold maxLen; omega) _ _ _ rfl rfl HK.out _ [] (plainElem_int Tryd.underlying3 HWf.out) ?_; intro w4 hO4 hg4))
      exact ⟨⟨i + 1, by omega, by go_num, hf, ⟨_, hO4, HDn.out⟩, HB2.out.trans (jbelow hg4 HB2.out.size (fun g e => by cases e; exact Nat.le_refl _))⟩, by simp [intOf]; omega⟩
  ·obtain rfl : i = n := by omega
   clear hb
   go_wp2
   go_ret2
   exact ⟨.inl ⟨HM.out, _, rfl, HO.out⟩, HB.out⟩
end Go.Proofs.YtemhodenkgngmaaDoor
