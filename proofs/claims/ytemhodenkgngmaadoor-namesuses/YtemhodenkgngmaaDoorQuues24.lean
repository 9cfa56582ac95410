/-
  Stage 13: the names of an expression, told one after another.
-/
import Derived.Test.YtemhodenkgngmaaDoorQuues00
import Derived.Test.YtemhodenkgngmaaDoorQuues23
import Derived.RangeFuncNested
import Derived.RangeFuncBound
import Derived.RangeFuncCalls
import Derived.RangeFuncLeaves
import Derived.Shelf.Abstract
import Derived.Shelf.RegionOpen
import Derived.WalkKit
import Derived.OwnWalkIn
import Derived.TacticsInMore
import Derived.LoopNIn
import Derived.LoopIn
set_option maxRecDepth 100000
set_option maxHeartbeats 16000000
namespace Go.Proofs.YtemhodenkgngmaaDoor
open Go.RowKit Go.Shelf
attribute [local go_sem] Oper.semAt_some
/-- A name where it is used: what it asks for, where it stands. -/
structure Us where
 nm : ByteArray
 k : Nat
 ln : Int
 cl : Int
def usV (u : Us) : Value := .agg #[.string u.nm, .int .u8 (u.k : Int), .int .i64 u.ln, .int .i64 u.cl]
theorem qd0 {m m' : Nat} {P : Program} {l : Nat} {f : FuncId} {tmps : Array Value} {assign body : Code} {w : World} {R : Ending → World → Prop}
  (h : RoundIn Fence.wide m P l f tmps assign body w R) : RoundIn Fence.wide m' P l f tmps assign body w R := ⟨h.1, fun c cs _ => h.2 c cs (room_wide _)⟩
/-- From block s on, nothing of w is changed. -/
structure Ak (s : Nat) (w v : World) : Prop where
 size : w.heap.size ≤ v.heap.size
 same : ∀ b, s ≤ b → b < w.heap.size → v.heap[b]? = w.heap[b]?
theorem Ak.refl (s : Nat) (w : World) : Ak s w w := ⟨Nat.le_refl _, fun _ _ _ => rfl⟩
theorem Ak.trans {s : Nat} {w v u : World} (h : Ak s w v) (g : Ak s v u) : Ak s w u := ⟨Nat.le_trans h.size g.size, fun b hb hl => by rw [g.same b hb (Nat.lt_of_lt_of_le hl h.size), h.same b hb hl]⟩
theorem Ak.of {s : Nat} {w v : World} (h : Below w.heap.size w v) : Ak s w v := ⟨h.size, fun b _ hb => h.block b hb⟩
theorem Vn.keptK {s : Nat} {w v : World} {b : Nat} {T : TypeId} {xs : Array Value} (h : Vn w b T xs) (g : Ak s w v) (hb : s ≤ b) : Vn v b T xs := by
 have hl := h.lt
 unfold Vn at *
 rw [g.same b hb hl]
 exact h
/-- A list U of uses is told: T j: the first j have come; Tx: no more is asked for. -/
structure Itx (l : Nat) (w0 : World) (s : Nat) (U : List Us) (T : Nat → World → Prop) (Tx : World → Prop) : Prop where
 low : ∀ j W, T j W → Below w0.heap.size w0 W
 big : ∀ j W, T j W → s ≤ W.heap.size
 step : ∀ j W W', T j W → Below W.heap.size W W' → T j W'
 yld : ∀ j u W, U[j]? = some u → T j W → ∃ fn tmps assign body, (Instr.yield l #[usV u]).run Tryd.prog W = .ok (.round l fn tmps assign body) W ∧ ∀ m, RoundIn Fence.wide m Tryd.prog l fn tmps assign body W (fun e W' => (e = .returned (.bool true) ∧ T (j + 1) W' ∧ Ak s W W') ∨ (e = .returned (.bool false) ∧ Tx W'))
/-- The uses us stand in U from j on. -/
def Sg (U : List Us) (j : Nat) (us : List Us) : Prop := ∃ post, U.drop j = us ++ post
theorem Sg.app {U : List Us} {j : Nat} {us vs : List Us} (h : Sg U j (us ++ vs)) : Sg U j us ∧ Sg U (j + us.length) vs := by
 obtain ⟨p, e⟩ := h
 refine ⟨⟨vs ++ p, by rw [e, List.append_assoc]⟩, ⟨p, ?_⟩⟩
 rw [← List.drop_drop, e, List.append_assoc, List.drop_left]
theorem Sg.one {U : List Us} {j : Nat} {u : Us} (h : Sg U j [u]) : U[j]? = some u := by
 obtain ⟨p, e⟩ := h
 have h2 : (U.drop j)[0]? = some u := by rw [e]; rfl
 rw [List.getElem?_drop, Nat.add_zero] at h2
 exact h2
/-- How telling ends. -/
def TlA (s : Nat) (W : World) (T : Nat → World → Prop) (Tx : World → Prop) (j : Nat) (e : Ending) (W' : World) : Prop := (e = .returned (.bool true) ∧ T j W' ∧ Ak s W W') ∨ (e = .returned (.bool false) ∧ Tx W')
def xu (T : Xt) : Us := ⟨(T []).nm, 1, (T []).ln, (T []).cl⟩
/-- One after another. -/
def xcat (f : Xt → List Us) (F : Nat → Xt) : Nat → List Us
 | 0 => []
 | n + 1 => xcat f F n ++ f (F n)
/-- The names of an expression. -/
def xus : Nat → Xt → List Us
 | 0, T => if (T []).k = 2 then [xu T] else []
 | d + 1, T => if (T []).k = 2 then [xu T] else xcat (xus d) (kid T) (T []).len
theorem xcat_sg {f : Xt → List Us} {F : Nat → Xt} {U : List Us} {j : Nat} : ∀ {n : Nat}, Sg U j (xcat f F n) → ∀ i, i < n → Sg U (j + (xcat f F i).length) (f (F i)) := by
 intro n
 induction n with
 | zero => intro _ i hi; omega
 | succ n ih =>
  intro h i hi
  have h2 := Sg.app (show Sg U j (xcat f F n ++ f (F n)) from h)
  by_cases e : i = n
  ·subst e; exact h2.2
  ·exact ih h2.1 i (by omega)
theorem qe2 (f : Xt → List Us) (F : Nat → Xt) (n : Nat) : (xcat f F (n + 1)).length = (xcat f F n).length + (f (F n)).length := List.length_append
/-- An expression is at most d deep. -/
def dpx : Nat → Xt → Prop
 | 0, T => (T []).len = 0
 | d + 1, T => ∀ i, i < (T []).len → dpx d (kid T i)
theorem MX.dpx : ∀ {d : Nat} {T : Xt}, MX d T → Go.Proofs.YtemhodenkgngmaaDoor.dpx d T := by
 intro d
 induction d with
 | zero => intro T h; exact h.no.elim
 | succ d ih => intro T h i hi; exact ih (h.kid hi)
theorem qb7 {d : Nat} {T : Xt} (h : (T []).len = 0) : Go.Proofs.YtemhodenkgngmaaDoor.dpx d T := by
 cases d with
 | zero => exact h
 | succ d => intro i hi; omega
/-- inExprs, whose expressions are told by inExpr. -/
theorem inxs (l : Nat) (w0 : World) (s : Nat) (U : List Us) (T : Nat → World → Prop) (Tx : World → Prop) (hI : Itx l w0 s U T Tx) (f : Xt → List Us) (F : Nat → Xt) (a : Option Addr) (n c : Nat) (hF : ∀ d, XL d w0 a n F) (hn : n ≤ 140737488351232)
  (IH : ∀ i, i < n → ∀ j W v, T j W → Sg U j (f (F i)) → XV w0 v (F i) → Calls Tryd.prog 36 #[v, .func (.yield l) #[] #[]] W (TlA s W T Tx (j + (f (F i)).length)))
  (j : Nat) (W0 : World) (h0 : T j W0) (hS : Sg U j (xcat f F n)) :
  Calls Tryd.prog 38 #[.slice a n c, .func (.yield l) #[] #[]] W0 (TlA s W0 T Tx (j + (xcat f F n).length)) := by
 have HI := qa0 hI
 have HF := qa0 hF
 have HIH := qa0 IH
 have HS := qa0 hS
 have H0 := qa0 h0
 clear hI hF IH hS h0
 refine (callsIn_wide (n := 3)).1 ?_
 refine callsIn_of_wp Tryd.func38 rfl trivial ?_ rfl
 simp only [Tryd.ntmps38, List.size_toArray, List.length_cons, List.length_nil, Nat.reduceAdd, Nat.reduceSub, Array.replicate_succ, Array.replicate_zero, List.push_toArray, List.append_toArray, List.nil_append, List.cons_append]
 gi_wp2
 gi_loopw [9] (fun vi wr => ∃ i : Nat, i ≤ n ∧ vi = .int .i64 (i : Int) ∧ T (j + (xcat f F i).length) wr ∧ Ak s W0 wr) (fun vi _ => n - (intOf vi).toNat)
 case atStart => exact ⟨0, by omega, rfl, H0.out, Ak.refl _ _⟩
 case round =>
  obtain ⟨i, hi, rfl, ht, hk⟩ := hrel
  have HK := qa0 hk
  clear hk
  have HT := qa0 ht
  by_cases hlt : i < n
  ·have p0 : (0 : Int) ≤ (i : Int) := by omega
   have p1 : (i : Int) < (n : Int) := by omega
   have hlow := HI.out.low _ _ ht
   obtain ⟨b, o, k, nl, nn, ll, cc, nm, ka, kc, rfl, hkid, hcl⟩ := XL.at_ HF.out hlt
   obtain ⟨t0, t1, t2, t3, t4, t5⟩ := hcl _ hlow
   have HSi := qa0 (xcat_sg HS.out i hlt)
   have HC : Hid (∀ W', T (j + (xcat f F i).length) W' → Calls Tryd.prog 36 #[.agg #[.int .u8 (k : Int), .int .i64 nn, .string nm, .slice ka nl kc, .int .i64 ll, .int .i64 cc], .func (.yield l) #[] #[]] W' (TlA s W' T Tx (j + (xcat f F (i + 1)).length))) := fun W' h1 => by
    have h3 := HIH.out i hlt _ W' _ h1 HSi.out hkid
    rw [Nat.add_assoc, ← qe2] at h3
    exact h3
   clear ht hlow hcl hkid HIH HSi HS HF
   gi_wp2_with (refine ⟨trivial, ?_⟩; gi_at_call 36; refine (callsIn_wide.2 (HC.out _ (HI.out.step _ _ _ HT.out (jlow _ _)))).mono ?_; rintro e w3 (⟨rfl, ht3, hk3⟩ | ⟨rfl, hx3⟩))
   ·exact ⟨⟨i + 1, by omega, by go_num, ht3, (HK.out.trans (Ak.of (jlow _ _))).trans hk3⟩, by simp [intOf]; omega⟩
   ·gi_wp2
    go_ret
    exact .inr ⟨rfl, hx3⟩
  ·obtain rfl : i = n := by omega
   gi_wp2
   go_ret
   exact .inl ⟨rfl, HT.out, HK.out⟩
theorem qe3 {d : Nat} {T : Xt} (h : (T []).k = 2) : xus d T = [xu T] := by
 cases d with
 | zero => show (if _ then _ else _) = _; rw [if_pos h]
 | succ d => show (if _ then _ else _) = _; rw [if_pos h]
/-- inExpr at a name. -/
theorem qe4 (l : Nat) (w0 : World) (s : Nat) (U : List Us) (T : Nat → World → Prop) (Tx : World → Prop) (hI : Itx l w0 s U T Tx) (X : Xt) (hk : (X []).k = 2) (j : Nat) (W : World) (v : Value) (h0 : T j W) (hu : U[j]? = some (xu X)) (hX : XV w0 v X) :
  Calls Tryd.prog 36 #[v, .func (.yield l) #[] #[]] W (TlA s W T Tx (j + 1)) := by
 obtain ⟨⟨a, cap, rfl, _⟩, _⟩ := hX
 unfold xu at hu
 generalize X [] = q at *
 obtain ⟨k, n, nm, len, ln, cl⟩ := q
 dsimp only at *
 have q : ((k : Int) == 2) = true := by simp; omega
 clear hk
 have hT := hI.step _ _ _ h0 (jlow W (.cells #[.int .u8 (k : Int), .int .i64 n, .string nm, .slice a len cap, .int .i64 ln, .int .i64 cl] 53))
 obtain ⟨fn, tmps, assign, body, hy, hR⟩ := hI.yld j _ _ hu hT
 have hy2 : (Instr.yield l #[.agg #[.string nm, .int .u8 1, .int .i64 ln, .int .i64 cl]]).run Tryd.prog (W.alloc (.cells #[.int .u8 (k : Int), .int .i64 n, .string nm, .slice a len cap, .int .i64 ln, .int .i64 cl] 53)) = .ok (.round l fn tmps assign body) (W.alloc (.cells #[.int .u8 (k : Int), .int .i64 n, .string nm, .slice a len cap, .int .i64 ln, .int .i64 cl] 53)) := hy
 clear hy
 have HRd := qa0 (hR 2)
 clear hR hI hT h0
 refine (callsIn_wide (n := 3)).1 ?_
 refine callsIn_of_wp Tryd.func36 rfl trivial ?_ rfl
 simp only [Tryd.ntmps36, List.size_toArray, List.length_cons, List.length_nil, Nat.reduceAdd, Nat.reduceSub, Array.replicate_succ, Array.replicate_zero, List.push_toArray, List.append_toArray, List.nil_append, List.cons_append]
 gi_wp2
 refine HRd.out.mono ?_
 rintro e W3 (⟨rfl, ht3, hk3⟩ | ⟨rfl, htx⟩)
 ·gi_wp2
  go_ret
  exact .inl ⟨rfl, ht3, (Ak.of (jlow _ _)).trans hk3⟩
 ·gi_wp2
  go_ret
  exact .inr ⟨rfl, htx⟩
/-- inExpr elsewhere. -/
theorem qd3 (l s : Nat) (T : Nat → World → Prop) (Tx : World → Prop) (k len cap j2 : Nat) (n ln cl : Int) (nm : ByteArray) (a : Option Addr) (hk : k ≠ 2) (W : World)
  (HC : Hid (∀ W', Below W.heap.size W W' → Calls Tryd.prog 38 #[.slice a len cap, .func (.yield l) #[] #[]] W' (TlA s W' T Tx j2))) :
  Calls Tryd.prog 36 #[.agg #[.int .u8 (k : Int), .int .i64 n, .string nm, .slice a len cap, .int .i64 ln, .int .i64 cl], .func (.yield l) #[] #[]] W (TlA s W T Tx j2) := by
 have q : ((k : Int) == 2) = false := by simp; omega
 clear hk
 refine (callsIn_wide (n := 3)).1 ?_
 refine callsIn_of_wp Tryd.func36 rfl trivial ?_ rfl
 simp only [Tryd.ntmps36, List.size_toArray, List.length_cons, List.length_nil, Nat.reduceAdd, Nat.reduceSub, Array.replicate_succ, Array.replicate_zero, List.push_toArray, List.append_toArray, List.nil_append, List.cons_append]
 gi_wp2_with (refine ⟨trivial, ?_⟩; gi_at_call 38; refine (callsIn_wide.2 (HC.out _ (jlow _ _))).mono ?_; rintro e w3 (⟨rfl, ht3, hk3⟩ | ⟨rfl, hx3⟩))
 ·go_ret
  exact .inl ⟨rfl, ht3, (Ak.of (jlow _ _)).trans hk3⟩
 ·go_ret
  exact .inr ⟨rfl, hx3⟩
/-- inExpr. -/
theorem inx (l : Nat) (w0 : World) (s : Nat) (U : List Us) (T : Nat → World → Prop) (Tx : World → Prop) (hI : Itx l w0 s U T Tx) : ∀ (d : Nat) (X : Xt), dpx d X → ∀ (j : Nat) (W : World) (v : Value), T j W → Sg U j (xus d X) → XV w0 v X → Calls Tryd.prog 36 #[v, .func (.yield l) #[] #[]] W (TlA s W T Tx (j + (xus d X).length)) := by
 intro d
 induction d with
 | zero =>
  intro X hd j W v h0 hS hX
  by_cases hk : (X []).k = 2
  ·rw [qe3 hk] at hS ⊢
   exact qe4 l w0 s U T Tx hI X hk j W v h0 hS.one hX
  ·have hl : (X []).len = 0 := hd
   have e : xus 0 X = [] := by show (if _ then _ else _) = _; rw [if_neg hk]
   rw [e]
   obtain ⟨⟨a, cap, rfl, hp⟩, hok⟩ := hX
   refine qd3 l s T Tx _ _ _ _ _ _ _ _ _ hk W (fun W' hb => ?_)
   have := inxs l w0 s U T Tx hI (fun _ => []) (kid X) a (X []).len cap hp (by rw [hl]; omega) (fun i hi => by omega) j W' (hI.step _ _ _ h0 hb) (by rw [hl]; exact ⟨_, rfl⟩)
   rw [hl] at this ⊢
   exact this
 | succ d ih =>
  intro X hd j W v h0 hS hX
  by_cases hk : (X []).k = 2
  ·rw [qe3 hk] at hS ⊢
   exact qe4 l w0 s U T Tx hI X hk j W v h0 hS.one hX
  ·have e : xus (d + 1) X = xcat (xus d) (kid X) (X []).len := by show (if _ then _ else _) = _; rw [if_neg hk]
   rw [e] at hS ⊢
   obtain ⟨⟨a, cap, rfl, hp⟩, hok⟩ := hX
   exact qd3 l s T Tx _ _ _ _ _ _ _ _ _ hk W (fun W' hb => inxs l w0 s U T Tx hI (xus d) (kid X) a (X []).len cap hp hok.len47 (fun i hi j W v h1 h2 h3 => ih (kid X i) (hd i hi) j W v h1 h2 h3) j W' (hI.step _ _ _ h0 hb) hS)
end Go.Proofs.YtemhodenkgngmaaDoor
