/-
  Contracts of the program's tree: memory of its own; each over expressions, stripExpr, stripExprs.
-/
import Derived.Test.YtdimkfcanegahaaDoorDw
import Derived.Test.YtdimkfcanegahaaDoorGd
import Derived.Lib.LazyBuf
import Derived.Deep.Upon
import Derived.Laws.MakeOwn
namespace Go.Proofs.YtdimkfcanegahaaDoor
open Go.RowKit
/-- From block s on, nothing of w is changed. -/
structure Ag (s : Nat) (w v : World) : Prop where
  size : w.heap.size ≤ v.heap.size
  same : ∀ b, s ≤ b → b < w.heap.size → v.heap[b]? = w.heap[b]?
theorem Ag.refl (s : Nat) (w : World) : Ag s w w := ⟨Nat.le_refl _, fun _ _ _ => rfl⟩
theorem Ag.trans {s : Nat} {w v u : World} (h : Ag s w v) (g : Ag s v u) : Ag s w u := ⟨Nat.le_trans h.size g.size, fun b hb hl => by rw [g.same b hb (Nat.lt_of_lt_of_le hl h.size), h.same b hb hl]⟩
theorem Ag.of {s : Nat} {w v : World} (h : Below w.heap.size w v) : Ag s w v := ⟨h.size, fun b _ hb => h.block b hb⟩
theorem Ag.mono {s t : Nat} {w v : World} (h : Ag s w v) (hst : s ≤ t) : Ag t w v := ⟨h.size, fun b hb hl => h.same b (by omega) hl⟩
theorem Ag.sets {w : World} {g s : Nat} (hs : g < s) (o : Nat) (vs : List Value) : Ag s w (w.setCells g o vs) := ⟨(Go.below_setCells (Nat.zero_le _) vs o w (Below.refl 0 w)).size, fun b hb hl => World.heap_setCells_other w g o vs hl (by omega)⟩
/-- It holds, and goes on holding whatever is done to blocks below s. -/
def Fr (s : Nat) (w : World) (P : World → Prop) : Prop := ∀ v, Ag s w v → P v
theorem Fr.now {s : Nat} {w : World} {P : World → Prop} (h : Fr s w P) : P w := h w (Ag.refl _ _)
theorem Fr.step {s : Nat} {w v : World} {P : World → Prop} (h : Fr s w P) (g : Ag s w v) : Fr s v P := fun u hu => h u (g.trans hu)
theorem Fr.weak {s t : Nat} {w : World} {P : World → Prop} (h : Fr t w P) (hst : s ≤ t) : Fr s w P := fun v hv => h v (hv.mono hst)
theorem Vn.keptA {s : Nat} {w v : World} {b : Nat} {T : TypeId} {xs : Array Value} (h : Vn w b T xs) (g : Ag s w v) (hb : s ≤ b) : Vn v b T xs := by
  have hl := h.lt
  unfold Vn at *
  rw [g.same b hb hl]
  exact h
/-- n elements of c cells each, in a block of their own from s on. -/
def Nb (s : Nat) (w : World) (a : Option Addr) (n : Nat) (T : TypeId) (c : Nat) : Prop := (n = 0 ∧ a = none) ∨ ∃ g cs, a = some ⟨g, 0, none⟩ ∧ s ≤ g ∧ Vn w g T cs ∧ cs.size = n * c
/-- What stands in an array when a piece of it is written. -/
def spl (xs : Array Value) (o : Nat) : List Value → Array Value
  | [] => xs
  | v :: r => spl (xs.setIfInBounds o v) (o + 1) r
theorem spl_size : ∀ (vs : List Value) (xs : Array Value) (o : Nat), (spl xs o vs).size = xs.size := by
  intro vs
  induction vs with
  | nil => intro xs o; rfl
  | cons v r ih => intro xs o; show (spl (xs.setIfInBounds o v) (o + 1) r).size = _; rw [ih, Array.size_setIfInBounds]
theorem spl_out : ∀ (vs : List Value) (xs : Array Value) (o q : Nat), q < o ∨ o + vs.length ≤ q → (spl xs o vs)[q]? = xs[q]? := by
  intro vs
  induction vs with
  | nil => intro xs o q _; rfl
  | cons v r ih =>
    intro xs o q h
    show (spl (xs.setIfInBounds o v) (o + 1) r)[q]? = _
    rw [List.length_cons] at h
    rw [ih _ _ _ (by omega), Array.getElem?_setIfInBounds, if_neg (by omega)]
theorem spl_in : ∀ (vs : List Value) (xs : Array Value) (o j : Nat) (x : Value), vs[j]? = some x → o + vs.length ≤ xs.size → (spl xs o vs)[o + j]? = some x := by
  intro vs
  induction vs with
  | nil => intro xs o j x h; cases h
  | cons v r ih =>
    intro xs o j x h hs
    show (spl (xs.setIfInBounds o v) (o + 1) r)[o + j]? = _
    rw [List.length_cons] at hs
    cases j with
    | zero =>
      rw [spl_out _ _ _ _ (by omega), Array.getElem?_setIfInBounds, if_pos (by omega), if_pos (by omega)]
      exact h
    | succ j =>
      have h2 : r[j]? = some x := by simpa using h
      have := ih (xs.setIfInBounds o v) (o + 1) j x h2 (by rw [Array.size_setIfInBounds]; omega)
      rw [show o + (j + 1) = o + 1 + j by omega]
      exact this
theorem Vn.sets {b : Nat} {T : TypeId} : ∀ (vs : List Value) (o : Nat) (w : World) (xs : Array Value), Vn w b T xs → Vn (w.setCells b o vs) b T (spl xs o vs) := by
  intro vs
  induction vs with
  | nil => intro o w xs h; exact h
  | cons v r ih => intro o w xs h; exact ih (o + 1) _ _ (h.set o v)
theorem wp_store_spl {op : Oper} {a : Act} {w : World} {K : Act → World → Prop} {Q : Exit → Act → World → Prop} (ty : TypeId) (x y : Operand) (ho : op.op = .store ty x y)
    (b o : Nat) (T : TypeId) (xs ys : Array Value) (hx : a.eval x = .pointer (some ⟨b, o, none⟩)) (hy : a.eval y = .agg ys) (hi : (Tryd.prog.info? ty).map (·.size) = some ys.size) (h1 : ys.all (·.oneCell') = true) (hV : Vn w b T xs) (hlt : o + ys.size ≤ xs.size)
    (h : ∀ w', Hid (Vn w' b T (spl xs o ys.toList)) → Hid (∀ s, b < s → Ag s w w') → Hid (∀ B, B ≤ b → Below B w w') → K (a.put op.dst undef) w') : op.wp Tryd.prog a w K Q :=
  wp_store_mid ty x y ho b o ys hx hy (fun j hj => ⟨by rw [hV.cell (o + j) xs[o + j] (by rw [Array.getElem?_eq_getElem (by omega)])]; rfl, hV.free _⟩) hi h1 (h _ (Vn.sets _ _ _ _ hV) (fun s hs => Ag.sets hs _ _) (fun B hB => Go.below_setCells hB _ _ _ (Below.refl _ _)))
theorem wpList_store_spl {ops : Array Oper} {rest : List Oper} {op : Oper} {a : Act} {w : World} {Q : Exit → Act → World → Prop} (hgd : op.guard = none) (ty : TypeId) (x y : Operand) (ho : op.op = .store ty x y)
    (b o : Nat) (T : TypeId) (xs ys : Array Value) (hx : a.eval x = .pointer (some ⟨b, o, none⟩)) (hy : a.eval y = .agg ys) (hi : (Tryd.prog.info? ty).map (·.size) = some ys.size) (h1 : ys.all (·.oneCell') = true) (hV : Vn w b T xs) (hlt : o + ys.size ≤ xs.size)
    (h : ∀ w', Hid (Vn w' b T (spl xs o ys.toList)) → Hid (∀ s, b < s → Ag s w w') → Hid (∀ B, B ≤ b → Below B w w') → wpList Tryd.prog ops Q rest (a.put op.dst undef) w') : wpList Tryd.prog ops Q (op :: rest) a w :=
  wpList_plain hgd fun _ hK => wp_store_spl ty x y ho b o T xs ys hx hy hi h1 hV hlt (fun w' g1 g2 g3 => hK _ _ (h w' g1 g2 g3))
/-- A slice is made: its block is new, its cells are as many as it must have. -/
theorem wpList_make_new {ops : Array Oper} {rest : List Oper} {op : Oper} {a : Act} {w : World} {Q : Exit → Act → World → Prop} (hgd : op.guard = none) (t e : TypeId) (x : Operand) (ho : op.op = .makeSlice t x x) (n c bb : Nat) (hx : a.eval x = .int .i64 (n : Int))
    (ht : Tryd.prog.underlying t = some (.slice e)) (hi : (Tryd.prog.info? e).map (fun i => (i.size, i.bytes, i.zero.isSome)) = some (c, bb, true)) (hb : bb ≤ 1000) (hn : n ≤ 64)
    (h : ∀ w' cs, Hid (Vn w' w.heap.size e cs) → Hid (cs.size = n * c) → Hid (Below w.heap.size w w') → wpList Tryd.prog ops Q rest (a.put op.dst (.slice (some ⟨w.heap.size, 0, none⟩) n n)) w') : wpList Tryd.prog ops Q (op :: rest) a w := by
  cases hie : Tryd.prog.info? e with
  | none => rw [hie] at hi; cases hi
  | some i =>
    rw [hie] at hi
    simp only [Option.map_some, Option.some.injEq, Prod.mk.injEq] at hi
    obtain ⟨h1, h2, h3⟩ := hi
    obtain ⟨z, hz⟩ := Option.isSome_iff_exists.1 h3
    have hmul : i.bytes * n ≤ 1000 * 64 := Nat.mul_le_mul (by omega) hn
    have hm0 : ((i.bytes * n : Nat) : Int) ≤ 281474976710656 := by omega
    have hmi : (i.bytes : Int) * (n : Int) ≤ 281474976710656 := by rw [← Int.natCast_mul]; exact hm0
    have hr := run_make (P := Tryd.prog) w t e i z ht hie hz .i64 .i64 (n : Int) (n : Int) (by omega) (by omega) hmi (by omega)
    refine wpList_plain hgd fun _ hK => ?_
    unfold Oper.wp execOp
    simp only [ho, hx, Sem.run_bind, hr, Result.andThen_ok, Int.toNat_natCast]
    refine hK _ _ (h _ _ (Vn.new w e _) ?_ (jlow _ _))
    show (madeCells _ _).size = _
    rw [size_madeCells, h1]
/-- Without places. -/
def xst (T : Xt) : Xt := fun p => { T p with ln := 0, cl := 0 }
theorem kid_xst (T : Xt) (i : Nat) : kid (xst T) i = xst (kid T i) := rfl
/-- Few parts, d deep. -/
def SmX : Nat → Xt → Prop
  | 0, _ => False
  | d + 1, T => (T []).len ≤ 64 ∧ ∀ i, i < (T []).len → SmX d (kid T i)
theorem MX.sm : ∀ {d : Nat} {T : Xt}, MX d T → SmX d T := by
  intro d
  induction d with
  | zero => intro T h; exact h.no.elim
  | succ d ih => intro T h; exact ⟨Nat.le_trans h.len (by omega), fun i hi => ih (h.kid hi)⟩
theorem ZX.sm {T : Xt} (h : ZX T) : SmX 16 T := ⟨by have := h.2.2.2; omega, fun i hi => by have := h.2.2.2; omega⟩
theorem SmX.up : ∀ {d : Nat} {T : Xt}, SmX d T → SmX (d + 1) T := by
  intro d
  induction d with
  | zero => intro T h; exact h.elim
  | succ d ih => intro T h; exact ⟨h.1, fun i hi => ih (h.2 i hi)⟩
/-- A list of expressions in new memory. -/
def XN (s : Nat) (w : World) (a : Option Addr) (n : Nat) (F : Nat → Xt) : Prop := (∀ d, XL d w a n F) ∧ Nb s w a n 28 6
theorem infX : (Tryd.prog.info? 28).map (fun i => (i.size, i.bytes, i.zero.isSome)) = some (6, 72, true) := by kernel_rfl
theorem lx_st {l : Lx} (h : LxOk l) : LxOk { l with ln := 0, cl := 0 } := ⟨h.k8, h.n1, h.n2, h.nm47, h.len47⟩
theorem sizeL1 : (Tryd.prog.info? 26).map (·.size) = some 1 := by kernel_rfl
theorem sizeI1 : (Tryd.prog.info? 3).map (·.size) = some 1 := by kernel_rfl
theorem jtwo2 {B : Nat} {w v u : World} (h : Below B w v) (g : Below B v u) : Below B w u := h.trans g
theorem ag_grown {s b : Nat} {w v : World} (h : w.grownBy v (some b)) (hb : b < s) : Ag s w v := ⟨h.size, fun c hc hl => h.block c hl (fun e => by cases e; omega)⟩
theorem Nb.weak {s t : Nat} {w : World} {a : Option Addr} {n c : Nat} {T : TypeId} (h : Nb t w a n T c) (hst : s ≤ t) : Nb s w a n T c := by
  rcases h with h | ⟨g, cs, h1, h2, h3, h4⟩
  · exact .inl h
  · exact .inr ⟨g, cs, h1, by omega, h3, h4⟩
theorem XV.cells2 {w : World} {cs : Array Value} {T : Xt} (h : XV w (.agg cs) T) : XC w cs.toList T := by
  obtain ⟨⟨a, cap, e, hl⟩, hok⟩ := h
  cases e
  exact ⟨a, cap, rfl, hok, hl⟩
theorem xn_of {s : Nat} {w : World} {g n : Nat} {cs : Array Value} {F : Nat → Xt} (hV : Vn w g 28 cs) (hs : s ≤ g) (hc : cs.size = n * 6) (h : ∀ j, j < n → ∃ ys : List Value, ys.length = 6 ∧ (∀ q x, ys[q]? = some x → cs[j * 6 + q]? = some x) ∧ XV w (.agg ys.toArray) (F j)) : XN s w (some ⟨g, 0, none⟩) n F := by
  refine ⟨fun d i hi => ⟨g, 0, rfl, ?_⟩, .inr ⟨g, cs, rfl, hs, hV, hc⟩⟩
  obtain ⟨ys, hl, hq, hx⟩ := h i hi
  have hx2 := hx.cells2
  refine XC.at_ (cs := ys) (by simpa using hx2) (fun j hj => ?_) d
  have hy : ys[j]? = some ys[j] := List.getElem?_eq_getElem (by omega)
  rw [hy, Nat.zero_add]
  exact hV.cell _ _ (hq j _ hy)
set_option maxRecDepth 20000 in
set_option maxHeartbeats 8000000 in
theorem teach_x (d : Nat) (IH : ∀ (w : World) (T : Xt) (v : Value), SmX d T → XV w v T → Calls Tryd.prog 70 #[v] w fun e w' => ∃ a', e = .returned (.agg #[.int .u8 ((T []).k : Int), .int .i64 (T []).n, .string (T []).nm, .slice a' (T []).len (T []).len, .int .i64 0, .int .i64 0]) ∧ Fr w.heap.size w' (fun u => XN w.heap.size u a' (T []).len (kid (xst T))) ∧ Below w.heap.size w w')
    (w : World) (a : Option Addr) (n c : Nat) (F : Nat → Xt) (hX : ∀ d, XL d w a n F) (hs : ∀ i, i < n → SmX d (F i)) (hn : n ≤ 64) :
    Calls Tryd.prog 93 #[.slice a n c, .func (.func 70) #[] #[]] w fun e w' => ∃ a', e = .returned (.slice a' n n) ∧ Fr w.heap.size w' (fun u => XN w.heap.size u a' n (fun i => xst (F i))) ∧ Below w.heap.size w w' := by
  have HX := jhid9 hX
  have HS := jhid9 hs
  have HI := jhid9 IH
  clear hX hs IH
  by_cases h0 : n = 0
  · subst h0
    show Calls _ _ #[.slice a 0 c, _] _ _
    go_enter Tryd.func93, Tryd.ntmps93
    go_wp2
    go_ret
    exact ⟨none, rfl, fun u _ => ⟨fun d i hi => by omega, .inl ⟨rfl, rfl⟩⟩, Below.refl _ _⟩
  have q0 : ((n : Int) == 0) = false := by simp; omega
  have M1 : True := trivial
  go_enter Tryd.func93, Tryd.ntmps93
  go_wp2_with (clear M1; refine wpList_make_new rfl 26 28 _ rfl n 6 72 rfl Tryd.underlying26 infX (by omega) hn ?_; intro w1 cs1 HV1 HC1 HB1)
  go_loopw [16] (fun vi wr => ∃ (i : Nat) (cs : Array Value), i ≤ n ∧ vi = .int .i64 (i : Int) ∧ Hid (Vn wr w.heap.size 28 cs) ∧ Hid (cs.size = n * 6) ∧ Hid (∀ j, j < i → ∃ ys : List Value, ys.length = 6 ∧ (∀ q x, ys[q]? = some x → cs[j * 6 + q]? = some x) ∧ Fr (w.heap.size + 1) wr (fun u => XV u (.agg ys.toArray) (xst (F j)))) ∧ Hid (Below w.heap.size w wr)) (fun vi _ => n - (intOf vi).toNat)
  case atStart => exact ⟨0, cs1, by omega, rfl, HV1, HC1, fun j hj => by omega, HB1⟩
  case round =>
    obtain ⟨i, cs, hi, rfl, HV, HC, HD, HB⟩ := hrel
    by_cases hlt : i < n
    · have p0 : (0 : Int) ≤ (i : Int) := by omega
      have p1 : (i : Int) < (n : Int) := by omega
      obtain ⟨b, o, kk, nl, nn, ll, cc, nx, ka, kc, rfl, hkid, hcl⟩ := XL.at_ HX.out (i := i) hlt
      obtain ⟨k0, k1, k2, k3, k4, k5⟩ := hcl _ HB.out
      have HKid := jhid9 hkid
      have hgl := HV.out.lt
      clear hkid hcl
      have M2 : True := trivial
      have M3 : True := trivial
      go_wp2_with (first
        | (clear M2; refine wpList_store_vn rfl 28 _ _ rfl wr.heap.size _ #[.int .u8 (kk : Int), .int .i64 nn, .string nx, .slice ka nl kc, .int .i64 ll, .int .i64 cc] rfl rfl (Vn.new wr _ _) sizeX rfl (all6 rfl rfl rfl rfl rfl rfl) ?_; intro w2 HV2 hg2; have hb2 : Below wr.heap.size wr w2 := (jlow _ _).trans (jbelow hg2.out (jlow _ _).size (fun g e => by cases e; exact Nat.le_refl _)); have HB2 := jhid9 (jtwo HB.out hb2); have HVg2 := jhid9 (HV.out.later hb2); have HA2 : Hid (Ag (w.heap.size + 1) wr w2) := Ag.of hb2; have hsz2 := hb2.size; clear hg2 hb2; have m0 := HV2.out.cell 0 _ rfl; have m1 := HV2.out.cell 1 _ rfl; have m2 := HV2.out.cell 2 _ rfl; have m3 := HV2.out.cell 3 _ rfl; have m4 := HV2.out.cell 4 _ rfl; have m5 := HV2.out.cell 5 _ rfl)
        | (go_at_call 70; refine (HI.out _ (F i) _ (HS.out i hlt) (HKid.out.later HB2.out)).mono ?_; rintro e w3 ⟨a', rfl, hfr, hb3⟩; have HF3 := jhid9 hfr; have HB3 := jhid9 (jtwo HB2.out hb3); have HVg3 := jhid9 (HVg2.out.later hb3); have HA3 : Hid (Ag (w.heap.size + 1) w2 w3) := Ag.of hb3; clear hb3 hfr)
        | (clear M3; refine wpList_store_spl rfl 28 _ _ rfl w.heap.size (i * 6) 28 cs #[.int .u8 ((F i []).k : Int), .int .i64 (F i []).n, .string (F i []).nm, .slice a' (F i []).len (F i []).len, .int .i64 0, .int .i64 0] (by first | rfl | simp) rfl sizeX (all6 rfl rfl rfl rfl rfl rfl) HVg3.out (by rw [HC.out]; show i * 6 + 6 ≤ n * 6; omega) ?_; intro w4 HV4 HA4 HB4))
      refine ⟨⟨i + 1, _, by omega, by go_num, HV4, (spl_size _ _ _).trans HC.out, fun j hj => ?_, jtwo2 HB3.out (HB4.out _ (Nat.le_refl _))⟩, by simp [intOf]; omega⟩
      by_cases hji : j < i
      · obtain ⟨ys, h1, h2, h3⟩ := HD.out j hji
        refine ⟨ys, h1, fun q x hx => ?_, ((h3.step HA2.out).step HA3.out).step (HA4.out _ (by omega))⟩
        have hq : q < ys.length := (List.getElem?_eq_some_iff.1 hx).1
        rw [spl_out _ _ _ _ (by left; omega)]
        exact h2 q x hx
      · obtain rfl : j = i := by omega
        refine ⟨_, rfl, fun q x hx => spl_in _ _ _ _ _ hx (by rw [HC.out]; show j * 6 + 6 ≤ n * 6; omega), fun u hu => ?_⟩
        have hxn := (((HF3.out.weak (s := w.heap.size + 1) (by omega)).step (HA4.out _ (by omega))) u hu).1
        exact ⟨⟨a', _, rfl, hxn⟩, lx_st HKid.out.ok⟩
    · obtain rfl : i = n := by omega
      go_wp2
      go_ret
      refine ⟨some ⟨w.heap.size, 0, none⟩, rfl, fun u hu => ?_, HB.out⟩
      refine xn_of (HV.out.keptA hu (Nat.le_refl _)) (Nat.le_refl _) HC.out (fun j hj => ?_)
      obtain ⟨ys, h1, h2, h3⟩ := HD.out j hj
      exact ⟨ys, h1, h2, h3 u (hu.mono (by omega))⟩
set_option maxRecDepth 20000 in
set_option maxHeartbeats 4000000 in
theorem tstripxs (d : Nat) (IH : ∀ (w : World) (T : Xt) (v : Value), SmX d T → XV w v T → Calls Tryd.prog 70 #[v] w fun e w' => ∃ a', e = .returned (.agg #[.int .u8 ((T []).k : Int), .int .i64 (T []).n, .string (T []).nm, .slice a' (T []).len (T []).len, .int .i64 0, .int .i64 0]) ∧ Fr w.heap.size w' (fun u => XN w.heap.size u a' (T []).len (kid (xst T))) ∧ Below w.heap.size w w')
    (w : World) (a : Option Addr) (n c : Nat) (F : Nat → Xt) (hX : ∀ d, XL d w a n F) (hs : ∀ i, i < n → SmX d (F i)) (hn : n ≤ 64) :
    Calls Tryd.prog 72 #[.slice a n c] w fun e w' => ∃ a', e = .returned (.slice a' n n) ∧ Fr w.heap.size w' (fun u => XN w.heap.size u a' n (fun i => xst (F i))) ∧ Below w.heap.size w w' := by
  have HE := jhid9 (teach_x d IH w a n c F hX hs hn)
  clear IH hX hs
  go_enter Tryd.func72, Tryd.ntmps72
  go_wp2_with (go_at_call 93; refine HE.out.mono ?_; rintro e w2 ⟨a', rfl, hfr, hb⟩; have HF := jhid9 hfr; have HB := jhid9 hb; clear hfr hb)
  go_ret
  exact ⟨a', rfl, HF.out, HB.out⟩
set_option maxRecDepth 20000 in
set_option maxHeartbeats 8000000 in
theorem tstripx : ∀ (d : Nat) (w : World) (T : Xt) (v : Value), SmX d T → XV w v T → Calls Tryd.prog 70 #[v] w fun e w' => ∃ a', e = .returned (.agg #[.int .u8 ((T []).k : Int), .int .i64 (T []).n, .string (T []).nm, .slice a' (T []).len (T []).len, .int .i64 0, .int .i64 0]) ∧ Fr w.heap.size w' (fun u => XN w.heap.size u a' (T []).len (kid (xst T))) ∧ Below w.heap.size w w' := by
  intro d
  induction d with
  | zero => intro w T v h; exact h.elim
  | succ d ih =>
    intro w T v hs hX
    obtain ⟨⟨a, cap, rfl, hXl⟩, hok⟩ := hX
    have HC : Hid (∀ w' : World, Below w.heap.size w w' → Calls Tryd.prog 72 #[.slice a (T []).len cap] w' fun e w'' => ∃ a', e = .returned (.slice a' (T []).len (T []).len) ∧ Fr w'.heap.size w'' (fun u => XN w'.heap.size u a' (T []).len (kid (xst T))) ∧ Below w'.heap.size w' w'') := fun w' hb => tstripxs d ih w' a _ cap (kid T) (fun d => (hXl d).later hb) hs.2 hs.1
    clear ih hXl hs hok
    generalize kid (xst T) = G at *
    generalize T [] = l at *
    obtain ⟨k, n, nm, len, ln, cl⟩ := l
    have HX := jhid9 (Vn.new w 28 #[.int .u8 (k : Int), .int .i64 n, .string nm, .slice a len cap, .int .i64 ln, .int .i64 cl])
    have HX2 := jhid9 (HX.out.later (jlow _ (.cells #[.int .u8 0, .int .i64 0, .string ⟨#[]⟩, .slice none 0 0, .int .i64 0, .int .i64 0] 28)))
    have HR0 := jhid9 (Vn.new (w.alloc (.cells #[.int .u8 (k : Int), .int .i64 n, .string nm, .slice a len cap, .int .i64 ln, .int .i64 cl] 28)) 28 #[.int .u8 0, .int .i64 0, .string ⟨#[]⟩, .slice none 0 0, .int .i64 0, .int .i64 0])
    have HB0 := jhid9 (jtwo (jlow w (.cells #[.int .u8 (k : Int), .int .i64 n, .string nm, .slice a len cap, .int .i64 ln, .int .i64 cl] 28)) (jlow _ (.cells #[.int .u8 0, .int .i64 0, .string ⟨#[]⟩, .slice none 0 0, .int .i64 0, .int .i64 0] 28)))
    rw [alloc_size] at HR0
    have c3 := HX2.out.cell 3 _ rfl
    clear HX
    have M1 : True := trivial
    have M2 : True := trivial
    have M3 : True := trivial
    have M4 : True := trivial
    go_enter Tryd.func70, Tryd.ntmps70
    go_wp2_with (first
      | (go_at_call 72; refine (HC.out _ HB0.out).mono ?_; rintro e w1 ⟨a', rfl, hfr, hb⟩; have HF1 := jhid9 hfr; have HB1 := jhid9 (jtwo HB0.out hb); have HV1 := jhid9 (HX2.out.later hb); have HR1 := jhid9 (HR0.out.later hb); have hs1 := hb.size; clear hfr hb)
      | (clear M1; refine wpList_store_one rfl 26 _ _ rfl w.heap.size 3 28 _ (.slice a' len len) rfl rfl sizeL1 rfl rfl HV1.out (by show 3 < 6; omega) ?_; intro w2 HV2 hg2; replace HV2 : Hid (Vn w2 w.heap.size 28 #[.int .u8 (k : Int), .int .i64 n, .string nm, .slice a' len len, .int .i64 ln, .int .i64 cl]) := HV2; have HR2 := jhid9 (HR1.out.kept hg2.out (by simp)))
      | (clear M2; refine wpList_store_one rfl 3 _ _ rfl w.heap.size 4 28 _ (.int .i64 0) rfl rfl sizeI1 rfl rfl HV2.out (by show 4 < 6; omega) ?_; intro w3 HV3 hg3; replace HV3 : Hid (Vn w3 w.heap.size 28 #[.int .u8 (k : Int), .int .i64 n, .string nm, .slice a' len len, .int .i64 0, .int .i64 cl]) := HV3; have HR3 := jhid9 (HR2.out.kept hg3.out (by simp)))
      | (clear M3; refine wpList_store_one rfl 3 _ _ rfl w.heap.size 5 28 _ (.int .i64 0) rfl rfl sizeI1 rfl rfl HV3.out (by show 5 < 6; omega) ?_; intro w4 HV4 hg4; replace HV4 : Hid (Vn w4 w.heap.size 28 #[.int .u8 (k : Int), .int .i64 n, .string nm, .slice a' len len, .int .i64 0, .int .i64 0]) := HV4; have HR4 := jhid9 (HR3.out.kept hg4.out (by simp)); have m0 := HV4.out.cell 0 _ rfl; have m1 := HV4.out.cell 1 _ rfl; have m2 := HV4.out.cell 2 _ rfl; have m3 := HV4.out.cell 3 _ rfl; have m4 := HV4.out.cell 4 _ rfl; have m5 := HV4.out.cell 5 _ rfl)
      | (clear M4; refine wpList_store_vn rfl 28 _ _ rfl (w.heap.size + 1) _ #[.int .u8 (k : Int), .int .i64 n, .string nm, .slice a' len len, .int .i64 0, .int .i64 0] rfl rfl HR4.out sizeX rfl (all6 rfl rfl rfl rfl rfl rfl) ?_; intro w8 HV8 hg8))
    have d0 := HV8.out.cell 0 _ rfl
    have d1 := HV8.out.cell 1 _ rfl
    have d2 := HV8.out.cell 2 _ rfl
    have d3 := HV8.out.cell 3 _ rfl
    have d4 := HV8.out.cell 4 _ rfl
    have d5 := HV8.out.cell 5 _ rfl
    refine bodyPost_ret (v := .agg #[.int .u8 (k : Int), .int .i64 n, .string nm, .slice a' len len, .int .i64 0, .int .i64 0]) (by simp [results, Tryd.results70, go_sem, d0, d1, d2, d3, d4, d5]) rfl ?_
    have hA : Ag (w.heap.size + 2) w1 w8 := ((ag_grown hg2.out (by omega)).trans ((ag_grown hg3.out (by omega)).trans ((ag_grown hg4.out (by omega)).trans (ag_grown hg8.out (by omega)))))
    have hz : (w.alloc (.cells #[.int .u8 (k : Int), .int .i64 n, .string nm, .slice a len cap, .int .i64 ln, .int .i64 cl] 28)).heap.size + 1 = w.heap.size + 2 := by rw [alloc_size]
    rw [alloc_size, alloc_size] at HF1
    refine ⟨a', rfl, fun u hu => ?_, ?_⟩
    · have hxn := (HF1.out.step hA) u (hu.mono (by omega))
      exact ⟨hxn.1, hxn.2.weak (by omega)⟩
    · exact HB1.out.trans (((jbelow hg2.out (Nat.le_trans HB1.out.size (Nat.le_refl _)) (fun g e => by cases e; omega))).trans ((jbelow hg3.out (by have := hg2.out.size; have := HB1.out.size; omega) (fun g e => by cases e; omega)).trans ((jbelow hg4.out (by have := hg2.out.size; have := hg3.out.size; have := HB1.out.size; omega) (fun g e => by cases e; omega)).trans (jbelow hg8.out (by have := hg2.out.size; have := hg3.out.size; have := hg4.out.size; have := HB1.out.size; omega) (fun g e => by cases e; omega)))))
end Go.Proofs.YtdimkfcanegahaaDoor
