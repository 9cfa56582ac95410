/-
  Stage 12: withParts: an expression with a list of its own of what is made of its parts.
-/
import Derived.Test.YtgmndjbicandfaaDoorQnnes00
import Derived.Test.YtgmndjbicandfaaDoorQnnes25
import Derived.Test.YtgmndjbicandfaaDoorQnnes22
set_option maxRecDepth 100000
set_option maxHeartbeats 16000000
namespace Go.Proofs.YtgmndjbicandfaaDoor
open Go.RowKit
theorem qca : (Tryd.prog.info? 25).map (fun i => (i.zero, i.size, i.bytes)) = some (some (.agg #[.int .u8 0, .int .i64 0, .string ⟨#[]⟩, .slice none 0 0, .int .i64 0, .int .i64 0]), 6, 72) := by kernel_rfl
theorem qbw : (Tryd.prog.info? 23).map (·.size) = some 1 := by kernel_rfl
theorem own_ne (v : Value) : v.ownBlock = none ∨ v.ownBlock ≠ none := by cases v.ownBlock <;> simp
theorem StX.put {s t t1 g : Nat} {w w' : World} {v : Value} {T : Xt} (h : StX s t1 w v T) (hg : w.grownBy w' (some g)) (h1 : s ≤ g) (h2 : g < t1) (ht : t ≤ t1) : StX s t w' v T := fun u hu => h u (fun b hb hr => by
 rw [hu b (Nat.lt_of_lt_of_le hb hg.size) (hr.imp id (fun q => by omega)), hg.block b hb (fun e => by cases e; omega)])
theorem with_A (w0 w : World) (s0 : Nat) (hs0 : s0 ≤ w.heap.size) (k len cap : Nat) (n ln cl : Int) (nm : ByteArray) (a : Option Addr) (T : Xt) (F : Nat → Xt) (bn by_ : Nat) (hl : len ≤ 2) (hXl : ∀ d, XL d w0 a len (kid T)) (hb0 : Below w0.heap.size w0 w)
  (hC : ∀ i, i < len → ∀ (w1 : World) (v1 : Value), XV w0 v1 (kid T i) → Below w.heap.size w w1 → Calls Tryd.prog 48 #[v1, .pointer (some ⟨bn, 0, none⟩), .pointer (some ⟨by_, 0, none⟩)] w1 fun e w2 => (∃ v', e = .returned v' ∧ StX s0 w1.heap.size w2 v' (F i)) ∧ Below w1.heap.size w1 w2) :
  Calls Tryd.prog 47 #[.agg #[.int .u8 (k : Int), .int .i64 n, .string nm, .slice a len cap, .int .i64 ln, .int .i64 cl], .func (.func 48) #[] #[.pointer (some ⟨bn, 0, none⟩), .pointer (some ⟨by_, 0, none⟩)]] w fun e w' => (∃ (a2 : Option Addr) (cap2 : Nat), e = .returned (.agg #[.int .u8 (k : Int), .int .i64 n, .string nm, .slice a2 len cap2, .int .i64 ln, .int .i64 cl]) ∧ ∀ u, AgT s0 w.heap.size w' u → ∀ d, XL d u a2 len F) ∧ Below w.heap.size w w' := by
 have HXl := qa0 hXl
 have HCa := qa0 hC
 have HB0 := qa0 hb0
 clear hXl hC hb0
 obtain ⟨i0, hi0, hz0, hz1, hz2⟩ := info_parts qca
 have HX := qa0 (Vn.new w 25 #[.int .u8 (k : Int), .int .i64 n, .string nm, .slice a len cap, .int .i64 ln, .int .i64 cl])
 have HX2 := qa0 (HX.out.later (jlow _ (.cells #[.int .u8 0, .int .i64 0, .string ⟨#[]⟩, .slice none 0 0, .int .i64 0, .int .i64 0] 25)))
 have HVt := qa0 (Vn.new (w.alloc (.cells #[.int .u8 (k : Int), .int .i64 n, .string nm, .slice a len cap, .int .i64 ln, .int .i64 cl] 25)) 25 #[.int .u8 0, .int .i64 0, .string ⟨#[]⟩, .slice none 0 0, .int .i64 0, .int .i64 0])
 have HB := qa0 (jtwo (jlow w (.cells #[.int .u8 (k : Int), .int .i64 n, .string nm, .slice a len cap, .int .i64 ln, .int .i64 cl] 25)) (jlow _ (.cells #[.int .u8 0, .int .i64 0, .string ⟨#[]⟩, .slice none 0 0, .int .i64 0, .int .i64 0] 25)))
 rw [qa2] at HVt
 have c3 := HX2.out.cell 3 _ rfl
 clear HX
 go_enter Tryd.func47, Tryd.ntmps47
 go_wp2
 go_loopw [5, 11] (fun vp vi wr => ∃ (i : Nat) (cs : List Value), i ≤ len ∧ vi = .int .i64 (i : Int) ∧ Hid (wr.ownsRow (w.heap.size + 2) 25 6 vp i cs) ∧ Hid (∀ j, j < i → StC s0 (w.heap.size + 2) vp.ownBlock wr (seg6 cs j) (F j)) ∧ Hid (Vn wr w.heap.size 25 #[.int .u8 (k : Int), .int .i64 n, .string nm, .slice a len cap, .int .i64 ln, .int .i64 cl]) ∧ Hid (Vn wr (w.heap.size + 1) 25 #[.int .u8 0, .int .i64 0, .string ⟨#[]⟩, .slice none 0 0, .int .i64 0, .int .i64 0]) ∧ Below w.heap.size w wr) (fun _ vi _ => len - (intOf vi).toNat)
 case atStart => exact ⟨0, [], by omega, rfl, World.ownsRow_nil _ _ _ _, fun j hj => by omega, HX2, HVt, HB.out⟩
 case round =>
  obtain ⟨i, cs, hi, rfl, HO, HS, HX, HV, hb⟩ := hrel
  clear HX2 HVt HB c3
  have HB := qa0 hb
  have hsz1 := HV.out.lt
  by_cases hlt : i < len
  ·have p0 : (0 : Int) ≤ (i : Int) := by omega
   have p1 : (i : Int) < (len : Int) := by omega
   obtain ⟨bk, okk, kk, nl, nn, ll, cc, nx, ka, kc, rfl, hkid, hcl⟩ := XL.at_ HXl.out (i := i) hlt
   obtain ⟨k0, k1, k2, k3, k4, k5⟩ := hcl _ (jtwo HB0.out hb)
   have HC : Hid (∀ w1 : World, Below w.heap.size w w1 → Calls Tryd.prog 48 #[.agg #[.int .u8 (kk : Int), .int .i64 nn, .string nx, .slice ka nl kc, .int .i64 ll, .int .i64 cc], .pointer (some ⟨bn, 0, none⟩), .pointer (some ⟨by_, 0, none⟩)] w1 fun e w2 => (∃ v', e = .returned v' ∧ StX s0 w1.heap.size w2 v' (F i)) ∧ Below w1.heap.size w1 w2) := fun w1 hb1 => HCa.out i hlt w1 _ hkid hb1
   clear hcl hkid hb
   have M1 : True := trivial
   go_wp2_with (first
    | (clear M1; refine qa1 rfl 25 _ _ rfl wr.heap.size _ #[.int .u8 (kk : Int), .int .i64 nn, .string nx, .slice ka nl kc, .int .i64 ll, .int .i64 cc] rfl rfl (Vn.new wr _ _) sizeX rfl (all6 rfl rfl rfl rfl rfl rfl) ?_; intro w1 HV1 hg1; have hb1 : Below wr.heap.size wr w1 := (jlow _ _).trans (jbelow hg1.out (jlow _ _).size (fun g e => by cases e; exact Nat.le_refl _)); have HL1 := qa0 hb1; have HB1 := qa0 (jtwo HB.out hb1); have m0 := HV1.out.cell 0 _ rfl; have m1 := HV1.out.cell 1 _ rfl; have m2 := HV1.out.cell 2 _ rfl; have m3 := HV1.out.cell 3 _ rfl; have m4 := HV1.out.cell 4 _ rfl; have m5 := HV1.out.cell 5 _ rfl; clear hg1 hb1)
    | (go_at_call 48; refine (HC.out _ HB1.out).mono ?_; rintro e w2 ⟨⟨v', rfl, hst⟩, hb2⟩; obtain ⟨⟨ra, rcap, rfl, _⟩, _⟩ := hst.now; have HST := qa0 hst; have HL2 := qa0 (jtwo HL1.out hb2); have HB2 := qa0 (jtwo HB1.out hb2); have HLa := qa0 hb2; clear hst hb2)
    | (at_builtin; refine wpList_append_own_at _ rfl _ _ 23 rfl (w.heap.size + 2) 25 i0 (.agg #[.int .u8 0, .int .i64 0, .string ⟨#[]⟩, .slice none 0 0, .int .i64 0, .int .i64 0]) 6 72 Tryd.underlying23 hi0 hz0 hz1 hz2 rfl (by decide) _ i cs rfl ((HO.out.kept (jgrown.mpr HL2.out) (own_ne _)).alloc _) ⟨w2.heap.size, 0, none⟩ 1 1 [.int .u8 ((F i []).k : Int), .int .i64 (F i []).n, .string (F i []).nm, .slice ra (F i []).len rcap, .int .i64 (F i []).ln, .int .i64 (F i []).cl] rfl rfl (qam _ _ _) (qbv rfl rfl rfl rfl rfl rfl) (by unfold maxLen; omega) (by omega) (by have := HL2.out.size; rw [qa2]; omega) ?_; intro v3 w3 hO3 hg3 _ hl3))
   have hbase := HO.out.lt
   have hLs := HL1.out.size
   have hLs2 := HL2.out.size
   have hne : ∀ g : Nat, g < w.heap.size + 2 → some g ≠ Value.ownBlock _ := fun g hg e => by have := (hbase g e.symm).1; omega
   have HL3 := qa0 (jtwo HL2.out (jlow w2 (.cells (List.toArray [.int .u8 ((F i []).k : Int), .int .i64 (F i []).n, .string (F i []).nm, .slice ra (F i []).len rcap, .int .i64 (F i []).ln, .int .i64 (F i []).cl]) 25)))
   have HX4 := qa0 ((HX.out.later HL3.out).kept12 hg3 (hne _ (by omega)))
   have HV4 := qa0 ((HV.out.later HL3.out).kept12 hg3 (hne _ (by omega)))
   have HO3 := qa0 hO3
   refine ⟨⟨i + 1, _, by omega, by go_num, HO3, fun j hj => ?_, HX4, HV4, (jtwo HB2.out (jlow w2 (.cells (List.toArray [.int .u8 ((F i []).k : Int), .int .i64 (F i []).n, .string (F i []).nm, .slice ra (F i []).len rcap, .int .i64 (F i []).ln, .int .i64 (F i []).cl]) 25))).trans (jbelow hg3 (jtwo HB2.out (jlow w2 (.cells (List.toArray [.int .u8 ((F i []).k : Int), .int .i64 (F i []).n, .string (F i []).nm, .slice ra (F i []).len rcap, .int .i64 (F i []).ln, .int .i64 (F i []).cl]) 25))).size (fun g e => by have := (hbase g e).1; omega))⟩, by simp [intOf]; omega⟩
   by_cases e : j = i
   ·subst e
    rw [qba HO.out.1 rfl]
    exact ((HST.out.later (jlow w2 (.cells (List.toArray [.int .u8 ((F j []).k : Int), .int .i64 (F j []).n, .string (F j []).nm, .slice ra (F j []).len rcap, .int .i64 (F j []).ln, .int .i64 (F j []).cl]) 25))).cells (cs := List.toArray [.int .u8 ((F j []).k : Int), .int .i64 (F j []).n, .string (F j []).nm, .slice ra (F j []).len rcap, .int .i64 (F j []).ln, .int .i64 (F j []).cl]) (t := w.heap.size + 2) (by omega) (fun x hx => by have := hbase x hx; omega)).app hg3 hl3
   ·rw [qb9 HO.out.1 (by omega)]
    exact ((HS.out j (by omega)).later HL3.out).app hg3 hl3
  ·obtain rfl : len = i := by omega
   clear hb HCa HXl
   obtain ⟨a2, cap2, rfl, hread⟩ := qb1 HO.out (t := w.heap.size + 2) (Nat.le_refl _) HS.out
   have HR := qa0 hread
   clear hread HO HS
   have M1 : True := trivial
   go_wp2_with (first
    | (clear M1; refine wpList_store_one rfl 23 _ _ rfl w.heap.size 3 25 _ (.slice a2 len cap2) rfl rfl qbw rfl rfl HX.out (by show 3 < 6; omega) ?_; intro w5 HX5 hg5; have HX6 : Hid (Vn w5 w.heap.size 25 #[.int .u8 (k : Int), .int .i64 n, .string nm, .slice a2 len cap2, .int .i64 ln, .int .i64 cl]) := HX5; have HV5 := qa0 (HV.out.kept12 hg5.out (by simp)); have y0 := HX6.out.cell 0 _ rfl; have y1 := HX6.out.cell 1 _ rfl; have y2 := HX6.out.cell 2 _ rfl; have y3 := HX6.out.cell 3 _ rfl; have y4 := HX6.out.cell 4 _ rfl; have y5 := HX6.out.cell 5 _ rfl; clear HX5)
    | (refine qa1 rfl 25 _ _ rfl (w.heap.size + 1) _ #[.int .u8 (k : Int), .int .i64 n, .string nm, .slice a2 len cap2, .int .i64 ln, .int .i64 cl] rfl rfl HV5.out sizeX rfl (all6 rfl rfl rfl rfl rfl rfl) ?_; intro w8 HV8 hg8))
   have d0 := HV8.out.cell 0 _ rfl
   have d1 := HV8.out.cell 1 _ rfl
   have d2 := HV8.out.cell 2 _ rfl
   have d3 := HV8.out.cell 3 _ rfl
   have d4 := HV8.out.cell 4 _ rfl
   have d5 := HV8.out.cell 5 _ rfl
   have z5 := hg5.out.size
   refine bodyPost_ret (v := .agg #[.int .u8 (k : Int), .int .i64 n, .string nm, .slice a2 len cap2, .int .i64 ln, .int .i64 cl]) (by simp [results, Tryd.results47, go_sem, d0, d1, d2, d3, d4, d5]) rfl ?_
   refine ⟨⟨a2, cap2, rfl, fun u hu d => HR.out u (fun b hb hr => ?_) d⟩, (HB.out.trans (jbelow hg5.out HB.out.size (fun g e => by cases e; omega))).trans (jbelow hg8.out (by omega) (fun g e => by cases e; omega))⟩
   rw [hu b (by have := hg8.out.size; omega) (hr.imp id (fun q => by omega)), hg8.out.block b (by omega) (fun e => by cases e; omega), hg5.out.block b hb (fun e => by cases e; omega)]
theorem with_B (w0 w : World) (s0 : Nat) (hs0 : s0 ≤ w.heap.size) (k len cap : Nat) (n ln cl : Int) (nm : ByteArray) (a : Option Addr) (T : Xt) (F : Nat → Xt) (hl : len ≤ 2) (hXl : ∀ d, XL d w0 a len (kid T)) (hb0 : Below w0.heap.size w0 w)
  (hC : ∀ i, i < len → ∀ (w1 : World) (v1 : Value), XV w0 v1 (kid T i) → Below w.heap.size w w1 → Calls Tryd.prog 32 #[v1] w1 fun e w2 => (∃ v', e = .returned v' ∧ StX s0 w1.heap.size w2 v' (F i)) ∧ Below w1.heap.size w1 w2) :
  Calls Tryd.prog 47 #[.agg #[.int .u8 (k : Int), .int .i64 n, .string nm, .slice a len cap, .int .i64 ln, .int .i64 cl], .func (.func 32) #[] #[]] w fun e w' => (∃ (a2 : Option Addr) (cap2 : Nat), e = .returned (.agg #[.int .u8 (k : Int), .int .i64 n, .string nm, .slice a2 len cap2, .int .i64 ln, .int .i64 cl]) ∧ ∀ u, AgT s0 w.heap.size w' u → ∀ d, XL d u a2 len F) ∧ Below w.heap.size w w' := by
 have HXl := qa0 hXl
 have HCa := qa0 hC
 have HB0 := qa0 hb0
 clear hXl hC hb0
 obtain ⟨i0, hi0, hz0, hz1, hz2⟩ := info_parts qca
 have HX := qa0 (Vn.new w 25 #[.int .u8 (k : Int), .int .i64 n, .string nm, .slice a len cap, .int .i64 ln, .int .i64 cl])
 have HX2 := qa0 (HX.out.later (jlow _ (.cells #[.int .u8 0, .int .i64 0, .string ⟨#[]⟩, .slice none 0 0, .int .i64 0, .int .i64 0] 25)))
 have HVt := qa0 (Vn.new (w.alloc (.cells #[.int .u8 (k : Int), .int .i64 n, .string nm, .slice a len cap, .int .i64 ln, .int .i64 cl] 25)) 25 #[.int .u8 0, .int .i64 0, .string ⟨#[]⟩, .slice none 0 0, .int .i64 0, .int .i64 0])
 have HB := qa0 (jtwo (jlow w (.cells #[.int .u8 (k : Int), .int .i64 n, .string nm, .slice a len cap, .int .i64 ln, .int .i64 cl] 25)) (jlow _ (.cells #[.int .u8 0, .int .i64 0, .string ⟨#[]⟩, .slice none 0 0, .int .i64 0, .int .i64 0] 25)))
 rw [qa2] at HVt
 have c3 := HX2.out.cell 3 _ rfl
 clear HX
 go_enter Tryd.func47, Tryd.ntmps47
 go_wp2
 go_loopw [5, 11] (fun vp vi wr => ∃ (i : Nat) (cs : List Value), i ≤ len ∧ vi = .int .i64 (i : Int) ∧ Hid (wr.ownsRow (w.heap.size + 2) 25 6 vp i cs) ∧ Hid (∀ j, j < i → StC s0 (w.heap.size + 2) vp.ownBlock wr (seg6 cs j) (F j)) ∧ Hid (Vn wr w.heap.size 25 #[.int .u8 (k : Int), .int .i64 n, .string nm, .slice a len cap, .int .i64 ln, .int .i64 cl]) ∧ Hid (Vn wr (w.heap.size + 1) 25 #[.int .u8 0, .int .i64 0, .string ⟨#[]⟩, .slice none 0 0, .int .i64 0, .int .i64 0]) ∧ Below w.heap.size w wr) (fun _ vi _ => len - (intOf vi).toNat)
 case atStart => exact ⟨0, [], by omega, rfl, World.ownsRow_nil _ _ _ _, fun j hj => by omega, HX2, HVt, HB.out⟩
 case round =>
  obtain ⟨i, cs, hi, rfl, HO, HS, HX, HV, hb⟩ := hrel
  clear HX2 HVt HB c3
  have HB := qa0 hb
  have hsz1 := HV.out.lt
  by_cases hlt : i < len
  ·have p0 : (0 : Int) ≤ (i : Int) := by omega
   have p1 : (i : Int) < (len : Int) := by omega
   obtain ⟨bk, okk, kk, nl, nn, ll, cc, nx, ka, kc, rfl, hkid, hcl⟩ := XL.at_ HXl.out (i := i) hlt
   obtain ⟨k0, k1, k2, k3, k4, k5⟩ := hcl _ (jtwo HB0.out hb)
   have HC : Hid (∀ w1 : World, Below w.heap.size w w1 → Calls Tryd.prog 32 #[.agg #[.int .u8 (kk : Int), .int .i64 nn, .string nx, .slice ka nl kc, .int .i64 ll, .int .i64 cc]] w1 fun e w2 => (∃ v', e = .returned v' ∧ StX s0 w1.heap.size w2 v' (F i)) ∧ Below w1.heap.size w1 w2) := fun w1 hb1 => HCa.out i hlt w1 _ hkid hb1
   clear hcl hkid hb
   have M1 : True := trivial
   go_wp2_with (first
    | (clear M1; refine qa1 rfl 25 _ _ rfl wr.heap.size _ #[.int .u8 (kk : Int), .int .i64 nn, .string nx, .slice ka nl kc, .int .i64 ll, .int .i64 cc] rfl rfl (Vn.new wr _ _) sizeX rfl (all6 rfl rfl rfl rfl rfl rfl) ?_; intro w1 HV1 hg1; have hb1 : Below wr.heap.size wr w1 := (jlow _ _).trans (jbelow hg1.out (jlow _ _).size (fun g e => by cases e; exact Nat.le_refl _)); have HL1 := qa0 hb1; have HB1 := qa0 (jtwo HB.out hb1); have m0 := HV1.out.cell 0 _ rfl; have m1 := HV1.out.cell 1 _ rfl; have m2 := HV1.out.cell 2 _ rfl; have m3 := HV1.out.cell 3 _ rfl; have m4 := HV1.out.cell 4 _ rfl; have m5 := HV1.out.cell 5 _ rfl; clear hg1 hb1)
    | (go_at_call 32; refine (HC.out _ HB1.out).mono ?_; rintro e w2 ⟨⟨v', rfl, hst⟩, hb2⟩; obtain ⟨⟨ra, rcap, rfl, _⟩, _⟩ := hst.now; have HST := qa0 hst; have HL2 := qa0 (jtwo HL1.out hb2); have HB2 := qa0 (jtwo HB1.out hb2); have HLa := qa0 hb2; clear hst hb2)
    | (at_builtin; refine wpList_append_own_at _ rfl _ _ 23 rfl (w.heap.size + 2) 25 i0 (.agg #[.int .u8 0, .int .i64 0, .string ⟨#[]⟩, .slice none 0 0, .int .i64 0, .int .i64 0]) 6 72 Tryd.underlying23 hi0 hz0 hz1 hz2 rfl (by decide) _ i cs rfl ((HO.out.kept (jgrown.mpr HL2.out) (own_ne _)).alloc _) ⟨w2.heap.size, 0, none⟩ 1 1 [.int .u8 ((F i []).k : Int), .int .i64 (F i []).n, .string (F i []).nm, .slice ra (F i []).len rcap, .int .i64 (F i []).ln, .int .i64 (F i []).cl] rfl rfl (qam _ _ _) (qbv rfl rfl rfl rfl rfl rfl) (by unfold maxLen; omega) (by omega) (by have := HL2.out.size; rw [qa2]; omega) ?_; intro v3 w3 hO3 hg3 _ hl3))
   have hbase := HO.out.lt
   have hLs := HL1.out.size
   have hLs2 := HL2.out.size
   have hne : ∀ g : Nat, g < w.heap.size + 2 → some g ≠ Value.ownBlock _ := fun g hg e => by have := (hbase g e.symm).1; omega
   have HL3 := qa0 (jtwo HL2.out (jlow w2 (.cells (List.toArray [.int .u8 ((F i []).k : Int), .int .i64 (F i []).n, .string (F i []).nm, .slice ra (F i []).len rcap, .int .i64 (F i []).ln, .int .i64 (F i []).cl]) 25)))
   have HX4 := qa0 ((HX.out.later HL3.out).kept12 hg3 (hne _ (by omega)))
   have HV4 := qa0 ((HV.out.later HL3.out).kept12 hg3 (hne _ (by omega)))
   have HO3 := qa0 hO3
   refine ⟨⟨i + 1, _, by omega, by go_num, HO3, fun j hj => ?_, HX4, HV4, (jtwo HB2.out (jlow w2 (.cells (List.toArray [.int .u8 ((F i []).k : Int), .int .i64 (F i []).n, .string (F i []).nm, .slice ra (F i []).len rcap, .int .i64 (F i []).ln, .int .i64 (F i []).cl]) 25))).trans (jbelow hg3 (jtwo HB2.out (jlow w2 (.cells (List.toArray [.int .u8 ((F i []).k : Int), .int .i64 (F i []).n, .string (F i []).nm, .slice ra (F i []).len rcap, .int .i64 (F i []).ln, .int .i64 (F i []).cl]) 25))).size (fun g e => by have := (hbase g e).1; omega))⟩, by simp [intOf]; omega⟩
   by_cases e : j = i
   ·subst e
    rw [qba HO.out.1 rfl]
    exact ((HST.out.later (jlow w2 (.cells (List.toArray [.int .u8 ((F j []).k : Int), .int .i64 (F j []).n, .string (F j []).nm, .slice ra (F j []).len rcap, .int .i64 (F j []).ln, .int .i64 (F j []).cl]) 25))).cells (cs := List.toArray [.int .u8 ((F j []).k : Int), .int .i64 (F j []).n, .string (F j []).nm, .slice ra (F j []).len rcap, .int .i64 (F j []).ln, .int .i64 (F j []).cl]) (t := w.heap.size + 2) (by omega) (fun x hx => by have := hbase x hx; omega)).app hg3 hl3
   ·rw [qb9 HO.out.1 (by omega)]
    exact ((HS.out j (by omega)).later HL3.out).app hg3 hl3
  ·obtain rfl : len = i := by omega
   clear hb HCa HXl
   obtain ⟨a2, cap2, rfl, hread⟩ := qb1 HO.out (t := w.heap.size + 2) (Nat.le_refl _) HS.out
   have HR := qa0 hread
   clear hread HO HS
   have M1 : True := trivial
   go_wp2_with (first
    | (clear M1; refine wpList_store_one rfl 23 _ _ rfl w.heap.size 3 25 _ (.slice a2 len cap2) rfl rfl qbw rfl rfl HX.out (by show 3 < 6; omega) ?_; intro w5 HX5 hg5; have HX6 : Hid (Vn w5 w.heap.size 25 #[.int .u8 (k : Int), .int .i64 n, .string nm, .slice a2 len cap2, .int .i64 ln, .int .i64 cl]) := HX5; have HV5 := qa0 (HV.out.kept12 hg5.out (by simp)); have y0 := HX6.out.cell 0 _ rfl; have y1 := HX6.out.cell 1 _ rfl; have y2 := HX6.out.cell 2 _ rfl; have y3 := HX6.out.cell 3 _ rfl; have y4 := HX6.out.cell 4 _ rfl; have y5 := HX6.out.cell 5 _ rfl; clear HX5)
    | (refine qa1 rfl 25 _ _ rfl (w.heap.size + 1) _ #[.int .u8 (k : Int), .int .i64 n, .string nm, .slice a2 len cap2, .int .i64 ln, .int .i64 cl] rfl rfl HV5.out sizeX rfl (all6 rfl rfl rfl rfl rfl rfl) ?_; intro w8 HV8 hg8))
   have d0 := HV8.out.cell 0 _ rfl
   have d1 := HV8.out.cell 1 _ rfl
   have d2 := HV8.out.cell 2 _ rfl
   have d3 := HV8.out.cell 3 _ rfl
   have d4 := HV8.out.cell 4 _ rfl
   have d5 := HV8.out.cell 5 _ rfl
   have z5 := hg5.out.size
   refine bodyPost_ret (v := .agg #[.int .u8 (k : Int), .int .i64 n, .string nm, .slice a2 len cap2, .int .i64 ln, .int .i64 cl]) (by simp [results, Tryd.results47, go_sem, d0, d1, d2, d3, d4, d5]) rfl ?_
   refine ⟨⟨a2, cap2, rfl, fun u hu d => HR.out u (fun b hb hr => ?_) d⟩, (HB.out.trans (jbelow hg5.out HB.out.size (fun g e => by cases e; omega))).trans (jbelow hg8.out (by omega) (fun g e => by cases e; omega))⟩
   rw [hu b (by have := hg8.out.size; omega) (hr.imp id (fun q => by omega)), hg8.out.block b (by omega) (fun e => by cases e; omega), hg5.out.block b hb (fun e => by cases e; omega)]
end Go.Proofs.YtgmndjbicandfaaDoor
