/-
  Stage 12: replaced, copied.
-/
import Derived.Test.YtgmndjbicandfaaDoorQnnes00
import Derived.Test.YtgmndjbicandfaaDoorQnnes26
set_option maxRecDepth 100000
set_option maxHeartbeats 16000000
namespace Go.Proofs.YtgmndjbicandfaaDoor
open Go.RowKit
/-- What replaced promises, d deep. -/
def RepC (d : Nat) (s : ByteArray) (w0 : World) (y : Value) (Y : Xt) : Prop := ∀ (w : World) (T : Xt) (v : Value), XV w0 v T → MX d T → Below w0.heap.size w0 w → Calls Tryd.prog 31 #[v, .string s, y] w fun e w' => (∃ v', e = .returned v' ∧ StX w0.heap.size w.heap.size w' v' (xput s Y T)) ∧ Below w.heap.size w w'
theorem mkf12 : ∀ (fn : Fn) (first cap : Array Value) (w : World), (Instr.makeFunc fn first cap).run Tryd.prog w = .ok (.func fn first cap) w := fun _ _ _ _ => rfl
theorem rep1_any (d : Nat) (s : ByteArray) (w0 : World) (yk ylen ycap : Nat) (yn yln ycl : Int) (ynm : ByteArray) (ya : Option Addr) (Y : Xt) (hR : RepC d s w0 (.agg #[.int .u8 (yk : Int), .int .i64 yn, .string ynm, .slice ya ylen ycap, .int .i64 yln, .int .i64 ycl]) Y) (w : World) (T : Xt) (v : Value) (bn by_ : Nat) (hn : Vn w bn 9 #[.string s]) (hy : Vn w by_ 25 #[.int .u8 (yk : Int), .int .i64 yn, .string ynm, .slice ya ylen ycap, .int .i64 yln, .int .i64 ycl]) (hX : XV w0 v T) (hM : MX d T) (hb : Below w0.heap.size w0 w) :
  Calls Tryd.prog 48 #[v, .pointer (some ⟨bn, 0, none⟩), .pointer (some ⟨by_, 0, none⟩)] w fun e w' => (∃ v', e = .returned v' ∧ StX w0.heap.size w.heap.size w' v' (xput s Y T)) ∧ Below w.heap.size w w' := by
 have HC : Hid (∀ w', Below w.heap.size w w' → Calls Tryd.prog 31 #[v, .string s, .agg #[.int .u8 (yk : Int), .int .i64 yn, .string ynm, .slice ya ylen ycap, .int .i64 yln, .int .i64 ycl]] w' fun e w'' => (∃ v', e = .returned v' ∧ StX w0.heap.size w'.heap.size w'' v' (xput s Y T)) ∧ Below w'.heap.size w' w'') := fun w' hb' => hR w' T v hX hM (jtwo hb hb')
 have hs0 := hb.size
 obtain ⟨⟨a, cap, rfl, _⟩, _⟩ := hX
 clear hM hb hR
 generalize xput s Y T = Z at *
 generalize T [] = l at *
 obtain ⟨k, n, nm, len, ln, cl⟩ := l
 dsimp only at HC ⊢
 have HX := qa0 (Vn.new w 25 #[.int .u8 (k : Int), .int .i64 n, .string nm, .slice a len cap, .int .i64 ln, .int .i64 cl])
 have HX2 := qa0 (HX.out.later (jlow _ (.cells #[.int .u8 0, .int .i64 0, .string ⟨#[]⟩, .slice none 0 0, .int .i64 0, .int .i64 0] 25)))
 have HVt := qa0 (Vn.new (w.alloc (.cells #[.int .u8 (k : Int), .int .i64 n, .string nm, .slice a len cap, .int .i64 ln, .int .i64 cl] 25)) 25 #[.int .u8 0, .int .i64 0, .string ⟨#[]⟩, .slice none 0 0, .int .i64 0, .int .i64 0])
 have HB := qa0 (jtwo (jlow w (.cells #[.int .u8 (k : Int), .int .i64 n, .string nm, .slice a len cap, .int .i64 ln, .int .i64 cl] 25)) (jlow _ (.cells #[.int .u8 0, .int .i64 0, .string ⟨#[]⟩, .slice none 0 0, .int .i64 0, .int .i64 0] 25)))
 rw [qa2] at HVt
 have HN2 := qa0 (hn.later HB.out)
 have HY2 := qa0 (hy.later HB.out)
 have c0 := HX2.out.cell 0 _ rfl
 have c1 := HX2.out.cell 1 _ rfl
 have c2 := HX2.out.cell 2 _ rfl
 have c3 := HX2.out.cell 3 _ rfl
 have c4 := HX2.out.cell 4 _ rfl
 have c5 := HX2.out.cell 5 _ rfl
 have n0 := HN2.out.cell 0 _ rfl
 have e0 := HY2.out.cell 0 _ rfl
 have e1 := HY2.out.cell 1 _ rfl
 have e2 := HY2.out.cell 2 _ rfl
 have e3 := HY2.out.cell 3 _ rfl
 have e4 := HY2.out.cell 4 _ rfl
 have e5 := HY2.out.cell 5 _ rfl
 clear HX HX2 hn hy
 go_enter Tryd.func48, Tryd.ntmps48
 go_wp2_with (first
  | (go_at_call 31; refine (HC.out _ HB.out).mono ?_; rintro e w2 ⟨⟨v', rfl, hst⟩, hb2⟩; obtain ⟨⟨ra, rcap, rfl, _⟩, _⟩ := hst.now; have HST := qa0 hst; have HB2 := qa0 (jtwo HB.out hb2); have HV2 := qa0 (HVt.out.later hb2); clear hst hb2)
  | (refine qa1 rfl 25 _ _ rfl (w.heap.size + 1) _ #[.int .u8 ((Z []).k : Int), .int .i64 (Z []).n, .string (Z []).nm, .slice ra (Z []).len rcap, .int .i64 (Z []).ln, .int .i64 (Z []).cl] rfl rfl HV2.out sizeX rfl (all6 rfl rfl rfl rfl rfl rfl) ?_; intro w8 HV8 hg8))
 have d0 := HV8.out.cell 0 _ rfl
 have d1 := HV8.out.cell 1 _ rfl
 have d2 := HV8.out.cell 2 _ rfl
 have d3 := HV8.out.cell 3 _ rfl
 have d4 := HV8.out.cell 4 _ rfl
 have d5 := HV8.out.cell 5 _ rfl
 refine bodyPost_ret (v := .agg #[.int .u8 ((Z []).k : Int), .int .i64 (Z []).n, .string (Z []).nm, .slice ra (Z []).len rcap, .int .i64 (Z []).ln, .int .i64 (Z []).cl]) (by simp [results, Tryd.results48, go_sem, d0, d1, d2, d3, d4, d5]) rfl ?_
 exact ⟨⟨_, rfl, HST.out.put hg8.out (by omega) (by rw [qa2, qa2]; omega) (by rw [qa2, qa2]; omega)⟩, HB2.out.trans (jbelow hg8.out HB2.out.size (fun g e => by cases e; omega))⟩
/-- The name itself. -/
theorem rep_hit (s : ByteArray) (yk ylen ycap : Nat) (yn yln ycl : Int) (ynm : ByteArray) (ya : Option Addr) (w : World) (k len cap : Nat) (n ln cl : Int) (nm : ByteArray) (a : Option Addr) (hk : k = 2) (hs : sbq nm s = true) : Calls Tryd.prog 31 #[.agg #[.int .u8 (k : Int), .int .i64 n, .string nm, .slice a len cap, .int .i64 ln, .int .i64 cl], .string s, .agg #[.int .u8 (yk : Int), .int .i64 yn, .string ynm, .slice ya ylen ycap, .int .i64 yln, .int .i64 ycl]] w fun e w' => e = .returned (.agg #[.int .u8 (yk : Int), .int .i64 yn, .string ynm, .slice ya ylen ycap, .int .i64 yln, .int .i64 ycl]) ∧ Below w.heap.size w w' ∧ w.grownBy w' none := by
 subst hk
 have hs : (nm.toList == s.toList) = true := hs
 have H1 := qa0 (Vn.new w 25 #[.int .u8 ((2 : Nat) : Int), .int .i64 n, .string nm, .slice a len cap, .int .i64 ln, .int .i64 cl])
 have H2 := qa0 (Vn.new (w.alloc (.cells #[.int .u8 ((2 : Nat) : Int), .int .i64 n, .string nm, .slice a len cap, .int .i64 ln, .int .i64 cl] 25)) 9 #[.string s])
 have H3 := qa0 (Vn.new ((w.alloc (.cells #[.int .u8 ((2 : Nat) : Int), .int .i64 n, .string nm, .slice a len cap, .int .i64 ln, .int .i64 cl] 25)).alloc (.cells #[.string s] 9)) 25 #[.int .u8 (yk : Int), .int .i64 yn, .string ynm, .slice ya ylen ycap, .int .i64 yln, .int .i64 ycl])
 have H4 := qa0 (Vn.new (((w.alloc (.cells #[.int .u8 ((2 : Nat) : Int), .int .i64 n, .string nm, .slice a len cap, .int .i64 ln, .int .i64 cl] 25)).alloc (.cells #[.string s] 9)).alloc (.cells #[.int .u8 (yk : Int), .int .i64 yn, .string ynm, .slice ya ylen ycap, .int .i64 yln, .int .i64 ycl] 25)) 25 #[.int .u8 0, .int .i64 0, .string ⟨#[]⟩, .slice none 0 0, .int .i64 0, .int .i64 0])
 have B1 := qa0 (jlow w (.cells #[.int .u8 ((2 : Nat) : Int), .int .i64 n, .string nm, .slice a len cap, .int .i64 ln, .int .i64 cl] 25))
 have B2 := qa0 (jtwo B1.out (jlow _ (.cells #[.string s] 9)))
 have B3 := qa0 (jtwo B2.out (jlow _ (.cells #[.int .u8 (yk : Int), .int .i64 yn, .string ynm, .slice ya ylen ycap, .int .i64 yln, .int .i64 ycl] 25)))
 have HB := qa0 (jtwo B3.out (jlow _ (.cells #[.int .u8 0, .int .i64 0, .string ⟨#[]⟩, .slice none 0 0, .int .i64 0, .int .i64 0] 25)))
 have HX := qa0 (((H1.out.later (jlow _ (.cells #[.string s] 9))).later (jlow _ (.cells #[.int .u8 (yk : Int), .int .i64 yn, .string ynm, .slice ya ylen ycap, .int .i64 yln, .int .i64 ycl] 25))).later (jlow _ (.cells #[.int .u8 0, .int .i64 0, .string ⟨#[]⟩, .slice none 0 0, .int .i64 0, .int .i64 0] 25)))
 have HN := qa0 ((H2.out.later (jlow _ (.cells #[.int .u8 (yk : Int), .int .i64 yn, .string ynm, .slice ya ylen ycap, .int .i64 yln, .int .i64 ycl] 25))).later (jlow _ (.cells #[.int .u8 0, .int .i64 0, .string ⟨#[]⟩, .slice none 0 0, .int .i64 0, .int .i64 0] 25)))
 have HY := qa0 (H3.out.later (jlow _ (.cells #[.int .u8 0, .int .i64 0, .string ⟨#[]⟩, .slice none 0 0, .int .i64 0, .int .i64 0] 25)))
 have HW : Hid (((((w.alloc (.cells #[.int .u8 ((2 : Nat) : Int), .int .i64 n, .string nm, .slice a len cap, .int .i64 ln, .int .i64 cl] 25)).alloc (.cells #[.string s] 9)).alloc (.cells #[.int .u8 (yk : Int), .int .i64 yn, .string ynm, .slice ya ylen ycap, .int .i64 yln, .int .i64 ycl] 25)).alloc (.cells #[.int .u8 0, .int .i64 0, .string ⟨#[]⟩, .slice none 0 0, .int .i64 0, .int .i64 0] 25)).heap.size = w.heap.size + 4) := by show _ = _; rw [qa2, qa2, qa2, qa2]
 rw [qa2] at HN
 rw [qa2, qa2] at HY
 rw [qa2, qa2, qa2] at H4
 clear H1 H2 H3 B1 B2 B3
 have c0 := HX.out.cell 0 _ rfl
 have c1 := HX.out.cell 1 _ rfl
 have c2 := HX.out.cell 2 _ rfl
 have c3 := HX.out.cell 3 _ rfl
 have c4 := HX.out.cell 4 _ rfl
 have c5 := HX.out.cell 5 _ rfl
 have n0 := HN.out.cell 0 _ rfl
 have e0 := HY.out.cell 0 _ rfl
 have e1 := HY.out.cell 1 _ rfl
 have e2 := HY.out.cell 2 _ rfl
 have e3 := HY.out.cell 3 _ rfl
 have e4 := HY.out.cell 4 _ rfl
 have e5 := HY.out.cell 5 _ rfl
 go_enter Tryd.func31, Tryd.ntmps31
 go_wp2_with (refine qa1 rfl 25 _ _ rfl (w.heap.size + 3) _ #[.int .u8 (yk : Int), .int .i64 yn, .string ynm, .slice ya ylen ycap, .int .i64 yln, .int .i64 ycl] rfl rfl H4.out sizeX rfl (all6 rfl rfl rfl rfl rfl rfl) ?_; intro w8 HV8 hg8)
 have d0 := HV8.out.cell 0 _ rfl
 have d1 := HV8.out.cell 1 _ rfl
 have d2 := HV8.out.cell 2 _ rfl
 have d3 := HV8.out.cell 3 _ rfl
 have d4 := HV8.out.cell 4 _ rfl
 have d5 := HV8.out.cell 5 _ rfl
 refine bodyPost_ret (v := .agg #[.int .u8 (yk : Int), .int .i64 yn, .string ynm, .slice ya ylen ycap, .int .i64 yln, .int .i64 ycl]) (by simp [results, Tryd.results31, go_sem, d0, d1, d2, d3, d4, d5]) rfl ?_
 have hbb : Below w.heap.size w w8 := HB.out.trans (jbelow hg8.out HB.out.size (fun g e => by cases e; omega))
 exact ⟨rfl, hbb, jgrown.mpr hbb⟩
/-- Anything else. -/
theorem rep_no (d : Nat) (s : ByteArray) (w0 : World) (yk ylen ycap : Nat) (yn yln ycl : Int) (ynm : ByteArray) (ya : Option Addr) (Y : Xt) (hR : RepC d s w0 (.agg #[.int .u8 (yk : Int), .int .i64 yn, .string ynm, .slice ya ylen ycap, .int .i64 yln, .int .i64 ycl]) Y) (w : World) (k len cap : Nat) (n ln cl : Int) (nm : ByteArray) (a : Option Addr) (T : Xt) (hl : len ≤ 2) (hM : ∀ i, i < len → MX d (kid T i)) (hk : ¬ (k = 2 ∧ sbq nm s = true)) (hXl : ∀ d, XL d w0 a len (kid T)) (hb : Below w0.heap.size w0 w) :
  Calls Tryd.prog 31 #[.agg #[.int .u8 (k : Int), .int .i64 n, .string nm, .slice a len cap, .int .i64 ln, .int .i64 cl], .string s, .agg #[.int .u8 (yk : Int), .int .i64 yn, .string ynm, .slice ya ylen ycap, .int .i64 yln, .int .i64 ycl]] w fun e w' => (∃ (a2 : Option Addr) (cap2 : Nat), e = .returned (.agg #[.int .u8 (k : Int), .int .i64 n, .string nm, .slice a2 len cap2, .int .i64 ln, .int .i64 cl]) ∧ ∀ u, AgT w0.heap.size w.heap.size w' u → ∀ d, XL d u a2 len (fun i => xput s Y (kid T i))) ∧ Below w.heap.size w w' := by
 have H1 := qa0 (Vn.new w 25 #[.int .u8 (k : Int), .int .i64 n, .string nm, .slice a len cap, .int .i64 ln, .int .i64 cl])
 have H2 := qa0 (Vn.new (w.alloc (.cells #[.int .u8 (k : Int), .int .i64 n, .string nm, .slice a len cap, .int .i64 ln, .int .i64 cl] 25)) 9 #[.string s])
 have H3 := qa0 (Vn.new ((w.alloc (.cells #[.int .u8 (k : Int), .int .i64 n, .string nm, .slice a len cap, .int .i64 ln, .int .i64 cl] 25)).alloc (.cells #[.string s] 9)) 25 #[.int .u8 (yk : Int), .int .i64 yn, .string ynm, .slice ya ylen ycap, .int .i64 yln, .int .i64 ycl])
 have H4 := qa0 (Vn.new (((w.alloc (.cells #[.int .u8 (k : Int), .int .i64 n, .string nm, .slice a len cap, .int .i64 ln, .int .i64 cl] 25)).alloc (.cells #[.string s] 9)).alloc (.cells #[.int .u8 (yk : Int), .int .i64 yn, .string ynm, .slice ya ylen ycap, .int .i64 yln, .int .i64 ycl] 25)) 25 #[.int .u8 0, .int .i64 0, .string ⟨#[]⟩, .slice none 0 0, .int .i64 0, .int .i64 0])
 have B1 := qa0 (jlow w (.cells #[.int .u8 (k : Int), .int .i64 n, .string nm, .slice a len cap, .int .i64 ln, .int .i64 cl] 25))
 have B2 := qa0 (jtwo B1.out (jlow _ (.cells #[.string s] 9)))
 have B3 := qa0 (jtwo B2.out (jlow _ (.cells #[.int .u8 (yk : Int), .int .i64 yn, .string ynm, .slice ya ylen ycap, .int .i64 yln, .int .i64 ycl] 25)))
 have HB := qa0 (jtwo B3.out (jlow _ (.cells #[.int .u8 0, .int .i64 0, .string ⟨#[]⟩, .slice none 0 0, .int .i64 0, .int .i64 0] 25)))
 have HX := qa0 (((H1.out.later (jlow _ (.cells #[.string s] 9))).later (jlow _ (.cells #[.int .u8 (yk : Int), .int .i64 yn, .string ynm, .slice ya ylen ycap, .int .i64 yln, .int .i64 ycl] 25))).later (jlow _ (.cells #[.int .u8 0, .int .i64 0, .string ⟨#[]⟩, .slice none 0 0, .int .i64 0, .int .i64 0] 25)))
 have HN := qa0 ((H2.out.later (jlow _ (.cells #[.int .u8 (yk : Int), .int .i64 yn, .string ynm, .slice ya ylen ycap, .int .i64 yln, .int .i64 ycl] 25))).later (jlow _ (.cells #[.int .u8 0, .int .i64 0, .string ⟨#[]⟩, .slice none 0 0, .int .i64 0, .int .i64 0] 25)))
 have HY := qa0 (H3.out.later (jlow _ (.cells #[.int .u8 0, .int .i64 0, .string ⟨#[]⟩, .slice none 0 0, .int .i64 0, .int .i64 0] 25)))
 have HW : Hid (((((w.alloc (.cells #[.int .u8 (k : Int), .int .i64 n, .string nm, .slice a len cap, .int .i64 ln, .int .i64 cl] 25)).alloc (.cells #[.string s] 9)).alloc (.cells #[.int .u8 (yk : Int), .int .i64 yn, .string ynm, .slice ya ylen ycap, .int .i64 yln, .int .i64 ycl] 25)).alloc (.cells #[.int .u8 0, .int .i64 0, .string ⟨#[]⟩, .slice none 0 0, .int .i64 0, .int .i64 0] 25)).heap.size = w.heap.size + 4) := by show _ = _; rw [qa2, qa2, qa2, qa2]
 rw [qa2] at HN
 rw [qa2, qa2] at HY
 rw [qa2, qa2, qa2] at H4
 clear H1 H2 H3 B1 B2 B3
 have HWi : Hid (∀ w' : World, w'.heap.size = w.heap.size + 4 → Below w.heap.size w w' → Vn w' (w.heap.size + 1) 9 #[.string s] → Vn w' (w.heap.size + 1 + 1) 25 #[.int .u8 (yk : Int), .int .i64 yn, .string ynm, .slice ya ylen ycap, .int .i64 yln, .int .i64 ycl] → Calls Tryd.prog 47 #[.agg #[.int .u8 (k : Int), .int .i64 n, .string nm, .slice a len cap, .int .i64 ln, .int .i64 cl], .func (.func 48) #[] #[.pointer (some ⟨w.heap.size + 1, 0, none⟩), .pointer (some ⟨w.heap.size + 1 + 1, 0, none⟩)]] w' fun e w'' => (∃ (a2 : Option Addr) (cap2 : Nat), e = .returned (.agg #[.int .u8 (k : Int), .int .i64 n, .string nm, .slice a2 len cap2, .int .i64 ln, .int .i64 cl]) ∧ ∀ u, AgT w0.heap.size (w.heap.size + 4) w'' u → ∀ d, XL d u a2 len (fun i => xput s Y (kid T i))) ∧ Below w'.heap.size w' w'') := fun w' h4 hb' hn hy => by
  rw [← h4]
  exact with_A w0 w' w0.heap.size (jtwo hb hb').size k len cap n ln cl nm a T _ _ _ hl hXl (jtwo hb hb') (fun i hi w1 v1 hv1 hb1 => rep1_any d s w0 yk ylen ycap yn yln ycl ynm ya Y hR w1 (kid T i) v1 _ _ (hn.later hb1) (hy.later hb1) hv1 (hM i hi) (jtwo (jtwo hb hb') hb1))
 have hmf := mkf12
 have hs0 := hb.size
 have hq : ((k : Int) == 2) = false ∨ (((k : Int) == 2) = true ∧ (nm.toList == s.toList) = false) := by
  by_cases e : k = 2
  ·exact .inr ⟨by simp; omega, by rw [← Bool.not_eq_true]; exact fun g => hk ⟨e, g⟩⟩
  ·exact .inl (by simp; omega)
 clear hk hR hM hXl hb
 have c0 := HX.out.cell 0 _ rfl
 have c1 := HX.out.cell 1 _ rfl
 have c2 := HX.out.cell 2 _ rfl
 have c3 := HX.out.cell 3 _ rfl
 have c4 := HX.out.cell 4 _ rfl
 have c5 := HX.out.cell 5 _ rfl
 have n0 := HN.out.cell 0 _ rfl
 have e0 := HY.out.cell 0 _ rfl
 have e1 := HY.out.cell 1 _ rfl
 have e2 := HY.out.cell 2 _ rfl
 have e3 := HY.out.cell 3 _ rfl
 have e4 := HY.out.cell 4 _ rfl
 have e5 := HY.out.cell 5 _ rfl
 rcases hq with hq | ⟨hq, hq2⟩ <;>
 ·go_enter Tryd.func31, Tryd.ntmps31
  go_wp2_with (first
   | (go_at_call 47; refine (HWi.out _ HW.out HB.out HN.out HY.out).mono ?_; rintro e w2 ⟨⟨a2, cap2, rfl, hrd⟩, hb2⟩; have HRd := qa0 hrd; have HB2 := qa0 (jtwo HB.out hb2); have HL2 := qa0 hb2; have HV2 := qa0 (H4.out.later hb2); clear hrd hb2)
   | (refine qa1 rfl 25 _ _ rfl (w.heap.size + 1 + 1 + 1) _ #[.int .u8 (k : Int), .int .i64 n, .string nm, .slice a2 len cap2, .int .i64 ln, .int .i64 cl] rfl rfl HV2.out sizeX rfl (all6 rfl rfl rfl rfl rfl rfl) ?_; intro w8 HV8 hg8))
  have d0 := HV8.out.cell 0 _ rfl
  have d1 := HV8.out.cell 1 _ rfl
  have d2 := HV8.out.cell 2 _ rfl
  have d3 := HV8.out.cell 3 _ rfl
  have d4 := HV8.out.cell 4 _ rfl
  have d5 := HV8.out.cell 5 _ rfl
  refine bodyPost_ret (v := .agg #[.int .u8 (k : Int), .int .i64 n, .string nm, .slice a2 len cap2, .int .i64 ln, .int .i64 cl]) (by simp [results, Tryd.results31, go_sem, d0, d1, d2, d3, d4, d5]) rfl ?_
  have hz := HL2.out.size
  rw [HW.out] at hz
  exact ⟨⟨a2, cap2, rfl, fun u hu d => HRd.out u (fun b hb' hr => by
   rw [hu b (Nat.lt_of_lt_of_le hb' hg8.out.size) (hr.imp id (fun q => by omega)), hg8.out.block b hb' (fun e => by cases e; omega)]) d⟩, HB2.out.trans (jbelow hg8.out HB2.out.size (fun g e => by cases e; omega))⟩
theorem rep_any (s : ByteArray) (w0 : World) (y : Value) (Y : Xt) (hy : XV w0 y Y) : ∀ d, RepC d s w0 y Y := by
 intro d
 have hy0 := hy
 obtain ⟨⟨ya, ycap, rfl, _⟩, _⟩ := hy
 induction d with
 | zero => intro w T v hX hM; exact absurd hM (fun h => h.no)
 | succ d ih =>
  intro w T v hX hM hb
  obtain ⟨⟨a, cap, rfl, hXl⟩, hok⟩ := hX
  by_cases hk : (T []).k = 2 ∧ sbq (T []).nm s = true
  ·rw [qd3 (by unfold hitX; rw [decide_eq_true hk.1, hk.2]; rfl)]
   refine (rep_hit s _ _ _ _ _ _ _ ya w _ _ _ _ _ _ _ a hk.1 hk.2).mono (fun e w' h => ⟨⟨_, h.1, ?_⟩, h.2.1⟩)
   exact StX.old hy0 (jtwo hb h.2.1) _
  ·rw [qe3 (by unfold hitX; rw [← Bool.not_eq_true, Bool.and_eq_true, decide_eq_true_eq]; exact hk)]
   refine (rep_no d s w0 _ _ _ _ _ _ _ ya Y ih w _ _ cap _ _ _ _ a T hM.len (fun i hi => hM.kid hi) hk hXl hb).mono (fun e w' h => ?_)
   obtain ⟨⟨a2, cap2, he, hr⟩, hb'⟩ := h
   exact ⟨⟨_, he, fun u hu => ⟨⟨a2, cap2, rfl, fun d => hr u hu d⟩, hok⟩⟩, hb'⟩
/-- What copied promises, d deep. -/
def CopC (d : Nat) : Prop := ∀ (w0 w : World) (T : Xt) (v : Value), XV w0 v T → MX d T → Below w0.heap.size w0 w → Calls Tryd.prog 32 #[v] w fun e w' => (∃ v', e = .returned v' ∧ StX 0 w.heap.size w' v' T) ∧ Below w.heap.size w w'
theorem cop_s (d : Nat) (IH : CopC d) : CopC (d + 1) := by
 intro w0 w T v hX hM hb
 obtain ⟨⟨a, cap, rfl, hXl⟩, hok⟩ := hX
 have HWi : Hid (∀ w' : World, w'.heap.size = w.heap.size + 2 → Below w.heap.size w w' → Calls Tryd.prog 47 #[.agg #[.int .u8 ((T []).k : Int), .int .i64 (T []).n, .string (T []).nm, .slice a (T []).len cap, .int .i64 (T []).ln, .int .i64 (T []).cl], .func (.func 32) #[] #[]] w' fun e w'' => (∃ (a2 : Option Addr) (cap2 : Nat), e = .returned (.agg #[.int .u8 ((T []).k : Int), .int .i64 (T []).n, .string (T []).nm, .slice a2 (T []).len cap2, .int .i64 (T []).ln, .int .i64 (T []).cl]) ∧ ∀ u, AgT 0 (w.heap.size + 2) w'' u → ∀ d, XL d u a2 (T []).len (kid T)) ∧ Below w'.heap.size w' w'') := fun w' h4 hb' => by
  rw [← h4]
  exact with_B w0 w' 0 (Nat.zero_le _) _ _ cap _ _ _ _ a T (kid T) hM.len hXl (jtwo hb hb') (fun i hi w1 v1 hv1 hb1 => IH w0 w1 (kid T i) v1 hv1 (hM.kid hi) (jtwo (jtwo hb hb') hb1))
 have HT : Hid (∀ (u : World) (a2 : Option Addr) (cap2 : Nat), (∀ d, XL d u a2 (T []).len (kid T)) → XV u (.agg #[.int .u8 ((T []).k : Int), .int .i64 (T []).n, .string (T []).nm, .slice a2 (T []).len cap2, .int .i64 (T []).ln, .int .i64 (T []).cl]) T) := fun u a2 cap2 h => ⟨⟨a2, cap2, rfl, h⟩, hok⟩
 clear hXl hM hb IH hok
 generalize kid T = G at *
 generalize T [] = l at *
 obtain ⟨k, n, nm, len, ln, cl⟩ := l
 dsimp only at HWi HT ⊢
 have HX := qa0 (Vn.new w 25 #[.int .u8 (k : Int), .int .i64 n, .string nm, .slice a len cap, .int .i64 ln, .int .i64 cl])
 have HX2 := qa0 (HX.out.later (jlow _ (.cells #[.int .u8 0, .int .i64 0, .string ⟨#[]⟩, .slice none 0 0, .int .i64 0, .int .i64 0] 25)))
 have HVt := qa0 (Vn.new (w.alloc (.cells #[.int .u8 (k : Int), .int .i64 n, .string nm, .slice a len cap, .int .i64 ln, .int .i64 cl] 25)) 25 #[.int .u8 0, .int .i64 0, .string ⟨#[]⟩, .slice none 0 0, .int .i64 0, .int .i64 0])
 have HB := qa0 (jtwo (jlow w (.cells #[.int .u8 (k : Int), .int .i64 n, .string nm, .slice a len cap, .int .i64 ln, .int .i64 cl] 25)) (jlow _ (.cells #[.int .u8 0, .int .i64 0, .string ⟨#[]⟩, .slice none 0 0, .int .i64 0, .int .i64 0] 25)))
 have HW : Hid (((w.alloc (.cells #[.int .u8 (k : Int), .int .i64 n, .string nm, .slice a len cap, .int .i64 ln, .int .i64 cl] 25)).alloc (.cells #[.int .u8 0, .int .i64 0, .string ⟨#[]⟩, .slice none 0 0, .int .i64 0, .int .i64 0] 25)).heap.size = w.heap.size + 2) := by show _ = _; rw [qa2, qa2]
 rw [qa2] at HVt
 have c0 := HX2.out.cell 0 _ rfl
 have c1 := HX2.out.cell 1 _ rfl
 have c2 := HX2.out.cell 2 _ rfl
 have c3 := HX2.out.cell 3 _ rfl
 have c4 := HX2.out.cell 4 _ rfl
 have c5 := HX2.out.cell 5 _ rfl
 clear HX HX2
 go_enter Tryd.func32, Tryd.ntmps32
 go_wp2_with (first
  | (go_at_call 47; refine (HWi.out _ HW.out HB.out).mono ?_; rintro e w2 ⟨⟨a2, cap2, rfl, hrd⟩, hb2⟩; have HRd := qa0 hrd; have HB2 := qa0 (jtwo HB.out hb2); have HL2 := qa0 hb2; have HV2 := qa0 (HVt.out.later hb2); clear hrd hb2)
  | (refine qa1 rfl 25 _ _ rfl (w.heap.size + 1) _ #[.int .u8 (k : Int), .int .i64 n, .string nm, .slice a2 len cap2, .int .i64 ln, .int .i64 cl] rfl rfl HV2.out sizeX rfl (all6 rfl rfl rfl rfl rfl rfl) ?_; intro w8 HV8 hg8))
 have d0 := HV8.out.cell 0 _ rfl
 have d1 := HV8.out.cell 1 _ rfl
 have d2 := HV8.out.cell 2 _ rfl
 have d3 := HV8.out.cell 3 _ rfl
 have d4 := HV8.out.cell 4 _ rfl
 have d5 := HV8.out.cell 5 _ rfl
 refine bodyPost_ret (v := .agg #[.int .u8 (k : Int), .int .i64 n, .string nm, .slice a2 len cap2, .int .i64 ln, .int .i64 cl]) (by simp [results, Tryd.results32, go_sem, d0, d1, d2, d3, d4, d5]) rfl ?_
 have hz := HL2.out.size
 rw [HW.out] at hz
 exact ⟨⟨_, rfl, fun u hu => HT.out u a2 cap2 (fun d => HRd.out u (fun b hb' hr => by
  rw [hu b (Nat.lt_of_lt_of_le hb' hg8.out.size) (hr.imp id (fun q => by omega)), hg8.out.block b hb' (fun e => by cases e; omega)]) d)⟩, HB2.out.trans (jbelow hg8.out HB2.out.size (fun g e => by cases e; omega))⟩
theorem cop_any : ∀ d, CopC d := by
 intro d
 induction d with
 | zero => intro w0 w T v hX hM; exact absurd hM (fun h => h.no)
 | succ d ih => exact cop_s d ih
end Go.Proofs.YtgmndjbicandfaaDoor
