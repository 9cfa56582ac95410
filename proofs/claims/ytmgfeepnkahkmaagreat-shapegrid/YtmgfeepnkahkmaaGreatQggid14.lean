/-
  Contracts of the program's matrices: ofRows, Of.
  Contracts of the program's matrices: Of.
  Contracts of the program's matrices: rowsOf.
  Contracts of the program's matrices: Stack.
-/
import Derived.Test.YtmgfeepnkahkmaaGreatQggid00
import Derived.Test.YtmgfeepnkahkmaaGreatQggid13
import Derived.Test.YtmgfeepnkahkmaaGreatQggid06
set_option maxRecDepth 100000
set_option maxHeartbeats 16000000
namespace Go.Proofs.YtmgfeepnkahkmaaGreat
open Go.RowKit
/-- What the loop of a matrix of rows keeps. -/
structure OfI (w wr : World) (gd g6 m c N : Nat) (fn : Nat → Nat) : Prop where
 vr : Vr wr w.heap.size (.int .i64 0) (.int .i64 0) (.slice none 0 0)
 vm : Vr wr g6 (.int .i64 (m : Int)) (.int .i64 (c : Int)) (.slice (some ⟨gd, 0, none⟩) N N)
 data : RowAt wr gd 5 N fn
 below : Below w.heap.size w wr
 d6 : gd ≠ g6
 dlow : w.heap.size < gd
theorem OfI.congr {w wr : World} {gd g6 m c N : Nat} {fn fn' : Nat → Nat} (I : OfI w wr gd g6 m c N fn) (e : ∀ p, p < N → fn p = fn' p) : OfI w wr gd g6 m c N fn' := ⟨I.vr, I.vm, I.data.congr e, I.below, I.d6, I.dlow⟩
theorem OfI.later {w wr w' : World} {gd g6 m c N : Nat} {fn : Nat → Nat} (I : OfI w wr gd g6 m c N fn) (hb : Below wr.heap.size wr w') : OfI w w' gd g6 m c N fn := ⟨I.vr.later hb, I.vm.later hb, I.data.later hb, qa0 I.below hb, I.d6, I.dlow⟩
theorem OfI.copy {w wr w' : World} {gd g6 m c N : Nat} {fn fn' : Nat → Nat} (I : OfI w wr gd g6 m c N fn) (hr : RowAt w' gd 5 N fn') (hg : wr.grownBy w' (some gd)) : OfI w w' gd g6 m c N fn' :=
 have d := I.dlow
 ⟨I.vr.kept hg (by omega), I.vm.kept hg (Ne.symm I.d6), hr, qa3 I.below hg (by omega), I.d6, I.dlow⟩
theorem OfI.drew {w wr : World} {gd g6 m c N : Nat} {fn : Nat → Nat} (I : OfI w wr gd g6 m c N fn) : OfI w wr.drew gd g6 m c N fn := I.later (Below.refl _ _).drew
theorem qib (w : World) (m c d N : Nat) (b : Option Addr) (A : Nat → Option Addr) (L C : Nat → Nat) (f : Nat → Nat → Nat) (hb : Rl w b m A L C f) (hL : ∀ i, i < m → L i = c) (hm : m ≤ 64) (hc : c ≤ 64) (HN : Hid (m * c = N)) :
  Calls Tryz.prog 107 #[.int .i64 (c : Int), .slice b m d] w fun e w' => ∃ g, e = .returned (mv m c (some ⟨g, 0, none⟩) N N) ∧ RowAt w' g 5 N (off f c) ∧ w.heap.size ≤ g ∧ Below w.heap.size w w' := by
 have HRu : Hid (Rt m c N) := ⟨hm, hc, HN.out⟩
 have hN := HRu.out.le
 have HRl : Hid (Rl w b m A L C f) := hb
 have HL : Hid (∀ i, i < m → L i = c) := hL
 obtain ⟨fn, HFn⟩ : ∃ fn : Nat → Nat, Hid (off f c = fn) := ⟨_, rfl⟩
 rw [HFn.out]
 have HVw : Hid (Vr (w.alloc (.cells #[.int .i64 0, .int .i64 0, .slice none 0 0] 24)) w.heap.size (.int .i64 0) (.int .i64 0) (.slice none 0 0)) := Vr.new w _ _ _
 clear hb hL
 go_enter Tryz.func107, Tryz.ntmps107
 go_wp2_with (first
  | (go_at_call 62; refine (qb0 _ m c N hm hc HN).mono ?_; rintro e w3 ⟨gd, rfl, hr3, hg3, hb3⟩; have HR3 : Hid (RowAt w3 gd 5 N (fun _ => 0)) := hr3; have HB3 : Hid (Below w.heap.size w w3) := qa0 (qa1 _ _) hb3; have HV3 : Hid (Vr w3 w.heap.size (.int .i64 0) (.int .i64 0) (.slice none 0 0)) := HVw.out.later hb3; have hg4 : w.heap.size + 1 ≤ gd := by { have := hg3; simpa using this }; have m0' := (Vr.new w3 (.int .i64 (m : Int)) (.int .i64 (c : Int)) (.slice (some ⟨gd, 0, none⟩) N N)).c0; clear hr3 hb3 hg3))
 have HI0 : Hid (OfI w (w3.alloc (.cells #[.int .i64 (m : Int), .int .i64 (c : Int), .slice (some ⟨gd, 0, none⟩) N N] 24)) gd w3.heap.size m c N (fun _ => 0)) := by
  have l3 := HR3.out.lt
  exact ⟨HV3.out.later (qa1 _ _), Vr.new w3 _ _ _, HR3.out.later (qa1 _ _), qa0 HB3.out (qa1 _ _), by omega, by omega⟩
 clear HVw HR3 HB3 HV3 m0'
 go_loopw [6, 13] (fun _ j wr => ∃ i : Nat, i ≤ m ∧ j = .int .i64 (i : Int) ∧ OfI w wr gd w3.heap.size m c N (upf fn (i * c))) (fun _ j _ => m - (intOf j).toNat)
 case atStart => exact ⟨0, by omega, rfl, HI0.out.congr (fun p _ => by rw [Nat.zero_mul, qcy])⟩
 case round =>
  clear HI0
  obtain ⟨i, hi, rfl, I⟩ := hrel
  have HI : Hid (OfI w wr gd w3.heap.size m c N (upf fn (i * c))) := I
  clear I
  by_cases hlt : i < m
  ·obtain ⟨x, o, eb, hci⟩ := HRl.out.at' i hlt
   have hsl := HRl.out.sl i hlt
   rw [HL.out i hlt] at hci hsl
   obtain ⟨sa, HSa⟩ : ∃ s, Hid (A i = s) := ⟨_, rfl⟩
   obtain ⟨ca, HCa⟩ : ∃ s, Hid (C i = s) := ⟨_, rfl⟩
   obtain ⟨hh, HHh⟩ : ∃ s, Hid (f i = s) := ⟨_, rfl⟩
   rw [HSa.out, HCa.out] at hci
   rw [HSa.out, HHh.out] at hsl
   have HSl : Hid (Sl w sa c hh) := hsl
   obtain ⟨p, HP⟩ : ∃ p, Hid (i * c = p) := ⟨_, rfl⟩
   obtain ⟨sp, HSp⟩ : ∃ s, Hid (pc (some ⟨gd, 0, none⟩) p c = s) := ⟨_, rfl⟩
   rw [HP.out] at HI
   have HFi : Hid (p + c ≤ N) := by have := HRu.out.fit hlt; rw [HP.out] at this; exact this
   have HNext : Hid (∀ q, cpf (upf fn p) hh p c q = upf fn ((i + 1) * c) q) := fun q => by
    rw [qdm fn _ p c (fun j hj => by rw [← HFn.out, ← HP.out, off_at f c i j hj, HHh.out]) q, ← HP.out, Nat.add_mul, Nat.one_mul]
   have HD : Hid (wr.drew.cell? ⟨w3.heap.size, 0, none⟩ = some (.int .i64 (m : Int)) ∧ wr.drew.cell? ⟨w3.heap.size, 1, none⟩ = some (.int .i64 (c : Int)) ∧ wr.drew.cell? ⟨w3.heap.size, 2, none⟩ = some (.slice (some ⟨gd, 0, none⟩) N N) ∧ wr.drew.cell? ⟨x, o + i, none⟩ = some (.slice sa c ca)) := ⟨HI.out.drew.vm.c0, HI.out.drew.vm.c1, HI.out.drew.vm.c2, keepc HI.out.drew.below hci⟩
   have i0 : (0 : Int) ≤ (i : Int) := Int.natCast_nonneg _
   have i1 : (i : Int) < (m : Int) := by omega
   clear hsl
   subst eb
   go_wp2
   go_region_held3 (fun w' => w'.cell? ⟨w3.heap.size, 0, none⟩ = some (.int .i64 (m : Int)) ∧ w'.cell? ⟨w3.heap.size, 1, none⟩ = some (.int .i64 (c : Int)) ∧ w'.cell? ⟨w3.heap.size, 2, none⟩ = some (.slice (some ⟨gd, 0, none⟩) N N) ∧ w'.cell? ⟨x, o + i, none⟩ = some (.slice sa c ca))
    (first
     | exact HK4.out
     | exact HK1.out
     | exact HD.out)
    (first
     | (go_at_call 64; refine (qaq _ _ c N N i p (some ⟨gd, 0, none⟩) sp (fun e => by cases e) (Nat.le_refl _) HFi.out hN (by omega) HP HSp).mono ?_; rintro e w4 ⟨rfl, hb4⟩; have HI4 : Hid (OfI w w4 gd w3.heap.size m c N (upf fn p)) := (HI.out.drew).later hb4; have HK1 : Hid (w4.cell? ⟨w3.heap.size, 0, none⟩ = some (.int .i64 (m : Int)) ∧ w4.cell? ⟨w3.heap.size, 1, none⟩ = some (.int .i64 (c : Int)) ∧ w4.cell? ⟨w3.heap.size, 2, none⟩ = some (.slice (some ⟨gd, 0, none⟩) N N) ∧ w4.cell? ⟨x, o + i, none⟩ = some (.slice sa c ca)) := ⟨HI4.out.vm.c0, HI4.out.vm.c1, HI4.out.vm.c2, keepc HI4.out.below hci⟩; clear hb4)
     | (refine qb6 rfl _ _ rfl gd p N c c ca sp sa (upf fn p) hh rfl rfl HI4.out.data (fun h => by rw [← HSp.out]; exact qcg gd p c h) (HSl.out.later HI4.out.below) HFi.out ?_; intro w7 HR7 HG7; have HI7 : Hid (OfI w w7 gd w3.heap.size m c N (upf fn ((i + 1) * c))) := (HI4.out.copy HR7.out HG7.out).congr (fun q _ => HNext.out q); have HK4 : Hid (w7.cell? ⟨w3.heap.size, 0, none⟩ = some (.int .i64 (m : Int)) ∧ w7.cell? ⟨w3.heap.size, 1, none⟩ = some (.int .i64 (c : Int)) ∧ w7.cell? ⟨w3.heap.size, 2, none⟩ = some (.slice (some ⟨gd, 0, none⟩) N N) ∧ w7.cell? ⟨x, o + i, none⟩ = some (.slice sa c ca)) := ⟨HI7.out.vm.c0, HI7.out.vm.c1, HI7.out.vm.c2, keepc HI7.out.below hci⟩; clear HR7 HG7))
   go_wp2
   exact ⟨⟨i + 1, by omega, by go_num, HI7.out⟩, by simp [intOf]; omega⟩
  ·obtain rfl : i = m := by omega
   have HR : Hid (RowAt wr gd 5 N (upf fn (i * c))) := HI.out.data
   have c0 := HI.out.vm.c0
   have c1 := HI.out.vm.c1
   have c2 := HI.out.vm.c2
   have hlow := HI.out.dlow
   go_wp2_with (refine qa4 rfl _ _ rfl w.heap.size _ _ _ (.int .i64 (i : Int)) (.int .i64 (c : Int)) (.slice (some ⟨gd, 0, none⟩) N N) rfl rfl HI.out.vr rfl rfl rfl ?_; intro w8 HV8 HG8)
   have d0 := HV8.out.c0
   have d1 := HV8.out.c1
   have d2 := HV8.out.c2
   refine bodyPost_ret (v := mv i c (some ⟨gd, 0, none⟩) N N) (by simp [results, Tryz.results107, go_sem, d0, d1, d2, mv]) rfl ?_
   exact ⟨gd, rfl, (HR.out.kept HG8.out (by omega)).congr (qf7 fn (by rw [HRu.out.len]; exact Nat.le_refl _)), by omega, qa3 HI.out.below HG8.out (Nat.le_refl _)⟩
open Go.RowKit
/-- A row of values. -/
def vrow (n : Nat) (v : Nat → Value) : Array Value := (Array.range n).map v
theorem qau (n : Nat) (v : Nat → Value) : (vrow n v).size = n := by simp [vrow]
theorem qce (n : Nat) (v : Nat → Value) (i : Nat) (h : i < n) : (vrow n v)[i]? = some (v i) := by simp [vrow, h]
theorem vrow_set (n : Nat) (v : Nat → Value) (i : Nat) (x : Value) : (vrow n v).setIfInBounds i x = vrow n (fun j => if j = i then x else v j) := by
 apply Array.ext
 ·simp [vrow]
 ·intro j h1 h2
  by_cases e : i = j
  ·subst e; simp [vrow]
  ·rw [Array.getElem_setIfInBounds_ne (by simpa using h1) e]; simp [vrow, Ne.symm e]
/-- A row of lists. -/
def VAt (w : World) (g n : Nat) (v : Nat → Value) : Prop := w.heap[g]? = some (.cells (vrow n v) 22 (0, 0))
theorem VAt.lt {w : World} {g n : Nat} {v : Nat → Value} (h : VAt w g n v) : g < w.heap.size := lt_of_block h
theorem VAt.cell {w : World} {g n : Nat} {v : Nat → Value} (h : VAt w g n v) (i : Nat) (hi : i < n) : w.cell? ⟨g, i, none⟩ = some (v i) := by rw [cell_of_row w g i _ _ _ h, qce n v i hi]
theorem VAt.free {w : World} {g n : Nat} {v : Nat → Value} (h : VAt w g n v) (i : Nat) : w.frozen? ⟨g, i, none⟩ = false := by
 unfold VAt at h
 simp [World.frozen?, h]
theorem VAt.later {w w' : World} {g n : Nat} {v : Nat → Value} (h : VAt w g n v) (hb : Below w.heap.size w w') : VAt w' g n v := by unfold VAt; rw [hb.block g h.lt]; exact h
theorem VAt.congr {w : World} {g n : Nat} {v v' : Nat → Value} (h : VAt w g n v) (e : ∀ i, i < n → v i = v' i) : VAt w g n v' := by
 unfold VAt at *
 rw [h]
 congr 2
 apply Array.ext
 ·simp [vrow]
 ·intro i h1 h2
  simp [vrow]
  exact e i (by simpa [vrow] using h1)
theorem VAt.set {w : World} {g n : Nat} {v : Nat → Value} (h : VAt w g n v) (i : Nat) (x : Value) : VAt (w.setCell ⟨g, i, none⟩ x) g n (fun j => if j = i then x else v j) := by
 unfold VAt at *
 rw [setCell_eq_setRow w g i _ _ (0, 0) _ h, setRow_heap w g _ _ _ (0, 0) h, vrow_set]
theorem qh9 {w1 : World} {base g n : Nat} (h : w1.ownsRow base 22 1 (.slice (some ⟨g, 0, none⟩) n n) n (madeCells (Value.slice none 0 0).cells (n * 1)).toList) : VAt w1 g n (fun _ => .slice none 0 0) := by
 rcases h.2 with ⟨h', _⟩ | ⟨g', cap', cur, h', _, hg, _, _, hs, htake⟩
 ·simp at h'
 ·simp only [Value.slice.injEq, Option.some.injEq, Addr.mk.injEq, and_true, true_and] at h'
  obtain ⟨rfl, rfl⟩ := h'
  unfold VAt
  rw [hg]
  congr 2
  apply Array.toList_inj.mp
  rw [List.take_of_length_le (by simp; omega)] at htake
  rw [htake, Nat.mul_one]
  show (madeCells #[Value.slice none 0 0] n).toList = _
  rw [toList_madeCells_one]
  apply List.ext_getElem
  ·simp [vrow]
  ·intro i h1 h2; simp [vrow]
theorem VAt.own {w : World} {g n B : Nat} {v : Nat → Value} (h : VAt w g n v) (hb : B ≤ g) (hn : n ≤ maxLen) : w.ownsRow B 22 1 (.slice (some ⟨g, 0, none⟩) n n) n (vrow n v).toList :=
 ⟨by simp [qau], .inr ⟨g, n, vrow n v, rfl, hb, h, Nat.le_refl _, hn, by simp [qau], List.take_of_length_le (by simp [qau])⟩⟩
theorem qha : (Tryz.prog.info? 22).map (fun i => (i.zero, i.size, i.bytes)) = some (some (.slice none 0 0), 1, 24) := by kernel_rfl
/-- A matrix's rows, as lists: those before t. -/
def rvf (a : Option Addr) (c t i : Nat) : Value := if i < t then .slice (pc a (i * c) c) c c else .slice none 0 0
theorem rvf_zero (a : Option Addr) (c i : Nat) : rvf a c 0 i = .slice none 0 0 := by unfold rvf; rw [if_neg (by omega)]
theorem rvf_step (a : Option Addr) (c t i : Nat) : (if i = t then Value.slice (pc a (t * c) c) c c else rvf a c t i) = rvf a c (t + 1) i := by
 unfold rvf
 by_cases h : i = t
 ·subst h; rw [if_pos rfl, if_pos (by omega)]
 ·rw [if_neg h]
  by_cases h2 : i < t
  ·rw [if_pos h2, if_pos (by omega)]
  ·rw [if_neg h2, if_neg (by omega)]
theorem qeg (w : World) (r c n k : Nat) (a : Option Addr) (F : Nat → Nat) (ha : Mt w a n k F) (R : Rt r c n) :
  Calls Tryz.prog 108 #[mv r c a n k] w fun e w' => ∃ g, e = .returned (.slice (some ⟨g, 0, none⟩) r r) ∧ VAt w' g r (rvf a c r) ∧ w.heap.size ≤ g ∧ Below w.heap.size w w' := by
 obtain ⟨i0, hi0, hz0, hz1, hz2⟩ := info_parts qha
 have HRt : Hid (Rt r c n) := R
 have hn := R.le
 have hr64 := R.r64
 have hc64 := R.c64
 have HA : Hid (Mt w a n k F) := ha
 have hml : r ≤ maxLen := by unfold maxLen; omega
 have HV0 : Hid (Vr (w.alloc (.cells #[.int .i64 (r : Int), .int .i64 (c : Int), .slice a n k] 24)) w.heap.size (.int .i64 (r : Int)) (.int .i64 (c : Int)) (.slice a n k)) := Vr.new w _ _ _
 clear ha R
 go_enter Tryz.func108, Tryz.ntmps108
 go_wp2_with (first
  | (at_make; refine wpList_make_full _ rfl _ _ 128 rfl (w.heap.size + 1) 22 i0 (.slice none 0 0) 1 Tryz.underlying128 hi0 hz0 hz1 .i64 .i64 _ _ r rfl rfl rfl rfl (by rw [hz2]; omega) hml (by simp) ?_; intro w2 hown hgrow; have HR2 : Hid (VAt w2 (w.heap.size + 1) r (fun _ => .slice none 0 0)) := by { show VAt _ _ _ _; have := qh9 hown; simpa using this }; have HB2 : Hid (Below w.heap.size w w2) := qa0 (qa1 _ _) (qa5.mp hgrow); have HV2 : Hid (Vr w2 w.heap.size (.int .i64 (r : Int)) (.int .i64 (c : Int)) (.slice a n k)) := HV0.out.later (qa5.mp hgrow); have d0 := HV2.out.c0; clear hown hgrow))
 clear d0 HV0
 go_loopw [4, 10] (fun _ i wr => ∃ t : Nat, t ≤ r ∧ i = .int .i64 (t : Int) ∧ VAt wr (w.heap.size + 1) r (rvf a c t) ∧ Vr wr w.heap.size (.int .i64 (r : Int)) (.int .i64 (c : Int)) (.slice a n k) ∧ Below w.heap.size w wr) (fun _ i _ => r - (intOf i).toNat)
 case atStart => exact ⟨0, by omega, rfl, HR2.out.congr (fun p _ => (rvf_zero a c p).symm), HV2.out, HB2.out⟩
 case round =>
  clear HR2 HV2 HB2
  obtain ⟨t, ht, rfl, hr, hv, hbr⟩ := hrel
  have HR : Hid (VAt wr (w.heap.size + 1) r (rvf a c t)) := hr
  have HV : Hid (Vr wr w.heap.size (.int .i64 (r : Int)) (.int .i64 (c : Int)) (.slice a n k)) := hv
  have HB : Hid (Below w.heap.size w wr) := hbr
  clear hr hv hbr
  by_cases hlt : t < r
  ·obtain ⟨p, HP⟩ : ∃ p, Hid (t * c = p) := ⟨_, rfl⟩
   obtain ⟨sa, HSa⟩ : ∃ s, Hid (pc a p c = s) := ⟨_, rfl⟩
   have HFi : Hid (p + c ≤ n) := by have := HRt.out.fit hlt; rw [HP.out] at this; exact this
   have HSt : Hid (∀ i, (if i = t then Value.slice sa c c else rvf a c t i) = rvf a c (t + 1) i) := fun i => by rw [← rvf_step, HP.out, HSa.out]
   have c0 := HV.out.c0
   have c1 := HV.out.c1
   have c2 := HV.out.c2
   have t1 : (t : Int) < (r : Int) := by omega
   go_wp2_with (first
    | (go_at_call 64; refine (qaq _ _ c n k t p a sa HA.out.nil HA.out.room HFi.out hn (by omega) HP HSa).mono ?_; rintro e w4 ⟨rfl, hb4⟩; have HB4 : Hid (Below wr.heap.size wr w4) := hb4; have hc := (HR.out.later HB4.out).cell t hlt; have hf := (HR.out.later HB4.out).free t; have RR : Hid (VAt (w4.setCell ⟨w.heap.size + 1, t, none⟩ (.slice sa c c)) (w.heap.size + 1) r (rvf a c (t + 1)) ∧ Vr (w4.setCell ⟨w.heap.size + 1, t, none⟩ (.slice sa c c)) w.heap.size (.int .i64 (r : Int)) (.int .i64 (c : Int)) (.slice a n k) ∧ Below w.heap.size w (w4.setCell ⟨w.heap.size + 1, t, none⟩ (.slice sa c c))) := ⟨((HR.out.later HB4.out).set t _).congr (fun j _ => HSt.out j), (HV.out.later HB4.out).kept (qa2 _ _ _ _) (by omega), (qa0 HB.out HB4.out).setCell (by show w.heap.size ≤ w.heap.size + 1; omega) _⟩; clear hb4))
   exact ⟨⟨t + 1, by omega, by go_num, RR.out.1, RR.out.2.1, RR.out.2.2⟩, by simp [intOf]; omega⟩
  ·obtain rfl : t = r := by omega
   go_wp2
   go_ret
   exact ⟨_, rfl, HR.out, by omega, HB.out⟩
open Go.RowKit
theorem qdb {ops : Array Oper} {op : Oper} {a : Act} {w : World} {K : Act → World → Prop} {Q : Exit → Act → World → Prop} {E : Prop} (hgd : op.guard = none) (s x : Operand) (ho : op.op = .call { callee := .builtin .append, args := #[s, x], argTypes := #[128, 128] })
  (base n : Nat) (v : Value) (ls : List Value) (hs : a.eval s = v) (hown : w.ownsRow base 22 1 v n ls) (g m c : Nat) (u : Nat → Value) (hx : a.eval x = .slice (some ⟨g, 0, none⟩) m c) (hu : VAt w g m u) (h1 : ∀ i, i < m → (u i).oneCell' = true) (h63 : n + m ≤ 4096) (hbase : base ≤ w.heap.size)
  (h : ∀ v' w', w'.ownsRow base 22 1 v' (n + m) (ls ++ (vrow m u).toList) → w.grownBy w' v.ownBlock → K (a.put op.dst v') w') : if Region.wanted op (yielded ops a.tmps) = true then Oper.wp Tryz.prog op a w K Q else E := by
 obtain ⟨i0, hi, hz0, hz1, hz2⟩ := info_parts qha
 have hw : Region.wanted op (yielded ops a.tmps) = true := by simp [Region.wanted, hgd]
 rw [if_pos hw]
 refine wp_append_own w s x 128 ho base 22 i0 (.slice none 0 0) 1 24 Tryz.underlying128 hi hz0 hz1 hz2 rfl (by decide) v n ls hs hown ⟨g, 0, none⟩ m c (vrow m u).toList hx (by simp [qau]) ?_ ?_ (by unfold maxLen; omega) (by omega) hbase (fun v' w' h1 h2 _ => h v' w' h1 h2)
 ·intro j y hj
  have hjm : j < m := by
   have := (List.getElem?_eq_some_iff.1 hj).1
   simpa [qau] using this
  rw [Array.getElem?_toList, qce m u j hjm] at hj
  rw [add_plain, Nat.zero_add, hu.cell j hjm, hj]
 ·intro y hy
  obtain ⟨j, hj⟩ := List.getElem?_of_mem hy
  have hjm : j < m := by
   have := (List.getElem?_eq_some_iff.1 hj).1
   simpa [qau] using this
  rw [Array.getElem?_toList, qce m u j hjm] at hj
  cases hj
  exact h1 j hjm
theorem rvf_one (a : Option Addr) (c t i : Nat) : (rvf a c t i).oneCell' = true := by unfold rvf; split <;> rfl
theorem qic {w : World} {base n : Nat} {v : Value} {ls : List Value} (h : w.ownsRow base 22 1 v n ls) : ∃ s d, v = .slice s n d := by
 rcases h.2 with ⟨e, h0⟩ | ⟨g, cap, cur, e, _⟩
 ·subst h0; exact ⟨none, 0, e⟩
 ·exact ⟨_, _, e⟩
/-- The rows of both. -/
def skf (F G : Nat → Nat) (ra c i j : Nat) : Nat := if i < ra then F (i * c + j) else G ((i - ra) * c + j)
theorem stack_rl {w8 : World} {B ra rb c na nb ka kb d : Nat} {a b s : Option Addr} {F G : Nat → Nat} (ho : w8.ownsRow B 22 1 (.slice s (ra + rb) d) (ra + rb) ((vrow ra (rvf a c ra)).toList ++ (vrow rb (rvf b c rb)).toList)) (ha : Mt w8 a na ka F) (hb : Mt w8 b nb kb G) (RA : Rt ra c na) (RB : Rt rb c nb) :
  Rl w8 s (ra + rb) (fun i => if i < ra then pc a (i * c) c else pc b ((i - ra) * c) c) (fun _ => c) (fun _ => c) (skf F G ra c) := by
 refine ⟨fun i hi => ?_, fun i hi => ?_, fun i hi => ?_⟩
 ·cases s with
  | none =>
   rcases ho.2 with ⟨_, h0⟩ | ⟨g, cap, cur, e, _⟩
   ·omega
   ·cases e
  | some x =>
   obtain ⟨g, e⟩ : ∃ g, x = ⟨g, 0, none⟩ := by
    rcases ho.2 with ⟨e, _⟩ | ⟨g, cap, cur, e, _⟩
    ·cases e
    ·cases e; exact ⟨g, rfl⟩
   subst e
   refine ⟨g, 0, rfl, ?_⟩
   rw [Nat.zero_add, ho.cellAt i (by omega)]
   by_cases h : i < ra
   ·rw [List.getElem?_append_left (by simpa [qau] using h), Array.getElem?_toList, qce _ _ _ h]
    unfold rvf
    rw [if_pos h, if_pos h]
   ·rw [List.getElem?_append_right (by simp [qau]; omega), Array.getElem?_toList]
    have e2 : i - (vrow ra (rvf a c ra)).toList.length = i - ra := by simp [qau]
    rw [e2, qce _ _ _ (by omega)]
    unfold rvf
    rw [if_pos (by omega), if_neg h]
 ·by_cases h : i < ra
  ·have := ha.piece (RA.fit h)
   simp only [if_pos h]
   exact this.congr (fun j _ => by unfold skf; rw [if_pos h])
  ·have := hb.piece (RB.fit (show i - ra < rb by omega))
   simp only [if_neg h]
   exact this.congr (fun j _ => by unfold skf; rw [if_neg h])
 ·intro e
  by_cases h : i < ra
  ·simp only [if_pos h] at e
   have := qk0 ha.nil (RA.fit h) e
   exact ⟨this, this⟩
  ·simp only [if_neg h] at e
   have := qk0 hb.nil (RB.fit (show i - ra < rb by omega)) e
   exact ⟨this, this⟩
theorem off_stf (F G : Nat → Nat) {ra rb c na nb : Nat} (RA : Rt ra c na) (RB : Rt rb c nb) (p : Nat) (hp : p < na + nb) : off (skf F G ra c) c p = stf F G na p := by
 have hc : 0 < c := by
  rcases Nat.eq_zero_or_pos c with rfl | h
  ·have h1 := RA.len
   have h2 := RB.len
   omega
  ·exact h
 have e := Nat.div_add_mod p c
 have hm := Nat.mod_lt p hc
 have hl := RA.len
 unfold off skf stf
 by_cases h : p < na
 ·have : p / c < ra := (Nat.div_lt_iff_lt_mul hc).2 (by rw [hl]; exact h)
  rw [if_pos this, if_pos h]
  congr 1
  rw [Nat.mul_comm]
  exact e
 ·have h2 : ¬ p / c < ra := fun x => h (by have := (Nat.div_lt_iff_lt_mul hc).1 x; rw [hl] at this; exact this)
  rw [if_neg h2, if_neg h]
  congr 1
  obtain ⟨q, hq⟩ : ∃ q, p / c = ra + q := ⟨p / c - ra, by omega⟩
  rw [hq] at e ⊢
  rw [Nat.add_sub_cancel_left]
  rw [Nat.mul_add, Nat.mul_comm c ra, hl, Nat.mul_comm c q] at e
  omega
/-- What Stack keeps of its variables. -/
structure StI (w wr : World) (ra ca rb cb na ka nb kb : Nat) (a b : Option Addr) : Prop where
 va : Vr wr w.heap.size (.int .i64 (ra : Int)) (.int .i64 (ca : Int)) (.slice a na ka)
 vb : Vr wr (w.heap.size + 1) (.int .i64 (rb : Int)) (.int .i64 (cb : Int)) (.slice b nb kb)
 vr : Vr wr (w.heap.size + 1 + 1) (.int .i64 0) (.int .i64 0) (.slice none 0 0)
 below : Below w.heap.size w wr
theorem StI.later {w wr w' : World} {ra ca rb cb na ka nb kb : Nat} {a b : Option Addr} (I : StI w wr ra ca rb cb na ka nb kb a b) (hb : Below wr.heap.size wr w') : StI w w' ra ca rb cb na ka nb kb a b := ⟨I.va.later hb, I.vb.later hb, I.vr.later hb, qa0 I.below hb⟩
theorem StI.grown {w wr w' : World} {ra ca rb cb na ka nb kb : Nat} {a b : Option Addr} {row : Option Nat} (I : StI w wr ra ca rb cb na ka nb kb a b) (hg : wr.grownBy w' row) (hr : ∀ k, row = some k → w.heap.size + 1 + 1 < k) : StI w w' ra ca rb cb na ka nb kb a b :=
 ⟨I.va.grown hg (fun e => by have := hr _ e; omega), I.vb.grown hg (fun e => by have := hr _ e; omega), I.vr.grown hg (fun e => by have := hr _ e; omega), I.below.grown hg I.below.size (fun k hk => by have := hr k hk; omega)⟩
theorem qk3 (w : World) (ra rb c na nb RR N ka kb : Nat) (a b : Option Addr) (F G : Nat → Nat) (ha : Mt w a na ka F) (hb : Mt w b nb kb G) (RA : Rt ra c na) (RB : Rt rb c nb) (eR : ra + rb = RR) (hR : RR ≤ 64) (eN : na + nb = N) :
  Calls Tryz.prog 83 #[mv ra c a na ka, mv rb c b nb kb] w fun e w' => ∃ g, e = .returned (.tuple #[mv RR c (some ⟨g, 0, none⟩) N N, .int .i64 0]) ∧ RowAt w' g 5 N (stf F G na) ∧ w.heap.size ≤ g ∧ Below w.heap.size w w' := by
 obtain ⟨wb, HW, HX⟩ : ∃ wb, Hid (wb = (((w.alloc (.cells #[.int .i64 (ra : Int), .int .i64 (c : Int), .slice a na ka] 24)).alloc (.cells #[.int .i64 (rb : Int), .int .i64 (c : Int), .slice b nb kb] 24)).alloc (.cells #[.int .i64 0, .int .i64 0, .slice none 0 0] 24)).alloc (.cells #[.int .i64 (ra : Int), .int .i64 (c : Int), .slice a na ka, .int .i64 (rb : Int), .int .i64 (c : Int), .slice b nb kb] 24)) ∧ Hid (Box3s w wb (ra : Int) (c : Int) (rb : Int) (c : Int) na ka nb kb a b) := ⟨_, rfl, box3s w (ra : Int) (c : Int) (rb : Int) (c : Int) na ka nb kb a b⟩
 have HRA : Hid (Rt ra c na) := RA
 have HRB : Hid (Rt rb c nb) := RB
 have ra64 := RA.r64
 have rb64 := RB.r64
 have hc64 := RA.c64
 have HER : Hid (ra + rb = RR) := eR
 have HN : Hid (RR * c = N) := by show _ = _; rw [← eN, ← RA.len, ← RB.len, ← eR, Nat.add_mul]
 have HEN : Hid (na + nb = N) := eN
 have eR' : (ra : Int) + (rb : Int) = (RR : Int) := by omega
 have wR : IntKind.i64.wrap (RR : Int) = (RR : Int) := by rw [IntKind.wrap_i64]; omega
 have HA : Hid (Mt w a na ka F) := ha
 have HBm : Hid (Mt w b nb kb G) := hb
 obtain ⟨fn, HFn⟩ : ∃ fn : Nat → Nat, Hid (stf F G na = fn) := ⟨_, rfl⟩
 rw [HFn.out]
 clear ha hb RA RB eR eN
 go_enter Tryz.func83, Tryz.ntmps83
 go_wp2_with (first
  | (go_at_call 60; rw [← HW.out]; refine (qjz _ _ _ _ _ _ _ _ _ _ _ _ HX.out.tw HRA.out.p HRB.out.p).mono ?_; rintro e w2 ⟨rfl, hb2⟩; have HB2 : Hid (Below w.heap.size w w2) := qa0 HX.out.below hb2; have HV2 : Hid (Vr w2 (w.heap.size + 1 + 1) (.int .i64 0) (.int .i64 0) (.slice none 0 0)) := HX.out.vr.later hb2; have a0 := (HX.out.va.later hb2).c0; have a1 := (HX.out.va.later hb2).c1; have b0 := (HX.out.vb.later hb2).c0; have b1 := (HX.out.vb.later hb2).c1; have HK : Hid (Vr w2 w.heap.size (.int .i64 (ra : Int)) (.int .i64 (c : Int)) (.slice a na ka) ∧ Vr w2 (w.heap.size + 1) (.int .i64 (rb : Int)) (.int .i64 (c : Int)) (.slice b nb kb)) := ⟨HX.out.va.later hb2, HX.out.vb.later hb2⟩; clear hb2)
  | (go_at_call 61; refine (qcu _ _ ⟨by omega, by omega⟩).mono ?_; rintro e w' ⟨rfl, rfl⟩))
 have HI : Hid (StI w w2.drew ra c rb c na ka nb kb a b) := StI.later ⟨HK.out.1, HK.out.2, HV2.out, HB2.out⟩ (Below.refl _ _).drew
 have HD : Hid (w2.drew.cell? ⟨w.heap.size, 0, none⟩ = some (.int .i64 (ra : Int)) ∧ w2.drew.cell? ⟨w.heap.size, 1, none⟩ = some (.int .i64 (c : Int)) ∧ w2.drew.cell? ⟨w.heap.size, 2, none⟩ = some (.slice a na ka) ∧ w2.drew.cell? ⟨w.heap.size + 1, 0, none⟩ = some (.int .i64 (rb : Int)) ∧ w2.drew.cell? ⟨w.heap.size + 1, 1, none⟩ = some (.int .i64 (c : Int)) ∧ w2.drew.cell? ⟨w.heap.size + 1, 2, none⟩ = some (.slice b nb kb)) := ⟨HI.out.va.c0, HI.out.va.c1, HI.out.va.c2, HI.out.vb.c0, HI.out.vb.c1, HI.out.vb.c2⟩
 have l2 := HV2.out.lt
 have ne0 : w.heap.size ≠ w.heap.size + 1 + 1 := by omega
 have ne1 : w.heap.size + 1 ≠ w.heap.size + 1 + 1 := by omega
 clear HW HX HK a0 a1 b0 b1
 refine qb8 (k := 9) (n := 9) (fun w' => w'.cell? ⟨w.heap.size, 0, none⟩ = some (.int .i64 (ra : Int)) ∧ w'.cell? ⟨w.heap.size, 1, none⟩ = some (.int .i64 (c : Int)) ∧ w'.cell? ⟨w.heap.size, 2, none⟩ = some (.slice a na ka) ∧ w'.cell? ⟨w.heap.size + 1, 0, none⟩ = some (.int .i64 (rb : Int)) ∧ w'.cell? ⟨w.heap.size + 1, 1, none⟩ = some (.int .i64 (c : Int)) ∧ w'.cell? ⟨w.heap.size + 1, 2, none⟩ = some (.slice b nb kb)) (by kernel_rfl) (by kernel_rfl) (by decide) (by rfl) ?_
 refine wtkq 0 ?v0 rfl (by kernel_rfl) (fun _ _ _ h => h) (by rfl) ?y0 HD.out ?z0
 case y0 => (intro w hSw; (try dsimp only at hSw); go_simp; try with_reducible rfl)
 try simp only [mz1, mz3, Act.put, mz4, mz5, mz6]
 refine wtkq 1 ?v1 rfl (by kernel_rfl) (fun _ _ _ h => h) (by rfl) ?y1 HD.out ?z1
 case y1 => (intro w hSw; (try dsimp only at hSw); go_simp; try with_reducible rfl)
 try simp only [mz1, mz2, mz3, Act.put, mz4, mz5, mz6]
 refine wtkq 2 ?v2 rfl (by kernel_rfl) (fun _ _ _ h => h) (by rfl) ?y2 HD.out ?z2
 case y2 => (intro w hSw; (try dsimp only at hSw); go_simp; try with_reducible rfl)
 try simp only [mz1, mz2, mz3, Act.put, mz4, mz5, mz6]
 refine wtkq 4 ?v4 rfl (by kernel_rfl) (fun _ _ _ h => h) (by rfl) ?y4 HD.out ?z4
 case y4 => (intro w hSw; (try dsimp only at hSw); go_simp; try with_reducible rfl)
 try simp only [mz1, mz2, mz3, Act.put, mz4, mz5, mz6]
 refine wpAnyH_ready (rs := [3]) (by kernel_rfl) (by simp) ?_
 refine AllReadyH.cons rfl (fun K hK => ?_) AllReadyH.nil
 go_simp
 refine (qeg _ ra c na ka a F (HA.out.later HI.out.below) HRA.out).mono ?_; rintro e w3 ⟨g3, rfl, hv3, hg3, hb3⟩; have HI3 : Hid (StI w w3 ra c rb c na ka nb kb a b) := HI.out.later hb3; have HK1 : Hid (w3.cell? ⟨w.heap.size, 0, none⟩ = some (.int .i64 (ra : Int)) ∧ w3.cell? ⟨w.heap.size, 1, none⟩ = some (.int .i64 (c : Int)) ∧ w3.cell? ⟨w.heap.size, 2, none⟩ = some (.slice a na ka) ∧ w3.cell? ⟨w.heap.size + 1, 0, none⟩ = some (.int .i64 (rb : Int)) ∧ w3.cell? ⟨w.heap.size + 1, 1, none⟩ = some (.int .i64 (c : Int)) ∧ w3.cell? ⟨w.heap.size + 1, 2, none⟩ = some (.slice b nb kb)) := ⟨HI3.out.va.c0, HI3.out.va.c1, HI3.out.va.c2, HI3.out.vb.c0, HI3.out.vb.c1, HI3.out.vb.c2⟩; have HL0 : Hid (VAt w3 g3 ra (rvf a c ra)) := hv3; have hg3' : w2.heap.size ≤ g3 := hg3; clear hv3 hg3 hb3; dsimp only
 refine hK.out _ _ HK1.out (fun _ => ?_)
 clear hK K
 try simp only [mz1, mz2, mz3, Act.put, mz4, mz5, mz6]
 refine wpAnyH_ready (rs := [5]) (by kernel_rfl) (by simp) ?_
 refine AllReadyH.cons rfl (fun K hK => ?_) AllReadyH.nil
 go_simp
 refine (qeg _ rb c nb kb b G (HBm.out.later HI3.out.below) HRB.out).mono ?_; rintro e w4 ⟨g4, rfl, hv4, hg4, hb4⟩; have HI4 : Hid (StI w w4 ra c rb c na ka nb kb a b) := HI3.out.later hb4; have HK2 : Hid (w4.cell? ⟨w.heap.size, 0, none⟩ = some (.int .i64 (ra : Int)) ∧ w4.cell? ⟨w.heap.size, 1, none⟩ = some (.int .i64 (c : Int)) ∧ w4.cell? ⟨w.heap.size, 2, none⟩ = some (.slice a na ka) ∧ w4.cell? ⟨w.heap.size + 1, 0, none⟩ = some (.int .i64 (rb : Int)) ∧ w4.cell? ⟨w.heap.size + 1, 1, none⟩ = some (.int .i64 (c : Int)) ∧ w4.cell? ⟨w.heap.size + 1, 2, none⟩ = some (.slice b nb kb)) := ⟨HI4.out.va.c0, HI4.out.va.c1, HI4.out.va.c2, HI4.out.vb.c0, HI4.out.vb.c1, HI4.out.vb.c2⟩; have HL3 : Hid (VAt w4 g3 ra (rvf a c ra)) := HL0.out.later hb4; have HL4 : Hid (VAt w4 g4 rb (rvf b c rb)) := hv4; clear hv4 hg4 hb4; dsimp only
 refine hK.out _ _ HK2.out (fun _ => ?_)
 clear hK K
 try simp only [mz1, mz2, mz3, Act.put, mz4, mz5, mz6]
 refine wpAnyH_ready (rs := [6]) (by kernel_rfl) (by simp) ?_
 refine AllReadyH.cons rfl (fun K hK => ?_) AllReadyH.nil
 refine qdb rfl _ _ rfl w2.heap.size ra (.slice (some ⟨g3, 0, none⟩) ra ra) (vrow ra (rvf a c ra)).toList rfl (HL3.out.own hg3' (by unfold maxLen; omega)) g4 rb rb (rvf b c rb) rfl HL4.out (fun i _ => rvf_one b c rb i) (by omega) (Nat.le_trans hg3' (Nat.le_of_lt HL3.out.lt)) ?_; intro v6 w6 ho6 hg6; have HI6 : Hid (StI w w6 ra c rb c na ka nb kb a b) := HI4.out.grown hg6 (fun k hk => by { cases hk; show _ < g3; omega }); have HK4 : Hid (w6.cell? ⟨w.heap.size, 0, none⟩ = some (.int .i64 (ra : Int)) ∧ w6.cell? ⟨w.heap.size, 1, none⟩ = some (.int .i64 (c : Int)) ∧ w6.cell? ⟨w.heap.size, 2, none⟩ = some (.slice a na ka) ∧ w6.cell? ⟨w.heap.size + 1, 0, none⟩ = some (.int .i64 (rb : Int)) ∧ w6.cell? ⟨w.heap.size + 1, 1, none⟩ = some (.int .i64 (c : Int)) ∧ w6.cell? ⟨w.heap.size + 1, 2, none⟩ = some (.slice b nb kb)) := ⟨HI6.out.va.c0, HI6.out.va.c1, HI6.out.va.c2, HI6.out.vb.c0, HI6.out.vb.c1, HI6.out.vb.c2⟩; obtain ⟨s6, d6, e6⟩ := qic ho6; subst e6; have HRl : Hid (Rl w6 s6 RR (fun i => if i < ra then pc a (i * c) c else pc b ((i - ra) * c) c) (fun _ => c) (fun _ => c) (skf F G ra c)) := by { show Rl _ _ _ _ _ _ _; rw [← HER.out]; exact stack_rl ho6 (HA.out.later HI6.out.below) (HBm.out.later HI6.out.below) HRA.out HRB.out }; rw [HER.out]; clear ho6 hg6
 refine hK.out _ _ HK4.out (fun _ => ?_)
 clear hK K
 try simp only [mz1, mz2, mz3, Act.put, mz4, mz5, mz6]
 refine wpAnyH_ready (rs := [7]) (by kernel_rfl) (by simp) ?_
 refine AllReadyH.cons rfl (fun K hK => ?_) AllReadyH.nil
 go_simp
 refine (qib _ RR c d6 N s6 (fun i => if i < ra then pc a (i * c) c else pc b ((i - ra) * c) c) (fun _ => c) (fun _ => c) (skf F G ra c) (HRl.out) (fun _ _ => rfl) hR hc64 HN).mono ?_; rintro e w7 ⟨g7, rfl, hr7, hg7, hb7⟩; have HI7 : Hid (StI w w7 ra c rb c na ka nb kb a b) := HI6.out.later hb7; have HK5 : Hid (w7.cell? ⟨w.heap.size, 0, none⟩ = some (.int .i64 (ra : Int)) ∧ w7.cell? ⟨w.heap.size, 1, none⟩ = some (.int .i64 (c : Int)) ∧ w7.cell? ⟨w.heap.size, 2, none⟩ = some (.slice a na ka) ∧ w7.cell? ⟨w.heap.size + 1, 0, none⟩ = some (.int .i64 (rb : Int)) ∧ w7.cell? ⟨w.heap.size + 1, 1, none⟩ = some (.int .i64 (c : Int)) ∧ w7.cell? ⟨w.heap.size + 1, 2, none⟩ = some (.slice b nb kb)) := ⟨HI7.out.va.c0, HI7.out.va.c1, HI7.out.va.c2, HI7.out.vb.c0, HI7.out.vb.c1, HI7.out.vb.c2⟩; have HR7 : Hid (RowAt w7 g7 5 N fn) := hr7.congr (fun p hp => by { rw [off_stf F G HRA.out HRB.out p (by rw [HEN.out]; exact hp), HFn.out] }); have hg7' : w6.heap.size ≤ g7 := hg7; clear hr7 hg7 hb7; dsimp only
 refine hK.out _ _ HK5.out (fun _ => ?_)
 clear hK K
 try simp only [mz1, mz2, mz3, Act.put, mz4, mz5, mz6]
 refine wpAnyH_ready (rs := [8]) (by kernel_rfl) (by simp) ?_
 refine AllReadyH.cons rfl (fun K hK => ?_) AllReadyH.nil
 refine qap rfl _ _ rfl (w.heap.size + 1 + 1) _ _ _ (.int .i64 (RR : Int)) (.int .i64 (c : Int)) (.slice (some ⟨g7, 0, none⟩) N N) rfl rfl HI7.out.vr rfl rfl rfl ?_; intro w9 HV9 HG9; have HK6 : Hid (w9.cell? ⟨w.heap.size, 0, none⟩ = some (.int .i64 (ra : Int)) ∧ w9.cell? ⟨w.heap.size, 1, none⟩ = some (.int .i64 (c : Int)) ∧ w9.cell? ⟨w.heap.size, 2, none⟩ = some (.slice a na ka) ∧ w9.cell? ⟨w.heap.size + 1, 0, none⟩ = some (.int .i64 (rb : Int)) ∧ w9.cell? ⟨w.heap.size + 1, 1, none⟩ = some (.int .i64 (c : Int)) ∧ w9.cell? ⟨w.heap.size + 1, 2, none⟩ = some (.slice b nb kb)) := ⟨(HI7.out.va.kept HG9.out ne0).c0, (HI7.out.va.kept HG9.out ne0).c1, (HI7.out.va.kept HG9.out ne0).c2, (HI7.out.vb.kept HG9.out ne1).c0, (HI7.out.vb.kept HG9.out ne1).c1, (HI7.out.vb.kept HG9.out ne1).c2⟩
 refine hK.out _ _ HK6.out (fun _ => ?_)
 clear hK K
 try simp only [mz1, mz2, mz3, Act.put]
 refine wpAnyH_done (by kernel_rfl) ?_ _
 refine qdy rfl (fun K hK => ?_)
 go_simp
 refine hK.out _ _ ?_
 clear hK K
 try simp only [mz1, mz2, mz3, Act.put, mz4, mz5, mz6]
 go_wp2
 have e0 := HV9.out.c0
 have e1 := HV9.out.c1
 have e2 := HV9.out.c2
 refine bodyPost_ret (v := .tuple #[mv RR c (some ⟨g7, 0, none⟩) N N, .int .i64 0]) (by simp [results, Tryz.results83, go_sem, e0, e1, e2, mv]) rfl ?_
 have l6 := HI6.out.vr.lt
 exact ⟨g7, rfl, HR7.out.kept HG9.out (by omega), by omega, qa3 HI7.out.below HG9.out (by omega)⟩
end Go.Proofs.YtmgfeepnkahkmaaGreat
