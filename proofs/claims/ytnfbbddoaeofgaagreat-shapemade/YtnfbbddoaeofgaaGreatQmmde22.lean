/-
  Contract of the generators' reference: Vandermonde.
  Contracts of the generators' reference: Vandermonde's error, top.
  Contracts of the generators' reference: Systematic, Check.
  Contract of the generators' reference: Check.
-/
import Derived.Test.YtnfbbddoaeofgaaGreatQmmde00
import Derived.Test.YtnfbbddoaeofgaaGreatQmmde13
import Derived.Test.YtnfbbddoaeofgaaGreatQmmde14
import Derived.Test.YtnfbbddoaeofgaaGreatQmmde16
import Derived.Test.YtnfbbddoaeofgaaGreatQmmde21
set_option maxRecDepth 100000
set_option maxHeartbeats 16000000
namespace Go.Proofs.YtnfbbddoaeofgaaGreat
open Go.RowKit
/-- The first q entries are written. -/
def upt (F : Nat → Nat) (q p : Nat) : Nat := if p < q then F p else 0
theorem qfb (F : Nat → Nat) (q t : Nat) : (if t = q then F q else upt F q t) = upt F (q + 1) t := by
 unfold upt
 by_cases e : t = q
 ·subst e; rw [if_pos rfl, if_pos (by omega)]
 ·rw [if_neg e]
  by_cases h : t < q
  ·rw [if_pos h, if_pos (by omega)]
  ·rw [if_neg h, if_neg (by omega)]
theorem qfc (F : Nat → Nat) {q t : Nat} (h : t < q) : upt F q t = F t := if_pos h
/-- The entries of Vandermonde's matrix with c columns. -/
def vdf (c p : Nat) : Nat := fpow (p / c) (p % c)
theorem qhn (c p : Nat) : vdf c p < 256 := qba _ _
theorem qk4 {c i j : Nat} (hj : j < c) : vdf c (i * c + j) = fpow i j := by unfold vdf; rw [dm1 hj, dm2 hj]
theorem pwv_nat {a j : Nat} (ha : a < 256) (hj : j < 255) : pwv a (j : Int) = fpow a j := by
 by_cases h0 : a = 0
 ·subst h0
  cases j with
  | zero => rfl
  | succ j =>
   have : fpow 0 (j + 1) = 0 := by show fm _ _ = 0; first | exact qad _ | exact qaa _
   rw [this]
   unfold pwv
   rw [if_neg (by omega), if_pos rfl]
 ·rw [qfw a _ ha h0]
  congr 1
  unfold inb
  omega
/-- A matrix under way in its variable. -/
structure ZInv (w w1 wr : World) (g r c m : Nat) (f : Nat → Nat) : Prop where
 row : RowAt wr g 5 m f
 vm : Vr wr w1.heap.size (.int .i64 (r : Int)) (.int .i64 (c : Int)) (.slice (some ⟨g, 0, none⟩) m m)
 vr : Vr wr w.heap.size (.int .i64 0) (.int .i64 0) (.slice none 0 0)
 below : Below w.heap.size w wr
 lo : w.heap.size < g
 hi : g < w1.heap.size
theorem ZInv.later {w w1 wr w' : World} {g r c m : Nat} {f : Nat → Nat} (I : ZInv w w1 wr g r c m f) (hb : Below wr.heap.size wr w') : ZInv w w1 w' g r c m f := ⟨I.row.later hb, I.vm.later hb, I.vr.later hb, qa1 I.below hb, I.lo, I.hi⟩
theorem ZInv.congr {w w1 wr : World} {g r c m : Nat} {f f' : Nat → Nat} (I : ZInv w w1 wr g r c m f) (e : ∀ i, i < m → f i = f' i) : ZInv w w1 wr g r c m f' := ⟨I.row.congr e, I.vm, I.vr, I.below, I.lo, I.hi⟩
theorem ZInv.set {w w1 wr : World} {g r c m p x : Nat} {f : Nat → Nat} (I : ZInv w w1 wr g r c m f) : ZInv w w1 (wr.setCell ⟨g, p, none⟩ (.int .u8 (x : Int))) g r c m (fun i => if i = p then x else f i) :=
 ⟨I.row.set p x, I.vm.kept (qa3 _ _ _ _) (by have := I.hi; omega), I.vr.kept (qa3 _ _ _ _) (by have := I.lo; omega), qa2 I.below (qa3 _ _ _ _) (by have := I.lo; omega), I.lo, I.hi⟩
theorem rvdm_ok (w : World) (r c n : Nat) (hr : r ≤ 64) (hc : c ≤ 64) (HN : Hid (r * c = n)) :
  Calls Tryz.prog 75 #[.int .i64 (r : Int), .int .i64 (c : Int)] w fun e w' => ∃ g, e = .returned (.tuple #[mv r c (some ⟨g, 0, none⟩) n n, .int .i64 0]) ∧ RowAt w' g 5 n (vdf c) ∧ w.heap.size ≤ g ∧ Below w.heap.size w w' := by
 have HRt : Hid (Rt r c n) := ⟨hr, hc, HN.out⟩
 have hm : n ≤ 4096 := HRt.out.le
 go_enter Tryz.func75, Tryz.ntmps75
 go_wp2_with (first
  | (go_at_call 115; refine (qhi _ r c n hr hc HN).mono ?_; rintro e w1 ⟨g, rfl, hr1, hg1, hb1⟩; have HR : Hid (RowAt w1 g 5 n (fun _ => 0)) := hr1; have hg2 : w.heap.size + 1 ≤ g := (by { have := hg1; simpa using this }); have HB : Hid (Below w.heap.size w w1) := qa1 (qa0 _ _) hb1; have HV : Hid (Vr w1 w.heap.size (.int .i64 0) (.int .i64 0) (.slice none 0 0)) := (Vr.new w _ _ _).later hb1; clear hr1 hg1 hb1))
 have HI0 : Hid (ZInv w w1 (w1.alloc (.cells #[.int .i64 (r : Int), .int .i64 (c : Int), .slice (some ⟨g, 0, none⟩) n n] 24)) g r c n (upt (vdf c) 0)) := ⟨(HR.out.later (qa0 _ _)).congr (fun i _ => (if_neg (by omega)).symm), Vr.new w1 _ _ _, HV.out.later (qa0 _ _), qa1 HB.out (qa0 _ _), by omega, HR.out.lt⟩
 clear HR HB HV
 go_loopw [8] (fun si wr => ∃ i : Nat, i ≤ r ∧ si = .int .i64 (i : Int) ∧ ZInv w w1 wr g r c n (upt (vdf c) (i * c))) (fun si _ => r - (intOf si).toNat)
 case atStart => exact ⟨0, by omega, rfl, HI0.out.congr (fun _ _ => by rw [Nat.zero_mul])⟩
 case round =>
  clear HI0
  obtain ⟨i, hi, rfl, I⟩ := hrel
  have HI : Hid (ZInv w w1 wr g r c n (upt (vdf c) (i * c))) := I
  have c0 := I.vm.c0
  have c1 := I.vm.c1
  have c2 := I.vm.c2
  clear I
  by_cases hlt : i < r
  ·go_wp2
   go_loopw [9] (fun sj wr => ∃ j : Nat, j ≤ c ∧ sj = .int .i64 (j : Int) ∧ ZInv w w1 wr g r c n (upt (vdf c) (i * c + j))) (fun sj _ => c - (intOf sj).toNat)
   case atStart => exact ⟨0, by omega, rfl, HI.out⟩
   case round =>
    clear HI c0 c1 c2
    obtain ⟨j, hj, rfl, I⟩ := hrel
    have HI : Hid (ZInv w w1 wr g r c n (upt (vdf c) (i * c + j))) := I
    have c0 := I.vm.c0
    have c1 := I.vm.c1
    have c2 := I.vm.c2
    by_cases hlj : j < c
    ·obtain ⟨P, HP⟩ : ∃ x, Hid (i * c + j = x) := ⟨_, rfl⟩
     have hpn : P < n := by rw [← HP.out]; exact HRt.out.at hlt hlj
     have hd := I.row.cell P hpn
     have hf := I.row.free P
     obtain ⟨x, HX⟩ : ∃ x, Hid (fpow i j = x) := ⟨_, rfl⟩
     obtain ⟨E, HE⟩ : ∃ x, Hid (pwe i (j : Int) = x) := ⟨_, rfl⟩
     have HPow : Hid (∀ w, Calls Tryz.prog 116 #[.int .u8 (i : Int), .int .i64 (j : Int)] w fun e w' => e = .returned (.tuple #[.int .u8 (x : Int), .int .i64 E]) ∧ w = w') := fun w => (rpow_any i (j : Int) w (by omega) ⟨by omega, by omega⟩).mono fun _ _ h => ⟨by rw [h.1, pwv_nat (by omega) (by omega), HX.out, HE.out], h.2.symm⟩
     have e1 : ((i : Int) * (c : Int)) = ((i * c : Nat) : Int) := by simp
     have hmp : i * c ≤ P := by rw [← HP.out]; omega
     have w1' : IntKind.i64.wrap ((i : Int) * (c : Int)) = (i : Int) * (c : Int) := by rw [e1, IntKind.wrap_i64]; omega
     have w2' : IntKind.i64.wrap ((i : Int) * (c : Int) + (j : Int)) = (P : Int) := by rw [e1, IntKind.wrap_i64]; have := HP.out; omega
     have w3' : IntKind.u8.wrap (i : Int) = (i : Int) := by rw [IntKind.wrap_u8]; omega
     have p0 : (0 : Int) ≤ (P : Int) := by omega
     have p1 : (P : Int) < (n : Int) := by omega
     have HN1 : Hid (ZInv w w1 (wr.drew.setCell ⟨g, P, none⟩ (.int .u8 (x : Int))) g r c n (upt (vdf c) (i * c + (j + 1)))) := ((I.later (Below.refl _ _).drew).set (p := P) (x := x)).congr (fun t _ => by
      rw [← HX.out, ← HP.out, ← qk4 hlj]
      exact qfb (vdf c) (i * c + j) t)
     have HD : Hid (wr.drew.cell? ⟨w1.heap.size, 1, none⟩ = some (.int .i64 (c : Int)) ∧ wr.drew.cell? ⟨w1.heap.size, 2, none⟩ = some (.slice (some ⟨g, 0, none⟩) n n)) := ⟨c1, c2⟩
     have HD2 : Hid ((wr.drew.setCell ⟨g, P, none⟩ (.int .u8 (x : Int))).cell? ⟨w1.heap.size, 1, none⟩ = some (.int .i64 (c : Int)) ∧ (wr.drew.setCell ⟨g, P, none⟩ (.int .u8 (x : Int))).cell? ⟨w1.heap.size, 2, none⟩ = some (.slice (some ⟨g, 0, none⟩) n n)) := ⟨HN1.out.vm.c1, HN1.out.vm.c2⟩
     clear I e1
     go_wp2
     refine wp_region_held (S := fun w' => w'.cell? ⟨w1.heap.size, 1, none⟩ = some (.int .i64 (c : Int)) ∧ w'.cell? ⟨w1.heap.size, 2, none⟩ = some (.slice (some ⟨g, 0, none⟩) n n)) (by kernel_rfl) ?_
     change wpAnyH _ _ _ _ _ _ _ _ wr.drew
     refine wtkq 0 ?va0 rfl (by kernel_rfl) (fun _ _ _ h => h) (by rfl) ?ya0 HD.out ?za0
     case ya0 => (intro w hSw; (try dsimp only at hSw); go_simp; try with_reducible rfl)
     try simp only [mz1, mz3, Act.put, mz4, mz5, mz6]
     refine wtkq 1 ?va1 rfl (by kernel_rfl) (fun _ _ _ h => h) (by rfl) ?ya1 HD.out ?za1
     case ya1 => (intro w hSw; (try dsimp only at hSw); go_simp; try with_reducible rfl)
     try simp only [mz1, mz2, mz3, Act.put, mz4, mz5, mz6]
     refine wtkq 2 ?va2 rfl (by kernel_rfl) (fun _ _ _ h => h) (by rfl) ?ya2 HD.out ?za2
     case ya2 => (intro w hSw; (try dsimp only at hSw); go_simp; try with_reducible rfl)
     try simp only [mz1, mz2, mz3, Act.put, mz4, mz5, mz6]
     refine wtkq 3 ?va3 rfl (by kernel_rfl) (fun _ _ _ h => h) (by rfl) ?ya3 HD.out ?za3
     case ya3 => (intro w hSw; (try dsimp only at hSw); go_simp; try with_reducible rfl)
     try simp only [mz1, mz2, mz3, Act.put, mz4, mz5, mz6]
     refine wtkq 4 ?va4 rfl (by kernel_rfl) (fun _ _ _ h => h) (by rfl) ?ya4 HD.out ?za4
     case ya4 => (intro w hSw; (try dsimp only at hSw); go_simp; try with_reducible rfl)
     try simp only [mz1, mz2, mz3, Act.put, mz4, mz5, mz6]
     refine wtkq 5 ?va5 rfl (by kernel_rfl) (fun _ _ _ h => h) (by rfl) ?ya5 HD.out ?za5
     case ya5 => (intro w hSw; (try dsimp only at hSw); go_simp; try with_reducible rfl)
     try simp only [mz1, mz2, mz3, Act.put, mz4, mz5, mz6]
     refine wtkq 6 ?va6 rfl (by kernel_rfl) (fun _ _ _ h => h) (by rfl) ?ya6 HD.out ?za6
     case ya6 => (intro w hSw; (try dsimp only at hSw); go_simp; try with_reducible rfl)
     try simp only [mz1, mz2, mz3, Act.put, mz4, mz5, mz6]
     refine wtkq 7 ?va7 rfl (by kernel_rfl) (fun _ _ _ h => h) (by rfl) ?ya7 HD.out ?za7
     case ya7 => (intro w hSw; (try dsimp only at hSw); go_simp; try with_reducible rfl)
     try simp only [mz1, mz2, mz3, Act.put, mz4, mz5, mz6]
     refine wtkq 8 ?va8 rfl (by kernel_rfl) (fun _ _ _ h => h) (by rfl) ?ya8 HD.out ?za8
     case ya8 => (intro w hSw; (try dsimp only at hSw); go_simp; try with_reducible rfl)
     try simp only [mz1, mz2, mz3, Act.put, mz4, mz5, mz6]
     refine wtkq 9 ?va9 rfl (by kernel_rfl) (fun _ _ _ h => h) (by rfl) ?ya9 HD.out ?za9
     case ya9 => (intro w hSw; (try dsimp only at hSw); go_simp; try with_reducible rfl)
     try simp only [mz1, mz2, mz3, Act.put, mz4, mz5, mz6]
     refine wtkq 10 ?va10 rfl (by kernel_rfl) (fun _ _ _ h => h) (by rfl) ?ya10 HD.out ?za10
     case ya10 => (intro w hSw; (try dsimp only at hSw); go_simp; try with_reducible rfl)
     try simp only [mz1, mz2, mz3, Act.put, mz4, mz5, mz6]
     refine wpAnyH_ready (rs := [11]) (by kernel_rfl) (by simp) ?_
     refine AllReadyH.cons rfl (fun K hK => ?_) AllReadyH.nil
     go_simp
     refine (HPow.out _).mono ?_; rintro e w' ⟨rfl, rfl⟩
     refine hK.out _ _ HD.out (fun _ => ?_)
     clear hK K
     try simp only [mz1, mz2, mz3, Act.put, mz4, mz5, mz6]
     refine wtkq 12 ?va12 rfl (by kernel_rfl) (fun _ _ _ h => h) (by rfl) ?ya12 HD.out ?za12
     case ya12 => (intro w hSw; (try dsimp only at hSw); go_simp; try with_reducible rfl)
     try simp only [mz1, mz2, mz3, Act.put, mz4, mz5, mz6]
     refine wtkq 13 ?va13 rfl (by kernel_rfl) (fun _ _ _ h => h) (by rfl) ?ya13 HD.out ?za13
     case ya13 => (intro w hSw; (try dsimp only at hSw); go_simp; try with_reducible rfl)
     try simp only [mz1, mz2, mz3, Act.put, mz4, mz5, mz6]
     refine wtkq 14 ?va14 rfl (by kernel_rfl) (fun _ _ _ h => h) (by rfl) ?ya14 HD.out ?za14
     case ya14 => (intro w hSw; (try dsimp only at hSw); go_simp; try with_reducible rfl)
     try simp only [mz1, mz2, mz3, Act.put, mz4, mz5, mz6]
     refine wtkq 15 ?va15 rfl (by kernel_rfl) (fun _ _ _ h => h) (by rfl) ?ya15 HD.out ?za15
     case ya15 => (intro w hSw; (try dsimp only at hSw); go_simp; try with_reducible rfl)
     try simp only [mz1, mz2, mz3, Act.put, mz4, mz5, mz6]
     refine wpAnyH_ready (rs := [16]) (by kernel_rfl) (by simp) ?_
     refine AllReadyH.cons rfl (fun K hK => ?_) AllReadyH.nil
     go_simp
     refine hK.out _ _ HD2.out (fun _ => ?_)
     clear hK K
     try simp only [mz1, mz2, mz3, Act.put]
     refine wpAnyH_done (by kernel_rfl) ?_ _
     go_wp2
     exact ⟨⟨j + 1, by omega, by go_num, HN1.out⟩, by simp [intOf]; omega⟩
    ·obtain rfl : j = c := by omega
     clear I
     go_wp2
     exact ⟨⟨i + 1, by omega, by go_num, HI.out.congr (fun t _ => by rw [Nat.add_mul, Nat.one_mul])⟩, by simp [intOf]; omega⟩
  ·obtain rfl : i = r := by omega
   go_wp2_with (refine qa5 rfl _ _ rfl w.heap.size _ _ _ (.int .i64 (i : Int)) (.int .i64 (c : Int)) (.slice (some ⟨g, 0, none⟩) n n) rfl rfl HI.out.vr rfl rfl rfl ?_; intro w3 HV3 HG3)
   have d0 := HV3.out.c0
   have d1 := HV3.out.c1
   have d2 := HV3.out.c2
   refine bodyPost_ret (v := .tuple #[mv i c (some ⟨g, 0, none⟩) n n, .int .i64 0]) (by simp [results, Tryz.results75, go_sem, d0, d1, d2, mv]) rfl ?_
   exact ⟨g, rfl, (HI.out.row.kept HG3.out (by have := HI.out.lo; omega)).congr (fun t ht => qfc _ (by rw [HN.out]; exact ht)), by have := HI.out.lo; omega, qa2 HI.out.below HG3.out (Nat.le_refl _)⟩
open Go.RowKit
theorem qk5 {w w' : World} (h : Below w.drew.heap.size w.drew w') : Below w.heap.size w w' := qa1 (Below.refl _ _).drew h
theorem qk6 {w : World} {base n d : Nat} {s : Option Addr} {f : Nat → Nat} (h : w.ownsRow base 5 1 (.slice s n d) n (row n f).toList) (hf : ∀ i, i < n → f i < 256) : Mt w s n d f := by
 refine ⟨qc7 h hf, ?_, qbi h⟩
 rcases h.2 with ⟨e, h0⟩ | ⟨g, cap, cur, e, _, _, hc, _⟩
 ·cases e; omega
 ·cases e; omega
def Iv6 (lo hi : Nat) (s : Option Addr) : Prop := ∀ x, s = some x → lo ≤ x.block ∧ x.block < hi
theorem qk7 {w : World} {B n d : Nat} {s : Option Addr} {ls : List Value} (h : w.ownsRow B 5 1 (.slice s n d) n ls) : Iv6 B w.heap.size s := by
 intro x hx
 rcases h.2 with ⟨e, _⟩ | ⟨g, cap, cur, e, hb, hg, _⟩
 ·cases e; cases hx
 ·cases e; cases hx; exact ⟨hb, lt_of_block hg⟩
theorem rtop_ok (w : World) (r c n k t N : Nat) (a : Option Addr) (F : Nat → Nat) (ha : Mt w a n k F) (R : Rt r c n) (ht : t ≤ r) (HN : Hid (t * c = N)) :
  Calls Tryz.prog 118 #[mv r c a n k, .int .i64 (t : Int)] w fun e w' => ∃ s d, e = .returned (mv t c s N d) ∧ Mt w' s N d F ∧ Below w.heap.size w w' := by
 obtain ⟨wb, HW, HX⟩ : ∃ wb, Hid (wb = (w.alloc (.cells #[.int .i64 (r : Int), .int .i64 (c : Int), .slice a n k] 24)).alloc (.cells #[.int .i64 0, .int .i64 0, .slice none 0 0] 24)) ∧ Hid (Box2 w wb r c n k a) := ⟨_, rfl, box2 w r c n k a⟩
 have hNn : N ≤ n := by rw [← HN.out, ← R.len]; exact Nat.mul_le_mul_right c ht
 have hn := R.le
 have hk := ha.room
 have HA : Hid (Mt w a n k F) := ha
 have e1 : ((t : Int) * (c : Int)) = (N : Int) := by rw [← HN.out]; simp
 have w1' : IntKind.i64.wrap ((t : Int) * (c : Int)) = (N : Int) := by rw [e1, IntKind.wrap_i64]; omega
 have v0 := HX.out.va.c0
 have v1 := HX.out.va.c1
 have v2 := HX.out.va.c2
 have HCp : Hid (∀ w', Below w.heap.size w w' → Calls Tryz.prog 101 #[.slice a N k] w' fun e w'' => ∃ v, e = .returned v ∧ w''.ownsRow w'.heap.size 5 1 v N (row N F).toList ∧ Below w'.heap.size w' w'') := fun w' h' => qcv w' a N k F ⟨fun i hi => (HA.out.later h').sl.1 i (by omega), fun i hi => (HA.out.later h').sl.2 i (by omega)⟩ (by omega) (fun e => ⟨by have := (HA.out.nil e).1; omega, (HA.out.nil e).2⟩)
 have hwb : w.heap.size + 1 < wb.heap.size := HX.out.vr.lt
 have hNk : N ≤ k := by omega
 clear ha R e1
 cases a with
 | none =>
  obtain ⟨hn0, hk0⟩ := HA.out.nil rfl
  subst hn0
  subst hk0
  obtain rfl : N = 0 := by omega
  have HD : Hid (wb.drew.cell? ⟨w.heap.size, 1, none⟩ = some (.int .i64 (c : Int)) ∧ wb.drew.cell? ⟨w.heap.size, 2, none⟩ = some (.slice none 0 0)) := by rw [HW.out]; rw [HW.out] at v1 v2; exact ⟨v1, v2⟩
  go_enter Tryz.func118, Tryz.ntmps118
  go_wp2
  refine wp_region_held (S := fun w' => w'.cell? ⟨w.heap.size, 1, none⟩ = some (.int .i64 (c : Int)) ∧ w'.cell? ⟨w.heap.size, 2, none⟩ = some (.slice none 0 0)) (by kernel_rfl) ?_
  change wpAnyH _ _ _ _ _ _ _ _ (World.drew _)
  rw [← HW.out]
  refine wtkq 0 ?va0 rfl (by kernel_rfl) (fun _ _ _ h => h) (by rfl) ?ya0 HD.out ?za0
  case ya0 => (intro w hSw; (try dsimp only at hSw); go_simp; try with_reducible rfl)
  try simp only [mz1, mz3, Act.put, mz4, mz5, mz6]
  refine wtkq 1 ?va1 rfl (by kernel_rfl) (fun _ _ _ h => h) (by rfl) ?ya1 HD.out ?za1
  case ya1 => (intro w hSw; (try dsimp only at hSw); go_simp; try with_reducible rfl)
  try simp only [mz1, mz2, mz3, Act.put, mz4, mz5, mz6]
  refine wtkq 2 ?va2 rfl (by kernel_rfl) (fun _ _ _ h => h) (by rfl) ?ya2 HD.out ?za2
  case ya2 => (intro w hSw; (try dsimp only at hSw); go_simp; try with_reducible rfl)
  try simp only [mz1, mz2, mz3, Act.put, mz4, mz5, mz6]
  refine wtkq 3 ?va3 rfl (by kernel_rfl) (fun _ _ _ h => h) (by rfl) ?ya3 HD.out ?za3
  case ya3 => (intro w hSw; (try dsimp only at hSw); go_simp; try with_reducible rfl)
  try simp only [mz1, mz2, mz3, Act.put, mz4, mz5, mz6]
  refine wtkq 4 ?va4 rfl (by kernel_rfl) (fun _ _ _ h => h) (by rfl) ?ya4 HD.out ?za4
  case ya4 => (intro w hSw; (try dsimp only at hSw); go_simp; try with_reducible rfl)
  try simp only [mz1, mz2, mz3, Act.put, mz4, mz5, mz6]
  refine wtkq 5 ?va5 rfl (by kernel_rfl) (fun _ _ _ h => h) (by rfl) ?ya5 HD.out ?za5
  case ya5 => (intro w hSw; (try dsimp only at hSw); go_simp; try with_reducible rfl)
  try simp only [mz1, mz2, mz3, Act.put, mz4, mz5, mz6]
  refine wtkq 6 ?va6 rfl (by kernel_rfl) (fun _ _ _ h => h) (by rfl) ?ya6 HD.out ?za6
  case ya6 => (intro w hSw; (try dsimp only at hSw); go_simp; try with_reducible rfl)
  try simp only [mz1, mz2, mz3, Act.put, mz4, mz5, mz6]
  refine wtkq 7 ?va7 rfl (by kernel_rfl) (fun _ _ _ h => h) (by rfl) ?ya7 HD.out ?za7
  case ya7 => (intro w hSw; (try dsimp only at hSw); go_simp; try with_reducible rfl)
  try simp only [mz1, mz2, mz3, Act.put, mz4, mz5, mz6]
  refine wtkq 8 ?va8 rfl (by kernel_rfl) (fun _ _ _ h => h) (by rfl) ?ya8 HD.out ?za8
  case ya8 => (intro w hSw; (try dsimp only at hSw); go_simp; try with_reducible rfl)
  try simp only [mz1, mz2, mz3, Act.put, mz4, mz5, mz6]
  refine wtkq 9 ?va9 rfl (by kernel_rfl) (fun _ _ _ h => h) (by rfl) ?ya9 HD.out ?za9
  case ya9 => (intro w hSw; (try dsimp only at hSw); go_simp; try with_reducible rfl)
  try simp only [mz1, mz2, mz3, Act.put, mz4, mz5, mz6]
  refine wpAnyH_ready (rs := [10]) (by kernel_rfl) (by simp) ?_
  refine AllReadyH.cons rfl (fun K hK => ?_) AllReadyH.nil
  go_simp
  refine (HCp.out _ (HX.out.below.drew)).mono ?_
  rintro e w1 ⟨v, rfl, ho, hb0⟩
  obtain ⟨s, d, ed, _, _⟩ := qap ho
  subst ed
  have hb1 := qk5 hb0
  have HO : Hid (Mt w1 s 0 d F) := qk6 ho (fun i hi => HA.out.sl.1 i (by omega))
  have HB1 : Hid (Below w.heap.size w w1) := qa1 HX.out.below hb1
  have HV1 : Hid (Vr w1 (w.heap.size + 1) (.int .i64 0) (.int .i64 0) (.slice none 0 0)) := HX.out.vr.later hb1
  have HVa1 := HX.out.va.later hb1
  have HD1 : Hid (w1.cell? ⟨w.heap.size, 1, none⟩ = some (.int .i64 (c : Int)) ∧ w1.cell? ⟨w.heap.size, 2, none⟩ = some (.slice none 0 0)) := ⟨HVa1.c1, HVa1.c2⟩
  have HOff : Hid (Iv6 wb.heap.size w1.heap.size s) := qk7 ho
  clear ho hb0 hb1
  refine hK.out _ _ HD1.out (fun _ => ?_)
  clear hK K
  try simp only [mz1, mz2, mz3, Act.put, mz4, mz5, mz6]
  refine wtkq 11 ?va11 rfl (by kernel_rfl) (fun _ _ _ h => h) (by rfl) ?ya11 HD1.out ?za11
  case ya11 => (intro w hSw; (try dsimp only at hSw); go_simp; try with_reducible rfl)
  try simp only [mz1, mz2, mz3, Act.put, mz4, mz5, mz6]
  refine wpAnyH_ready (rs := [12]) (by kernel_rfl) (by simp) ?_
  refine AllReadyH.cons rfl (fun K hK => ?_) AllReadyH.nil
  refine qal rfl _ _ rfl (w.heap.size + 1) _ _ _ (.int .i64 (t : Int)) (.int .i64 (c : Int)) (.slice s 0 d) rfl rfl HV1.out rfl rfl rfl ?_
  intro w2 HV2 HG2
  have HD2 : Hid (w2.cell? ⟨w.heap.size, 1, none⟩ = some (.int .i64 (c : Int)) ∧ w2.cell? ⟨w.heap.size, 2, none⟩ = some (.slice none 0 0)) := ⟨(HVa1.kept HG2.out (by omega)).c1, (HVa1.kept HG2.out (by omega)).c2⟩
  refine hK.out _ _ HD2.out (fun _ => ?_)
  clear hK K
  try simp only [mz1, mz2, mz3, Act.put]
  refine wpAnyH_done (by kernel_rfl) ?_ _
  go_wp2
  have d0 := HV2.out.c0
  have d1 := HV2.out.c1
  have d2 := HV2.out.c2
  refine bodyPost_ret (v := mv t c s 0 d) (by simp [results, Tryz.results118, go_sem, d0, d1, d2, mv]) rfl ?_
  exact ⟨s, d, rfl, HO.out.kept HG2.out (fun _ x hx e => by have := HOff.out x hx; omega), qa2 HB1.out HG2.out (by omega)⟩
 | some x =>
  have HD : Hid (wb.drew.cell? ⟨w.heap.size, 1, none⟩ = some (.int .i64 (c : Int)) ∧ wb.drew.cell? ⟨w.heap.size, 2, none⟩ = some (.slice (some x) n k)) := by rw [HW.out]; rw [HW.out] at v1 v2; exact ⟨v1, v2⟩
  go_enter Tryz.func118, Tryz.ntmps118
  go_wp2
  refine wp_region_held (S := fun w' => w'.cell? ⟨w.heap.size, 1, none⟩ = some (.int .i64 (c : Int)) ∧ w'.cell? ⟨w.heap.size, 2, none⟩ = some (.slice (some x) n k)) (by kernel_rfl) ?_
  change wpAnyH _ _ _ _ _ _ _ _ (World.drew _)
  rw [← HW.out]
  refine wtkq 0 ?vb0 rfl (by kernel_rfl) (fun _ _ _ h => h) (by rfl) ?yb0 HD.out ?zb0
  case yb0 => (intro w hSw; (try dsimp only at hSw); go_simp; try with_reducible rfl)
  try simp only [mz1, mz3, Act.put, mz4, mz5, mz6]
  refine wtkq 1 ?vb1 rfl (by kernel_rfl) (fun _ _ _ h => h) (by rfl) ?yb1 HD.out ?zb1
  case yb1 => (intro w hSw; (try dsimp only at hSw); go_simp; try with_reducible rfl)
  try simp only [mz1, mz2, mz3, Act.put, mz4, mz5, mz6]
  refine wtkq 2 ?vb2 rfl (by kernel_rfl) (fun _ _ _ h => h) (by rfl) ?yb2 HD.out ?zb2
  case yb2 => (intro w hSw; (try dsimp only at hSw); go_simp; try with_reducible rfl)
  try simp only [mz1, mz2, mz3, Act.put, mz4, mz5, mz6]
  refine wtkq 3 ?vb3 rfl (by kernel_rfl) (fun _ _ _ h => h) (by rfl) ?yb3 HD.out ?zb3
  case yb3 => (intro w hSw; (try dsimp only at hSw); go_simp; try with_reducible rfl)
  try simp only [mz1, mz2, mz3, Act.put, mz4, mz5, mz6]
  refine wtkq 4 ?vb4 rfl (by kernel_rfl) (fun _ _ _ h => h) (by rfl) ?yb4 HD.out ?zb4
  case yb4 => (intro w hSw; (try dsimp only at hSw); go_simp; try with_reducible rfl)
  try simp only [mz1, mz2, mz3, Act.put, mz4, mz5, mz6]
  refine wtkq 5 ?vb5 rfl (by kernel_rfl) (fun _ _ _ h => h) (by rfl) ?yb5 HD.out ?zb5
  case yb5 => (intro w hSw; (try dsimp only at hSw); go_simp; try with_reducible rfl)
  try simp only [mz1, mz2, mz3, Act.put, mz4, mz5, mz6]
  refine wtkq 6 ?vb6 rfl (by kernel_rfl) (fun _ _ _ h => h) (by rfl) ?yb6 HD.out ?zb6
  case yb6 => (intro w hSw; (try dsimp only at hSw); go_simp; try with_reducible rfl)
  try simp only [mz1, mz2, mz3, Act.put, mz4, mz5, mz6]
  refine wtkq 7 ?vb7 rfl (by kernel_rfl) (fun _ _ _ h => h) (by rfl) ?yb7 HD.out ?zb7
  case yb7 => (intro w hSw; (try dsimp only at hSw); go_simp; try with_reducible rfl)
  try simp only [mz1, mz2, mz3, Act.put, mz4, mz5, mz6]
  refine wtkq 8 ?vb8 rfl (by kernel_rfl) (fun _ _ _ h => h) (by rfl) ?yb8 HD.out ?zb8
  case yb8 => (intro w hSw; (try dsimp only at hSw); go_simp; try with_reducible rfl)
  try simp only [mz1, mz2, mz3, Act.put, mz4, mz5, mz6]
  refine wtkq 9 ?vb9 rfl (by kernel_rfl) (fun _ _ _ h => h) (by rfl) ?yb9 HD.out ?zb9
  case yb9 => (intro w hSw; (try dsimp only at hSw); go_simp; try with_reducible rfl)
  try simp only [mz1, mz2, mz3, Act.put, mz4, mz5, mz6]
  refine wpAnyH_ready (rs := [10]) (by kernel_rfl) (by simp) ?_
  refine AllReadyH.cons rfl (fun K hK => ?_) AllReadyH.nil
  go_simp
  refine (HCp.out _ (HX.out.below.drew)).mono ?_
  rintro e w1 ⟨v, rfl, ho, hb0⟩
  obtain ⟨s, d, ed, _, _⟩ := qap ho
  subst ed
  have hb1 := qk5 hb0
  have HO : Hid (Mt w1 s N d F) := qk6 ho (fun i hi => HA.out.sl.1 i (by omega))
  have HB1 : Hid (Below w.heap.size w w1) := qa1 HX.out.below hb1
  have HV1 : Hid (Vr w1 (w.heap.size + 1) (.int .i64 0) (.int .i64 0) (.slice none 0 0)) := HX.out.vr.later hb1
  have HVa1 := HX.out.va.later hb1
  have HD1 : Hid (w1.cell? ⟨w.heap.size, 1, none⟩ = some (.int .i64 (c : Int)) ∧ w1.cell? ⟨w.heap.size, 2, none⟩ = some (.slice (some x) n k)) := ⟨HVa1.c1, HVa1.c2⟩
  have HOff : Hid (Iv6 wb.heap.size w1.heap.size s) := qk7 ho
  clear ho hb0 hb1
  refine hK.out _ _ HD1.out (fun _ => ?_)
  clear hK K
  try simp only [mz1, mz2, mz3, Act.put, mz4, mz5, mz6]
  refine wtkq 11 ?vb11 rfl (by kernel_rfl) (fun _ _ _ h => h) (by rfl) ?yb11 HD1.out ?zb11
  case yb11 => (intro w hSw; (try dsimp only at hSw); go_simp; try with_reducible rfl)
  try simp only [mz1, mz2, mz3, Act.put, mz4, mz5, mz6]
  refine wpAnyH_ready (rs := [12]) (by kernel_rfl) (by simp) ?_
  refine AllReadyH.cons rfl (fun K hK => ?_) AllReadyH.nil
  refine qal rfl _ _ rfl (w.heap.size + 1) _ _ _ (.int .i64 (t : Int)) (.int .i64 (c : Int)) (.slice s N d) rfl rfl HV1.out rfl rfl rfl ?_
  intro w2 HV2 HG2
  have HD2 : Hid (w2.cell? ⟨w.heap.size, 1, none⟩ = some (.int .i64 (c : Int)) ∧ w2.cell? ⟨w.heap.size, 2, none⟩ = some (.slice (some x) n k)) := ⟨(HVa1.kept HG2.out (by omega)).c1, (HVa1.kept HG2.out (by omega)).c2⟩
  refine hK.out _ _ HD2.out (fun _ => ?_)
  clear hK K
  try simp only [mz1, mz2, mz3, Act.put]
  refine wpAnyH_done (by kernel_rfl) ?_ _
  go_wp2
  have d0 := HV2.out.c0
  have d1 := HV2.out.c1
  have d2 := HV2.out.c2
  refine bodyPost_ret (v := mv t c s N d) (by simp [results, Tryz.results118, go_sem, d0, d1, d2, mv]) rfl ?_
  exact ⟨s, d, rfl, HO.out.kept HG2.out (fun _ x hx e => by have := HOff.out x hx; omega), qa2 HB1.out HG2.out (by omega)⟩
open Go.RowKit
theorem rsys_ok (w : World) (r c n k : Nat) (a : Option Addr) (F : Nat → Nat) (ha : Mt w a n k F) (R : Rt r c n) (hcr : c ≤ r) (hk : Rk (m2 F c c) c c) :
  Calls Tryz.prog 76 #[mv r c a n k] w fun e w' => ∃ g X, e = .returned (.tuple #[mv r c (some ⟨g, 0, none⟩) n n, .int .i64 0]) ∧ RowAt w' g 5 n (prk F X c c c) ∧ (∀ q, q < c * c → X q < 256) ∧ (∀ i j, i < c → j < c → pr (m2 F c c) (m2 X c c) c i j = dl i j) ∧ w.heap.size ≤ g ∧ Below w.heap.size w w' := by
 obtain ⟨wb, HW, HX⟩ : ∃ wb, Hid (wb = (w.alloc (.cells #[.int .i64 (r : Int), .int .i64 (c : Int), .slice a n k] 24)).alloc (.cells #[.int .i64 0, .int .i64 0, .slice none 0 0] 24)) ∧ Hid (Box2 w wb r c n k a) := ⟨_, rfl, box2 w r c n k a⟩
 obtain ⟨N, HN⟩ : ∃ N, Hid (c * c = N) := ⟨_, rfl⟩
 have HA : Hid (Mt w a n k F) := ha
 have HR : Hid (Rt r c n) := R
 have HC : Hid (Rt c c N) := ⟨R.c64, R.c64, HN.out⟩
 have HK : Hid (Rk (m2 F c c) c c) := hk
 have hcl : decide (r < c) = false := by simpa using hcr
 have v0 := HX.out.va.c0
 have v1 := HX.out.va.c1
 have v2 := HX.out.va.c2
 have hwb : w.heap.size + 1 < wb.heap.size := HX.out.vr.lt
 clear ha R hk
 go_enter Tryz.func76, Tryz.ntmps76
 go_wp2_with (first
  | (go_at_call 69; rw [← HW.out]; refine (qau _ _ _ _ _ _ HR.out.p).mono ?_; rintro e w1 ⟨rfl, hb1⟩; have HB1 : Hid (Below wb.heap.size wb w1) := hb1; have a0 := (HX.out.va.later hb1).c0; have a1 := (HX.out.va.later hb1).c1; have a2 := (HX.out.va.later hb1).c2; clear hb1)
  | (go_at_call 118; refine (rtop_ok _ r c n k c N a F (HA.out.later (qa1 HX.out.below HB1.out)) HR.out hcr HN).mono ?_; rintro e w2 ⟨s2, d2, rfl, hm2, hb2⟩; have HM2 : Hid (Mt w2 s2 N d2 F) := hm2; have HB2 : Hid (Below wb.heap.size wb w2) := qa1 HB1.out hb2; clear hm2 hb2)
  | (go_at_call 117; refine (rinvm_ok _ c N d2 s2 F HM2.out HC.out HK.out).mono ?_; rintro e w3 ⟨g3, X, rfl, hr3, hg3, hl3, hp3, hb3⟩; have HR3 : Hid (RowAt w3 g3 5 N X) := hr3; have HL3 : Hid (∀ q, q < N → X q < 256) := hl3; have HP3 : Hid (∀ i j, i < c → j < c → pr (m2 F c c) (m2 X c c) c i j = dl i j) := hp3; have HB3 : Hid (Below wb.heap.size wb (w3.alloc (.cells #[.int .i64 (c : Int), .int .i64 (c : Int), .slice (some ⟨g3, 0, none⟩) N N] 24))) := qa1 (qa1 HB2.out hb3) (qa0 _ _); have b0 := (HX.out.va.later HB3.out).c0; have b1 := (HX.out.va.later HB3.out).c1; have b2 := (HX.out.va.later HB3.out).c2; clear hr3 hg3 hl3 hp3 hb3)
  | (go_at_call 32; refine (rmmul_ok _ r c c n N n k N a _ F X (HA.out.later (qa1 HX.out.below HB3.out)).sl (((HR3.out.later (qa0 _ _))).sl HL3.out) HR.out HC.out HR.out).mono ?_; rintro e w4 ⟨g4, rfl, hr4, hg4, hb4⟩; have HR4 : Hid (RowAt w4 g4 5 n (prk F X c c c)) := hr4; have hg5 : wb.heap.size ≤ g4 := Nat.le_trans HB3.out.size hg4; have HB4 : Hid (Below wb.heap.size wb w4) := qa1 HB3.out hb4; have HV4 : Hid (Vr w4 (w.heap.size + 1) (.int .i64 0) (.int .i64 0) (.slice none 0 0)) := HX.out.vr.later HB4.out; clear hr4 hg4 hb4)
  | (refine qa5 rfl _ _ rfl (w.heap.size + 1) _ _ _ (.int .i64 (r : Int)) (.int .i64 (c : Int)) (.slice (some ⟨g4, 0, none⟩) n n) rfl rfl HV4.out rfl rfl rfl ?_; intro w5 HV5 HG5))
 have d0 := HV5.out.c0
 have d1 := HV5.out.c1
 have d2 := HV5.out.c2
 refine bodyPost_ret (v := .tuple #[mv r c (some ⟨g4, 0, none⟩) n n, .int .i64 0]) (by simp [results, Tryz.results76, go_sem, d0, d1, d2, mv]) rfl ?_
 refine ⟨g4, X, rfl, HR4.out.kept HG5.out (by omega), by rw [HN.out]; exact HL3.out, HP3.out, by omega, qa2 (qa1 HX.out.below HB4.out) HG5.out (by omega)⟩
end Go.Proofs.YtnfbbddoaeofgaaGreat
