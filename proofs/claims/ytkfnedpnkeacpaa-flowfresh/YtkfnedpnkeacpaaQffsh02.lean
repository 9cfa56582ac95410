/-
  Contracts of copyOf, Sum, Dot.
  Contracts of multiples, addProducts, Scale, Mac.
  Contracts of addProducts, Scale, Mac.
-/
import Derived.Test.YtkfnedpnkeacpaaQffsh00
import Derived.Test.YtkfnedpnkeacpaaQffsh01
import Derived.Laws.CopyOwn
import Derived.RegionTactic
import Derived.BigRegion
set_option maxRecDepth 100000
set_option maxHeartbeats 16000000
namespace Go.Proofs.Ytkfnedpnkeacpaa
open Go.RowKit
theorem qcr : (Try.prog.info? 5).map (fun i => (i.zero, i.size, i.bytes)) = some (some (.int .u8 0), 1, 1) := by kernel_rfl
theorem qbx (n : Nat) (f : Nat → Nat) (j : Nat) (v : Value) (h : (row n f).toList[j]? = some v) : j < n ∧ v = .int .u8 (f j : Nat) := by
 have hj : j < (row n f).toList.length := (List.getElem?_eq_some_iff.1 h).1
 have hj' : j < n := by simpa [qa6] using hj
 refine ⟨hj', ?_⟩
 have e := qd5 n f j hj'
 rw [← Array.getElem?_toList] at e
 rw [e] at h
 simpa using h.symm
theorem made_at {w1 : World} {base g n : Nat} (h : w1.ownsRow base 5 1 (.slice (some ⟨g, 0, none⟩) n n) n (madeCells (Value.int .u8 0).cells (n * 1)).toList) : RowAt w1 g 5 n (fun _ => 0) := by
 refine qet h ?_
 rw [Nat.mul_one]
 exact congrArg Array.toList (qdj n)
theorem row_step {wr : World} {g k n : Nat} {t : TypeId} {f f' : Nat → Nat} (h : RowAt wr g t n (fun j => if j < k then f' j else f j)) :
  RowAt (wr.setCell ⟨g, k, none⟩ (.int .u8 (f' k : Nat))) g t n (fun j => if j < k + 1 then f' j else f j) :=
 (h.set k (f' k)).congr (by
  intro i _
  by_cases e : i = k
  ·subst e; simp
  ·by_cases e2 : i < k
   ·simp [e, e2, show i < k + 1 by omega]
   ·simp [e, e2, show ¬ i < k + 1 by omega])
theorem qdk {wr : World} {g k n : Nat} {t : TypeId} {f f' : Nat → Nat} (h : RowAt wr g t n (fun j => if j < k then f' j else f j)) (hk : n ≤ k) : RowAt wr g t n f' :=
 h.congr (by intro i hi; simp [show i < k by omega])
theorem qdl {wr : World} {g n : Nat} {t : TypeId} {f f' : Nat → Nat} (h : RowAt wr g t n f) : RowAt wr g t n (fun j => if j < 0 then f' j else f j) :=
 h.congr (by intro i hi; simp)
theorem qdm {wr : World} {g k n : Nat} {t : TypeId} {f f' : Nat → Nat} (h : RowAt wr g t n (fun j => if j < k then f' j else f j)) (hk : k < n) : wr.cell? ⟨g, k, none⟩ = some (.int .u8 (f k : Nat)) := by
 have := h.cell k hk
 simpa using this
open Go.RowKit
theorem zero63 (w : World) : Sem.run Try.prog (zeroValue 98) w = .ok (.agg (row 16 fun _ => 0)) w := by kernel_rfl
theorem qev : (Try.prog.info? 98).map (·.size) = some 16 := by kernel_rfl
theorem odd_all : allB (fun k => Nat.beq (k % 2) 0 || Nat.beq (2 * (k / 2) ^^^ 1) k) 16 = true := by kernel_rfl
theorem mul_even (c k : Nat) (hc : c < 256) (hk : k < 16) (h : k % 2 = 0) : dbl (fm c (k / 2)) = fm c k := by
 rw [← qdh c _ hc (by omega), qbu _ (by omega), show 2 * (k / 2) = k by omega]
theorem mul_odd (c k : Nat) (hc : c < 256) (hk : k < 16) (h : k % 2 = 1) : dbl (fm c (k / 2)) ^^^ c = fm c k := by
 have e := qaw odd_all k hk
 simp only [Bool.or_eq_true, Nat.beq_eq] at e
 have e2 : 2 * (k / 2) ^^^ 1 = k := by omega
 have e3 := qep c (2 * (k / 2)) 1
 rw [e2, fm_one c hc] at e3
 rw [e3, ← qdh c _ hc (by omega), qbu _ (by omega)]
theorem RowAt.put {w : World} {b : Nat} {t : TypeId} {n : Nat} {f : Nat → Nat} (h : RowAt w b t n f) (i v : Nat) (F : Nat → Nat) (hF : ∀ j, j < n → F j = if j = i then v else f j) : RowAt (w.setCell ⟨b, i, none⟩ (.int .u8 (v : Int))) b t n F :=
 (h.set i v).congr (fun j hj => (hF j hj).symm)
theorem qdn {w : World} {b : Nat} {t : TypeId} {n k v : Nat} {f f' : Nat → Nat} (h : RowAt w b t n (fun j => if j < k then f' j else f j)) (hv : v = f' k) : RowAt (w.setCell ⟨b, k, none⟩ (.int .u8 (v : Int))) b t n (fun j => if j < k + 1 then f' j else f j) := by
 subst hv; exact row_step h
theorem row_put2 {w : World} {b : Nat} {t : TypeId} {n k u v : Nat} {f f' : Nat → Nat} (h : RowAt w b t n (fun j => if j < k then f' j else f j)) (hv : v = f' k) : RowAt ((w.setCell ⟨b, k, none⟩ (.int .u8 (u : Int))).setCell ⟨b, k, none⟩ (.int .u8 (v : Int))) b t n (fun j => if j < k + 1 then f' j else f j) := by
 subst hv
 refine (h.set k u).put k _ _ ?_
 intro j _
 by_cases e : j = k
 ·subst e; simp
 ·by_cases e2 : j < k
  ·simp [e, e2, show j < k + 1 by omega]
  ·simp [e, e2, show ¬ j < k + 1 by omega]
theorem mult_raw (w : World) (c : Nat) (hc : c < 256) (zs : Array Value) (HZ : Hid (zs = row 16 fun _ => 0)) : Calls Try.prog 62 #[.int .u8 (c : Int)] w fun e w' => ∃ ms, Hid (ms = row 16 (fm c)) ∧ e = .returned (.agg ms) ∧ Below w.heap.size w w' := by
 have z : ∀ w, Sem.run Try.prog (zeroValue 98) w = .ok (.agg zs) w := by rw [HZ.out]; exact zero63
 go_enter Try.func62, Try.ntmps62
 go_wp2
 clear z
 go_loopw [5] (fun i wr => ∃ k : Nat, k ≤ 16 ∧ i = .int .i64 (k : Int) ∧ Below w.heap.size w wr ∧ RowAt wr w.heap.size 98 16 (fun _ => 0) ∧ RowAt wr (w.heap.size + 1) 98 16 (fun j => if j < k then fm c j else 0)) (fun i _ => 16 - (intOf i).toNat)
 case atStart =>
  refine ⟨0, by omega, rfl, ((Below.refl _ _).alloc (Nat.le_refl _) _).alloc (by simp) _, ?_, qdl ?_⟩
  ·unfold RowAt; rw [← HZ.out]; exact heap_alloc2_old ..
  ·unfold RowAt; rw [← HZ.out]; exact heap_alloc2_new ..
 case round =>
  obtain ⟨k, hk, rfl, hb, h0, h1⟩ := hrel
  by_cases hlt : k < 16
  ·obtain ⟨m, hm⟩ : ∃ m : Nat, m = k / 2 := ⟨_, rfl⟩
   obtain ⟨v, HV, hc2⟩ : ∃ v : Nat, Hid (v = fm c (k / 2)) ∧ wr.cell? ⟨w.heap.size + 1, m, none⟩ = some (.int .u8 (v : Int)) := by
    refine ⟨_, rfl, ?_⟩
    rw [hm, h1.cell (k / 2) (by omega)]
    by_cases e : k / 2 < k
    ·rw [if_pos e]
    ·rw [if_neg e, show k / 2 = 0 by omega, fm_zero]
   have hv : v < 256 := by rw [HV.out]; exact qch c _ hc
   have hi2 : ((k : Int) / 2) = (m : Int) := by omega
   have hc1 := qdm h1 hlt
   have hf := h1.free k
   by_cases hp : k % 2 = 1
   ·have hp2 : ((k : Int) % 2 == 1) = true := by simp; omega
    have hd := qay v hv
    have hxo : bits .xor .u8 (dbl v : Int) (c : Int) = ((dbl v ^^^ c : Nat) : Int) := u8_xor_nat _ _ hd hc
    have HE : Hid (dbl v ^^^ c = fm c k) := by show _ = _; rw [HV.out]; exact mul_odd c k hc hlt hp
    clear hm hp
    go_wp2_with (go_at_call 64; refine (qb2 _ _ hv).mono ?_; rintro e w' ⟨rfl, rfl⟩)
    exact ⟨⟨k + 1, by omega, by go_num, (hb.setCell (by simp) _).setCell (by simp) _, (h0.other _ _ (by simp)).other _ _ (by simp), row_put2 h1 HE.out⟩, by simp [intOf]; omega⟩
   ·have hp2 : ((k : Int) % 2 == 1) = false := by simp; omega
    have HE : Hid (dbl v = fm c k) := by show _ = _; rw [HV.out]; exact mul_even c k hc hlt (by omega)
    clear hm hp
    go_wp2_with (go_at_call 64; refine (qb2 _ _ hv).mono ?_; rintro e w' ⟨rfl, rfl⟩)
    exact ⟨⟨k + 1, by omega, by go_num, hb.setCell (by simp) _, h0.other _ _ (by simp), qdn h1 HE.out⟩, by simp [intOf]; omega⟩
  ·obtain ⟨ms, HM⟩ : ∃ ms, Hid (ms = row 16 (fm c)) := ⟨_, rfl⟩
   have hB : wr.heap[w.heap.size + 1]? = some (.cells ms 98 (0, 0)) := by rw [HM.out]; exact qdk h1 (by omega)
   have hO : wr.heap[w.heap.size]? = some (.cells zs 98 (0, 0)) := by rw [HZ.out]; exact h0
   have hsz : (Try.prog.info? 98).map (·.size) = some ms.size := by rw [HM.out, qa6]; exact qev
   have hol : zs.size = ms.size := by rw [HZ.out, HM.out, qa6, qa6]
   have hone : ms.all (·.oneCell') = true := by rw [HM.out]; exact row_one _ _
   clear h0 h1
   go_wp2_with (first | (refine wpList_load_row rfl 98 _ rfl (w.heap.size + 1) rfl 98 ms (0, 0) _ hB Try.underlying98 rfl hsz ?_) | (refine wpList_store_row rfl 98 _ _ rfl w.heap.size ms rfl rfl 98 zs hO hsz hol hone ?_))
   exact bodyPost_ret (results_cell_row Try.results62 _ _ w.heap.size 98 ms (0, 0) _ rfl (setRow_heap _ _ _ _ _ _ hO) Try.underlying98 rfl hsz) rfl ⟨ms, HM, rfl, below_setRow hb (Nat.le_refl _) _⟩
theorem qdo (w : World) (c : Nat) (hc : c < 256) : Calls Try.prog 62 #[.int .u8 (c : Int)] w fun e w' => ∃ ms, Hid (ms = row 16 (fm c)) ∧ e = .returned (.agg ms) ∧ Below w.heap.size w w' := mult_raw w c hc _ rfl
open Go.RowKit
theorem fm16_all : allB (fun e => Nat.beq (e % 16 ^^^ 16 * (e / 16)) e) 256 = true := by kernel_rfl
theorem qd6 : allB (fun m => Nat.beq (fm 16 m) (16 * m)) 16 = true := by kernel_rfl
theorem halves (c e : Nat) (hc : c < 256) (he : e < 256) : fm c (e % 16) ^^^ fm (fm c 16) (e / 16) = fm c e := by
 have h1 := qaw fm16_all e he
 have h2 := qaw qd6 (e / 16) (by omega)
 simp only [Nat.beq_eq] at h1 h2
 rw [fm_assoc c 16 _ hc (by decide), h2, ← qep, h1]
theorem and15_u8 (e : Nat) (he : e < 256) : bits .and .u8 (e : Int) 15 = ((e % 16 : Nat) : Int) := by
 have := u8_and_nat e 15 he (by decide)
 rw [nat_mask4] at this
 exact this
theorem qax {w2 : World} {Z Y : Array Value} {t : TypeId} (ms ns : Array Value) :
  ((((w2.alloc (.cells Z t)).alloc (.cells Y t)).setRow w2.heap.size ms).setRow (w2.heap.size + 1) ns).heap[w2.heap.size]? = some (.cells ms t (0, 0)) ∧
  ((((w2.alloc (.cells Z t)).alloc (.cells Y t)).setRow w2.heap.size ms).setRow (w2.heap.size + 1) ns).heap[w2.heap.size + 1]? = some (.cells ns t (0, 0)) := by
 refine ⟨?_, ?_⟩
 ·rw [setRow_other _ _ _ _ (by omega), setRow_heap _ _ _ _ _ _ (heap_alloc2_old ..)]
 ·refine setRow_heap _ _ (old := Y) _ _ _ ?_
  rw [setRow_other _ _ _ _ (by omega)]
  exact heap_alloc2_new ..
theorem qcb {w w2 : World} {Z Y : Array Value} {t : TypeId} (ms ns : Array Value) (h : Below w.heap.size w w2) :
  Below w.heap.size w ((((w2.alloc (.cells Z t)).alloc (.cells Y t)).setRow w2.heap.size ms).setRow (w2.heap.size + 1) ns) := by
 have := h.size
 exact below_setRow (below_setRow ((h.alloc this _).alloc (by simp; omega) _) this _) (by omega) _
theorem qe8 {w w' : World} {row : Option Nat} (h : w.grownBy w' row) : w.grownBy w'.drew row := ⟨h.os, h.tape, h.output, h.size, h.block⟩
theorem addp_raw (w : World) (g n np c ca : Nat) (a : Option Addr) (f h : Nat → Nat) (hc : c < 256) (hr : RowAt w g 5 n f) (hf : ∀ i, i < n → f i < 256) (ha : Sl w a n h) (ho : 0 < n → Off g a) (hn : n ≤ 140737488351232) (zs : Array Value) (HZ : Hid (zs = row 16 fun _ => 0)) :
  Calls Try.prog 61 #[.slice (some ⟨g, 0, none⟩) n np, .int .u8 (c : Int), .slice a n ca] w fun e w' => e = .returned (.tuple #[]) ∧ RowAt w' g 5 n (fun i => f i ^^^ fm c (h i)) ∧ w.grownBy w' (some g) := by
 have z : ∀ w, Sem.run Try.prog (zeroValue 98) w = .ok (.agg zs) w := by rw [HZ.out]; exact zero63
 obtain ⟨q, HQ⟩ : ∃ q, Hid (fm c 16 = q) := ⟨_, rfl⟩
 have hq : q < 256 := by rw [← HQ.out]; exact qch c 16 hc
 have HMul : Hid (∀ w, Calls Try.prog 63 #[.int .u8 (c : Int), .int .u8 16] w fun e w' => e = .returned (.int .u8 (q : Int)) ∧ w' = w) := by rw [← HQ.out]; exact fun w => mul_nat c 16 w hc (by decide)
 have HR : Hid (RowAt w g 5 n f) := hr
 have HA : Hid (Sl w a n h) := ha
 have HO : Hid (0 < n → Off g a) := ho
 have HF : Hid (∀ i, i < n → f i < 256) := hf
 clear hr ha ho hf
 go_enter Try.func61, Try.ntmps61
 go_wp2_with (first
  | (go_at_call 62; have _x := hb1; refine (qdo _ q hq).mono ?_; rintro e w2 ⟨ns, HN, rfl, hb2⟩; have hk2 : Hid _ := facts 98 16 (fm q) ns zs qev HN HZ)
  | (go_at_call 62; refine (qdo _ c hc).mono ?_; rintro e w1 ⟨ms, HM, rfl, hb1⟩; have hk1 : Hid _ := facts 98 16 (fm c) ms zs qev HM HZ)
  | (go_at_call 63; refine (HMul.out _).mono ?_; rintro e w' ⟨rfl, hwq⟩; subst hwq)
  | (refine wpList_store_row rfl 98 (.tmp 6) _ rfl w2.heap.size ms rfl rfl 98 zs (heap_alloc2_old ..) hk1.out.1 hk1.out.2.1 hk1.out.2.2 ?_)
  | (refine wpList_store_row rfl 98 (.tmp 7) _ rfl (w2.heap.size + 1) ns rfl rfl 98 zs (by rw [setRow_other _ _ _ _ (by omega)]; exact heap_alloc2_new ..) hk2.out.1 hk2.out.2.1 hk2.out.2.2 ?_))
 clear HMul z
 go_loopw [17] (fun i wr => ∃ k : Nat, k ≤ n ∧ i = .int .i64 (k : Int) ∧ RowAt wr g 5 n (fun j => if j < k then f j ^^^ fm c (h j) else f j) ∧ RowAt wr w2.heap.size 98 16 (fm c) ∧ RowAt wr (w2.heap.size + 1) 98 16 (fm q) ∧ w.grownBy wr (some g)) (fun i _ => n - (intOf i).toNat)
 case atStart =>
  have hbel := qcb (Z := zs) (Y := zs) (t := 98) ms ns (qai hb1 hb2)
  refine ⟨0, by omega, rfl, qdl (HR.out.later hbel), ?_, ?_, qa9 hbel _⟩
  ·unfold RowAt; rw [← HM.out]; exact (qax ms ns).1
  ·unfold RowAt; rw [← HN.out]; exact (qax ms ns).2
 case round =>
  obtain ⟨k, hk, rfl, hr, hl, hh, hgr⟩ := hrel
  have hgw := HR.out.lt
  have hs1 := hb1.size
  have hs2 := hb2.size
  have hg1 : g ≠ w2.heap.size := by omega
  have hg2 : g ≠ w2.heap.size + 1 := by omega
  clear hb1 hb2 hk1 hk2
  by_cases hlt : k < n
  ·obtain ⟨bb, o, eb, hcb⟩ := (HA.out.kept hgr (HO.out (by omega))).2 k hlt
   obtain ⟨x, HX⟩ : ∃ x, Hid (h k = x) := ⟨_, rfl⟩
   rw [HX.out] at hcb
   have hx : x < 256 := by rw [← HX.out]; exact HA.out.1 k hlt
   obtain ⟨y, HY⟩ : ∃ y, Hid (f k = y) := ⟨_, rfl⟩
   have hy : y < 256 := by rw [← HY.out]; exact HF.out k hlt
   obtain ⟨lo, hlo, hlo2⟩ : ∃ lo : Nat, bits .and .u8 (x : Int) 15 = (lo : Int) ∧ lo = x % 16 := ⟨_, and15_u8 x hx, rfl⟩
   obtain ⟨hi, hhi, hhi2⟩ : ∃ hi : Nat, (x : Int) / 16 = (hi : Int) ∧ hi = x / 16 := ⟨x / 16, by omega, rfl⟩
   have hlol : lo < 16 := by omega
   have hhil : hi < 16 := by omega
   obtain ⟨p1, hp1, HP1⟩ : ∃ p : Nat, p < 256 ∧ Hid (fm c lo = p) := ⟨_, qch c _ hc, rfl⟩
   obtain ⟨p2, hp2, HP2⟩ : ∃ p : Nat, p < 256 ∧ Hid (fm q hi = p) := ⟨_, qch q _ hq, rfl⟩
   have HE : Hid (y ^^^ (p1 ^^^ p2) = f k ^^^ fm c (h k)) := by
    show _ = _
    rw [HY.out, HX.out, ← HP1.out, ← HP2.out, ← HQ.out, hlo2, hhi2, halves c x hc hx]
   have hc1 : wr.cell? ⟨g, k, none⟩ = some (.int .u8 (y : Int)) := by rw [qdm hr hlt, HY.out]
   have hf1 := hr.free k
   have hc2 : wr.cell? ⟨w2.heap.size, lo, none⟩ = some (.int .u8 (p1 : Int)) := by rw [hl.cell lo hlol, HP1.out]
   have hc3 : wr.cell? ⟨w2.heap.size + 1, hi, none⟩ = some (.int .u8 (p2 : Int)) := by rw [hh.cell hi hhil, HP2.out]
   have hx1 : bits .xor .u8 (p1 : Int) (p2 : Int) = ((p1 ^^^ p2 : Nat) : Int) := u8_xor_nat _ _ hp1 hp2
   obtain ⟨p3, hp3, HP3⟩ : ∃ p : Nat, p < 256 ∧ Hid (p1 ^^^ p2 = p) := ⟨_, qdf _ _ hp1 hp2, rfl⟩
   rw [HP3.out] at hx1
   have hx2 : bits .xor .u8 (y : Int) (p3 : Int) = ((y ^^^ p3 : Nat) : Int) := u8_xor_nat _ _ hy hp3
   have R : Hid (RowAt (wr.setCell ⟨g, k, none⟩ (.int .u8 (y ^^^ p3 : Nat))) g 5 n (fun j => if j < k + 1 then f j ^^^ fm c (h j) else f j) ∧ RowAt (wr.setCell ⟨g, k, none⟩ (.int .u8 (y ^^^ p3 : Nat))) w2.heap.size 98 16 (fm c) ∧ RowAt (wr.setCell ⟨g, k, none⟩ (.int .u8 (y ^^^ p3 : Nat))) (w2.heap.size + 1) 98 16 (fm q) ∧ w.grownBy (wr.setCell ⟨g, k, none⟩ (.int .u8 (y ^^^ p3 : Nat))) (some g)) :=
    ⟨qdn (f' := fun j => f j ^^^ fm c (h j)) hr (by rw [← HP3.out]; exact HE.out), hl.other _ _ (Ne.symm hg1), hh.other _ _ (Ne.symm hg2), qad hgr (qa2 _ _ _ _)⟩
   clear hr hl hh hgr hlo2 hhi2 HE
   subst eb
   go_wp2
   go_region
   go_wp2
   exact ⟨⟨k + 1, by omega, by go_num, R.out.1, R.out.2.1, R.out.2.2.1, qe8 R.out.2.2.2⟩, by simp [intOf]; omega⟩
  ·go_wp2
   go_end0
   exact ⟨rfl, qdk hr (by omega), hgr⟩
theorem addp_any (w : World) (g n np c ca : Nat) (a : Option Addr) (f h : Nat → Nat) (hc : c < 256) (hr : RowAt w g 5 n f) (hf : ∀ i, i < n → f i < 256) (ha : Sl w a n h) (ho : 0 < n → Off g a) (hn : n ≤ 140737488351232) :
  Calls Try.prog 61 #[.slice (some ⟨g, 0, none⟩) n np, .int .u8 (c : Int), .slice a n ca] w fun e w' => e = .returned (.tuple #[]) ∧ RowAt w' g 5 n (fun i => f i ^^^ fm c (h i)) ∧ w.grownBy w' (some g) :=
 addp_raw w g n np c ca a f h hc hr hf ha ho hn _ rfl
end Go.Proofs.Ytkfnedpnkeacpaa
