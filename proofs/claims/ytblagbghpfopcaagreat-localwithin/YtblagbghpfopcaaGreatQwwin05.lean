/-
  Contracts of copyOf, Sum, Dot.
  Contracts of multiples, addProducts, Scale, Mac.
  Contracts of addProducts, Scale, Mac.
  Contracts of Scale, Mac.
  Contracts of the reference's Dot, Scale, Mac.
  Contract of the reference's Mac.
  From what a law's shell tells of a slice that came in to what the contracts ask.
  Contracts of the reference's Copy and Spoil.
-/
import Derived.Test.YtblagbghpfopcaaGreatQwwin00
import Derived.Test.YtblagbghpfopcaaGreatQwwin04
import Derived.Laws.CopyOwn
import Derived.RegionTactic
import Derived.BigRegion
import Derived.Deep.QuietTactic
import Derived.BigQuiet
import Derived.Deep.RegionHeld3
import Derived.Deep.AppendLies
import Derived.Laws.AppendOwnNone
set_option maxRecDepth 100000
set_option maxHeartbeats 16000000
namespace Go.Proofs.YtblagbghpfopcaaGreat
open Go.RowKit
theorem qee : (Tryz.prog.info? 5).map (fun i => (i.zero, i.size, i.bytes)) = some (some (.int .u8 0), 1, 1) := by kernel_rfl
theorem row_copy (n : Nat) (f h : Nat → Nat) : splice (row n f).toList 0 (row n h).toList = (row n h).toList := by
 unfold splice
 rw [List.take_zero, List.nil_append, List.drop_of_length_le (by simp [qa5]), List.append_nil]
theorem qbv (n : Nat) (f : Nat → Nat) (j : Nat) (v : Value) (h : (row n f).toList[j]? = some v) : j < n ∧ v = .int .u8 (f j : Nat) := by
 have hj : j < (row n f).toList.length := (List.getElem?_eq_some_iff.1 h).1
 have hj' : j < n := by simpa [qa5] using hj
 refine ⟨hj', ?_⟩
 have e := qb9 n f j hj'
 rw [← Array.getElem?_toList] at e
 rw [e] at h
 simpa using h.symm
theorem qct {w1 : World} {base g n : Nat} (h : w1.ownsRow base 5 1 (.slice (some ⟨g, 0, none⟩) n n) n (madeCells (Value.int .u8 0).cells (n * 1)).toList) : RowAt w1 g 5 n (fun _ => 0) := by
 refine qkv h ?_
 rw [Nat.mul_one]
 exact congrArg Array.toList (made_row n)
theorem row_list {w1 : World} {g n : Nat} {t : TypeId} {f : Nat → Nat} {zs : List Value} (h : RowAt w1 g t n f) (hz : zs = (row n f).toList) : w1.heap[g]? = some (.cells zs.toArray t (0, 0)) := by
 rw [hz, Array.toArray_toList]; exact h
theorem copy_src {w w1 : World} {a : Option Addr} {n : Nat} {f : Nat → Nat} {xs : List Value} (ha : Sl w a n f) (hb : Below w.heap.size w w1) (hx : xs = (row n f).toList) (g : Nat) :
  0 < xs.length → some (⟨g, 0, none⟩ : Addr) = some ⟨g, 0, none⟩ ∧ ∃ ad, a = some ad ∧ ∀ j v, xs[j]? = some v → w1.cell? (ad.add j) = some v := by
 intro h0
 have hn : 0 < n := by rw [hx] at h0; simpa [qa5] using h0
 obtain ⟨b, o, e, _⟩ := ha.2 0 hn
 refine ⟨rfl, ⟨b, o, none⟩, e, ?_⟩
 intro j v hj
 rw [hx] at hj
 obtain ⟨hjn, rfl⟩ := qbv n f j v hj
 obtain ⟨b', o', e', hc⟩ := (ha.later hb).2 j hjn
 rw [e] at e'
 cases e'
 have hplain : (⟨b, o, none⟩ : Addr).add j = ⟨b, o + j, none⟩ := by unfold Addr.add; split <;> simp_all
 rw [hplain]
 exact hc
theorem qjd {w2 : World} {g n : Nat} {t : TypeId} {f : Nat → Nat} {zs xs : List Value} (h : Hid (w2.heap[g]? = some (.cells (splice zs 0 xs).toArray t (0, 0)))) (hz : zs = (row n fun _ => 0).toList) (hx : xs = (row n f).toList) : RowAt w2 g t n f := by
 have h := h.out
 rw [hz, hx, row_copy, Array.toArray_toList] at h
 exact h
theorem copy_any (w : World) (a : Option Addr) (n c : Nat) (f : Nat → Nat) (ha : Sl w a n f) (hn : n ≤ 140737488351232) :
  Calls Tryz.prog 158 #[.slice a n c] w fun e w' => e = .returned (.slice (some ⟨w.heap.size, 0, none⟩) n n) ∧ RowAt w' w.heap.size 5 n f ∧ Below w.heap.size w w' := by
 obtain ⟨i0, hi, hz0, hz1, hz2⟩ := info_parts qee
 have hml : n ≤ maxLen := by unfold maxLen; omega
 have hsz : (Tryz.prog.info? 5).map (·.size) = some 1 := info5
 obtain ⟨zs, HZ⟩ : ∃ zs, Hid (zs = (row n fun _ => 0).toList) := ⟨_, rfl⟩
 obtain ⟨xs, HX⟩ : ∃ xs, Hid (xs = (row n f).toList) := ⟨_, rfl⟩
 have hlen : xs.length = n := by rw [HX.out]; simp [qa5]
 have hzlen : zs.length = n := by rw [HZ.out]; simp [qa5]
 have hmin : xs.length = Nat.min n n := by rw [hlen]; exact (Nat.min_self n).symm
 have hfit : 0 + xs.length ≤ zs.length := by omega
 have hone : ∀ v ∈ xs, v.oneCell' = true := by
  rw [HX.out]
  intro v hv
  obtain ⟨j, hj⟩ := List.getElem?_of_mem hv
  rw [(qbv n f j v hj).2]; rfl
 have HA : Hid (Sl w a n f) := ha
 have HM : Hid (xs.length = Nat.min n n) := hmin
 clear ha hlen hzlen hmin
 go_enter Tryz.func158, Tryz.ntmps158
 go_wp2_with (first
  | (at_make; refine wpList_make_full _ rfl _ _ 22 rfl w.heap.size 5 i0 (.int .u8 0) 1 Tryz.underlying22 hi hz0 hz1 .i64 .i64 _ _ n rfl rfl rfl rfl (by rw [hz2]; omega) hml (Nat.le_refl _) ?_; intro w1 hown hgrow; have HR : Hid _ := row_list (qct hown) HZ.out; have HB : Hid _ := qa8.mp hgrow; clear hown hgrow)
  | (refine wpList_copy_splice rfl _ _ 22 22 rfl 5 Tryz.underlying22 hsz _ _ n n n c rfl rfl w.heap.size 0 zs 5 HR.out xs HM.out (copy_src HA.out HB.out HX.out w.heap.size) hfit hone w.heap.size w HB.out (Nat.le_refl _) ?_; intro w2 HG2 hB2))
 go_ret
 exact ⟨rfl, qjd (by assumption) HZ.out HX.out, by assumption⟩
theorem row_step {wr : World} {g k n : Nat} {t : TypeId} {f f' : Nat → Nat} (h : RowAt wr g t n (fun j => if j < k then f' j else f j)) :
  RowAt (wr.setCell ⟨g, k, none⟩ (.int .u8 (f' k : Nat))) g t n (fun j => if j < k + 1 then f' j else f j) :=
 (h.set k (f' k)).congr (by
  intro i _
  by_cases e : i = k
  ·subst e; simp
  ·by_cases e2 : i < k
   ·simp [e, e2, show i < k + 1 by omega]
   ·simp [e, e2, show ¬ i < k + 1 by omega])
theorem qi2 {wr : World} {g k n : Nat} {t : TypeId} {f f' : Nat → Nat} (h : RowAt wr g t n (fun j => if j < k then f' j else f j)) (hk : n ≤ k) : RowAt wr g t n f' :=
 h.congr (by intro i hi; simp [show i < k by omega])
theorem qi3 {wr : World} {g n : Nat} {t : TypeId} {f f' : Nat → Nat} (h : RowAt wr g t n f) : RowAt wr g t n (fun j => if j < 0 then f' j else f j) :=
 h.congr (by intro i hi; simp)
theorem qi4 {wr : World} {g k n : Nat} {t : TypeId} {f f' : Nat → Nat} (h : RowAt wr g t n (fun j => if j < k then f' j else f j)) (hk : k < n) : wr.cell? ⟨g, k, none⟩ = some (.int .u8 (f k : Nat)) := by
 have := h.cell k hk
 simpa using this
open Go.RowKit
theorem zero63 (w : World) : Sem.run Tryz.prog (zeroValue 183) w = .ok (.agg (row 16 fun _ => 0)) w := by kernel_rfl
theorem qkx : (Tryz.prog.info? 183).map (·.size) = some 16 := by kernel_rfl
theorem odd_all : allB (fun k => Nat.beq (k % 2) 0 || Nat.beq (2 * (k / 2) ^^^ 1) k) 16 = true := by kernel_rfl
theorem mul_even (c k : Nat) (hc : c < 256) (hk : k < 16) (h : k % 2 = 0) : dbl (fm c (k / 2)) = fm c k := by
 rw [← qfl c _ hc (by omega), qe4 _ (by omega), show 2 * (k / 2) = k by omega]
theorem mul_odd (c k : Nat) (hc : c < 256) (hk : k < 16) (h : k % 2 = 1) : dbl (fm c (k / 2)) ^^^ c = fm c k := by
 have e := qb3 odd_all k hk
 simp only [Bool.or_eq_true, Nat.beq_eq] at e
 have e2 : 2 * (k / 2) ^^^ 1 = k := by omega
 have e3 := qf3 c (2 * (k / 2)) 1
 rw [e2, qb6 c hc] at e3
 rw [e3, ← qfl c _ hc (by omega), qe4 _ (by omega)]
theorem RowAt.put {w : World} {b : Nat} {t : TypeId} {n : Nat} {f : Nat → Nat} (h : RowAt w b t n f) (i v : Nat) (F : Nat → Nat) (hF : ∀ j, j < n → F j = if j = i then v else f j) : RowAt (w.setCell ⟨b, i, none⟩ (.int .u8 (v : Int))) b t n F :=
 (h.set i v).congr (fun j hj => (hF j hj).symm)
theorem qi5 {w : World} {b : Nat} {t : TypeId} {n k v : Nat} {f f' : Nat → Nat} (h : RowAt w b t n (fun j => if j < k then f' j else f j)) (hv : v = f' k) : RowAt (w.setCell ⟨b, k, none⟩ (.int .u8 (v : Int))) b t n (fun j => if j < k + 1 then f' j else f j) := by
 subst hv; exact row_step h
theorem row_put2 {w : World} {b : Nat} {t : TypeId} {n k u v : Nat} {f f' : Nat → Nat} (h : RowAt w b t n (fun j => if j < k then f' j else f j)) (hv : v = f' k) : RowAt ((w.setCell ⟨b, k, none⟩ (.int .u8 (u : Int))).setCell ⟨b, k, none⟩ (.int .u8 (v : Int))) b t n (fun j => if j < k + 1 then f' j else f j) := by
 subst hv
 refine (h.set k u).put k _ _ ?_
 intro j _
 by_cases e : j = k
 ·subst e; simp
 ·by_cases e2 : j < k
  ·simp [e, e2, show j < k + 1 by omega]
  ·simp [e, e2, show ¬ j < k + 1 by omega]
theorem mult_raw (w : World) (c : Nat) (hc : c < 256) (zs : Array Value) (HZ : Hid (zs = row 16 fun _ => 0)) : Calls Tryz.prog 156 #[.int .u8 (c : Int)] w fun e w' => ∃ ms, Hid (ms = row 16 (fm c)) ∧ e = .returned (.agg ms) ∧ Below w.heap.size w w' := by
 have z : ∀ w, Sem.run Tryz.prog (zeroValue 183) w = .ok (.agg zs) w := by rw [HZ.out]; exact zero63
 go_enter Tryz.func156, Tryz.ntmps156
 go_wp2
 clear z
 go_loopw [5] (fun i wr => ∃ k : Nat, k ≤ 16 ∧ i = .int .i64 (k : Int) ∧ Below w.heap.size w wr ∧ RowAt wr w.heap.size 183 16 (fun _ => 0) ∧ RowAt wr (w.heap.size + 1) 183 16 (fun j => if j < k then fm c j else 0)) (fun i _ => 16 - (intOf i).toNat)
 case atStart =>
  refine ⟨0, by omega, rfl, ((Below.refl _ _).alloc (Nat.le_refl _) _).alloc (by simp) _, ?_, qi3 ?_⟩
  ·unfold RowAt; rw [← HZ.out]; exact heap_alloc2_old ..
  ·unfold RowAt; rw [← HZ.out]; exact heap_alloc2_new ..
 case round =>
  obtain ⟨k, hk, rfl, hb, h0, h1⟩ := hrel
  by_cases hlt : k < 16
  ·obtain ⟨m, hm⟩ : ∃ m : Nat, m = k / 2 := ⟨_, rfl⟩
   obtain ⟨v, HV, hc2⟩ : ∃ v : Nat, Hid (v = fm c (k / 2)) ∧ wr.cell? ⟨w.heap.size + 1, m, none⟩ = some (.int .u8 (v : Int)) := by
    refine ⟨_, rfl, ?_⟩
    rw [hm, h1.cell (k / 2) (by omega)]
    by_cases e : k / 2 < k
    ·rw [if_pos e]
    ·rw [if_neg e, show k / 2 = 0 by omega, qa7]
   have hv : v < 256 := by rw [HV.out]; exact qat c _ hc
   have hi2 : ((k : Int) / 2) = (m : Int) := by omega
   have hc1 := qi4 h1 hlt
   have hf := h1.free k
   by_cases hp : k % 2 = 1
   ·have hp2 : ((k : Int) % 2 == 1) = true := by simp; omega
    have hd := qbx v hv
    have hxo : bits .xor .u8 (dbl v : Int) (c : Int) = ((dbl v ^^^ c : Nat) : Int) := u8_xor_nat _ _ hd hc
    have HE : Hid (dbl v ^^^ c = fm c k) := by show _ = _; rw [HV.out]; exact mul_odd c k hc hlt hp
    clear hm hp
    go_wp2_with (go_at_call 154; refine (qbm _ _ hv).mono ?_; rintro e w' ⟨rfl, rfl⟩)
    exact ⟨⟨k + 1, by omega, by go_num, (hb.setCell (by simp) _).setCell (by simp) _, (h0.other _ _ (by simp)).other _ _ (by simp), row_put2 h1 HE.out⟩, by simp [intOf]; omega⟩
   ·have hp2 : ((k : Int) % 2 == 1) = false := by simp; omega
    have HE : Hid (dbl v = fm c k) := by show _ = _; rw [HV.out]; exact mul_even c k hc hlt (by omega)
    clear hm hp
    go_wp2_with (go_at_call 154; refine (qbm _ _ hv).mono ?_; rintro e w' ⟨rfl, rfl⟩)
    exact ⟨⟨k + 1, by omega, by go_num, hb.setCell (by simp) _, h0.other _ _ (by simp), qi5 h1 HE.out⟩, by simp [intOf]; omega⟩
  ·obtain ⟨ms, HM⟩ : ∃ ms, Hid (ms = row 16 (fm c)) := ⟨_, rfl⟩
   have hB : wr.heap[w.heap.size + 1]? = some (.cells ms 183 (0, 0)) := by rw [HM.out]; exact qi2 h1 (by omega)
   have hO : wr.heap[w.heap.size]? = some (.cells zs 183 (0, 0)) := by rw [HZ.out]; exact h0
   have hsz : (Tryz.prog.info? 183).map (·.size) = some ms.size := by rw [HM.out, qa5]; exact qkx
   have hol : zs.size = ms.size := by rw [HZ.out, HM.out, qa5, qa5]
   have hone : ms.all (·.oneCell') = true := by rw [HM.out]; exact row_one _ _
   clear h0 h1
   go_wp2_with (first | (refine wpList_load_row rfl 183 _ rfl (w.heap.size + 1) rfl 183 ms (0, 0) _ hB Tryz.underlying183 rfl hsz ?_) | (refine wpList_store_row rfl 183 _ _ rfl w.heap.size ms rfl rfl 183 zs hO hsz hol hone ?_))
   exact bodyPost_ret (results_cell_row Tryz.results156 _ _ w.heap.size 183 ms (0, 0) _ rfl (setRow_heap _ _ _ _ _ _ hO) Tryz.underlying183 rfl hsz) rfl ⟨ms, HM, rfl, below_setRow hb (Nat.le_refl _) _⟩
theorem qi6 (w : World) (c : Nat) (hc : c < 256) : Calls Tryz.prog 156 #[.int .u8 (c : Int)] w fun e w' => ∃ ms, Hid (ms = row 16 (fm c)) ∧ e = .returned (.agg ms) ∧ Below w.heap.size w w' := mult_raw w c hc _ rfl
open Go.RowKit
theorem fm16_all : allB (fun e => Nat.beq (e % 16 ^^^ 16 * (e / 16)) e) 256 = true := by kernel_rfl
theorem qhc : allB (fun m => Nat.beq (fm 16 m) (16 * m)) 16 = true := by kernel_rfl
theorem halves (c e : Nat) (hc : c < 256) (he : e < 256) : fm c (e % 16) ^^^ fm (fm c 16) (e / 16) = fm c e := by
 have h1 := qb3 fm16_all e he
 have h2 := qb3 qhc (e / 16) (by omega)
 simp only [Nat.beq_eq] at h1 h2
 rw [qam c 16 _ hc (by decide), h2, ← qf3, h1]
theorem and15_u8 (e : Nat) (he : e < 256) : bits .and .u8 (e : Int) 15 = ((e % 16 : Nat) : Int) := by
 have := u8_and_nat e 15 he (by decide)
 rw [nat_mask4] at this
 exact this
theorem qc0 {w2 : World} {Z Y : Array Value} {t : TypeId} (ms ns : Array Value) :
  ((((w2.alloc (.cells Z t)).alloc (.cells Y t)).setRow w2.heap.size ms).setRow (w2.heap.size + 1) ns).heap[w2.heap.size]? = some (.cells ms t (0, 0)) ∧
  ((((w2.alloc (.cells Z t)).alloc (.cells Y t)).setRow w2.heap.size ms).setRow (w2.heap.size + 1) ns).heap[w2.heap.size + 1]? = some (.cells ns t (0, 0)) := by
 refine ⟨?_, ?_⟩
 ·rw [setRow_other _ _ _ _ (by omega), setRow_heap _ _ _ _ _ _ (heap_alloc2_old ..)]
 ·refine setRow_heap _ _ (old := Y) _ _ _ ?_
  rw [setRow_other _ _ _ _ (by omega)]
  exact heap_alloc2_new ..
theorem qez {w w2 : World} {Z Y : Array Value} {t : TypeId} (ms ns : Array Value) (h : Below w.heap.size w w2) :
  Below w.heap.size w ((((w2.alloc (.cells Z t)).alloc (.cells Y t)).setRow w2.heap.size ms).setRow (w2.heap.size + 1) ns) := by
 have := h.size
 exact below_setRow (below_setRow ((h.alloc this _).alloc (by simp; omega) _) this _) (by omega) _
theorem qje {w w' : World} {row : Option Nat} (h : w.grownBy w' row) : w.grownBy w'.drew row := ⟨h.os, h.tape, h.output, h.size, h.block⟩
theorem addp_raw (w : World) (g n np c ca : Nat) (a : Option Addr) (f h : Nat → Nat) (hc : c < 256) (hr : RowAt w g 5 n f) (hf : ∀ i, i < n → f i < 256) (ha : Sl w a n h) (ho : 0 < n → Off g a) (hn : n ≤ 140737488351232) (zs : Array Value) (HZ : Hid (zs = row 16 fun _ => 0)) :
  Calls Tryz.prog 139 #[.slice (some ⟨g, 0, none⟩) n np, .int .u8 (c : Int), .slice a n ca] w fun e w' => e = .returned (.tuple #[]) ∧ RowAt w' g 5 n (fun i => f i ^^^ fm c (h i)) ∧ w.grownBy w' (some g) := by
 have z : ∀ w, Sem.run Tryz.prog (zeroValue 183) w = .ok (.agg zs) w := by rw [HZ.out]; exact zero63
 obtain ⟨q, HQ⟩ : ∃ q, Hid (fm c 16 = q) := ⟨_, rfl⟩
 have hq : q < 256 := by rw [← HQ.out]; exact qat c 16 hc
 have HMul : Hid (∀ w, Calls Tryz.prog 157 #[.int .u8 (c : Int), .int .u8 16] w fun e w' => e = .returned (.int .u8 (q : Int)) ∧ w' = w) := by rw [← HQ.out]; exact fun w => mul_nat c 16 w hc (by decide)
 have HR : Hid (RowAt w g 5 n f) := hr
 have HA : Hid (Sl w a n h) := ha
 have HO : Hid (0 < n → Off g a) := ho
 have HF : Hid (∀ i, i < n → f i < 256) := hf
 clear hr ha ho hf
 go_enter Tryz.func139, Tryz.ntmps139
 go_wp2_with (first
  | (go_at_call 156; have _x := hb1; refine (qi6 _ q hq).mono ?_; rintro e w2 ⟨ns, HN, rfl, hb2⟩; have hk2 : Hid _ := facts 183 16 (fm q) ns zs qkx HN HZ)
  | (go_at_call 156; refine (qi6 _ c hc).mono ?_; rintro e w1 ⟨ms, HM, rfl, hb1⟩; have hk1 : Hid _ := facts 183 16 (fm c) ms zs qkx HM HZ)
  | (go_at_call 157; refine (HMul.out _).mono ?_; rintro e w' ⟨rfl, hwq⟩; subst hwq)
  | (refine wpList_store_row rfl 183 (.tmp 6) _ rfl w2.heap.size ms rfl rfl 183 zs (heap_alloc2_old ..) hk1.out.1 hk1.out.2.1 hk1.out.2.2 ?_)
  | (refine wpList_store_row rfl 183 (.tmp 7) _ rfl (w2.heap.size + 1) ns rfl rfl 183 zs (by rw [setRow_other _ _ _ _ (by omega)]; exact heap_alloc2_new ..) hk2.out.1 hk2.out.2.1 hk2.out.2.2 ?_))
 clear HMul z
 go_loopw [17] (fun i wr => ∃ k : Nat, k ≤ n ∧ i = .int .i64 (k : Int) ∧ RowAt wr g 5 n (fun j => if j < k then f j ^^^ fm c (h j) else f j) ∧ RowAt wr w2.heap.size 183 16 (fm c) ∧ RowAt wr (w2.heap.size + 1) 183 16 (fm q) ∧ w.grownBy wr (some g)) (fun i _ => n - (intOf i).toNat)
 case atStart =>
  have hbel := qez (Z := zs) (Y := zs) (t := 183) ms ns (qa0 hb1 hb2)
  refine ⟨0, by omega, rfl, qi3 (HR.out.later hbel), ?_, ?_, qey hbel _⟩
  ·unfold RowAt; rw [← HM.out]; exact (qc0 ms ns).1
  ·unfold RowAt; rw [← HN.out]; exact (qc0 ms ns).2
 case round =>
  obtain ⟨k, hk, rfl, hr, hl, hh, hgr⟩ := hrel
  have hgw := HR.out.lt
  have hs1 := hb1.size
  have hs2 := hb2.size
  have hg1 : g ≠ w2.heap.size := by omega
  have hg2 : g ≠ w2.heap.size + 1 := by omega
  clear hb1 hb2 hk1 hk2
  by_cases hlt : k < n
  ·obtain ⟨bb, o, eb, hcb⟩ := (HA.out.kept hgr (HO.out (by omega))).2 k hlt
   obtain ⟨x, HX⟩ : ∃ x, Hid (h k = x) := ⟨_, rfl⟩
   rw [HX.out] at hcb
   have hx : x < 256 := by rw [← HX.out]; exact HA.out.1 k hlt
   obtain ⟨y, HY⟩ : ∃ y, Hid (f k = y) := ⟨_, rfl⟩
   have hy : y < 256 := by rw [← HY.out]; exact HF.out k hlt
   obtain ⟨lo, hlo, hlo2⟩ : ∃ lo : Nat, bits .and .u8 (x : Int) 15 = (lo : Int) ∧ lo = x % 16 := ⟨_, and15_u8 x hx, rfl⟩
   obtain ⟨hi, hhi, hhi2⟩ : ∃ hi : Nat, (x : Int) / 16 = (hi : Int) ∧ hi = x / 16 := ⟨x / 16, by omega, rfl⟩
   have hlol : lo < 16 := by omega
   have hhil : hi < 16 := by omega
   obtain ⟨p1, hp1, HP1⟩ : ∃ p : Nat, p < 256 ∧ Hid (fm c lo = p) := ⟨_, qat c _ hc, rfl⟩
   obtain ⟨p2, hp2, HP2⟩ : ∃ p : Nat, p < 256 ∧ Hid (fm q hi = p) := ⟨_, qat q _ hq, rfl⟩
   have HE : Hid (y ^^^ (p1 ^^^ p2) = f k ^^^ fm c (h k)) := by
    show _ = _
    rw [HY.out, HX.out, ← HP1.out, ← HP2.out, ← HQ.out, hlo2, hhi2, halves c x hc hx]
   have hc1 : wr.cell? ⟨g, k, none⟩ = some (.int .u8 (y : Int)) := by rw [qi4 hr hlt, HY.out]
   have hf1 := hr.free k
   have hc2 : wr.cell? ⟨w2.heap.size, lo, none⟩ = some (.int .u8 (p1 : Int)) := by rw [hl.cell lo hlol, HP1.out]
   have hc3 : wr.cell? ⟨w2.heap.size + 1, hi, none⟩ = some (.int .u8 (p2 : Int)) := by rw [hh.cell hi hhil, HP2.out]
   have hx1 : bits .xor .u8 (p1 : Int) (p2 : Int) = ((p1 ^^^ p2 : Nat) : Int) := u8_xor_nat _ _ hp1 hp2
   obtain ⟨p3, hp3, HP3⟩ : ∃ p : Nat, p < 256 ∧ Hid (p1 ^^^ p2 = p) := ⟨_, qbd _ _ hp1 hp2, rfl⟩
   rw [HP3.out] at hx1
   have hx2 : bits .xor .u8 (y : Int) (p3 : Int) = ((y ^^^ p3 : Nat) : Int) := u8_xor_nat _ _ hy hp3
   have R : Hid (RowAt (wr.setCell ⟨g, k, none⟩ (.int .u8 (y ^^^ p3 : Nat))) g 5 n (fun j => if j < k + 1 then f j ^^^ fm c (h j) else f j) ∧ RowAt (wr.setCell ⟨g, k, none⟩ (.int .u8 (y ^^^ p3 : Nat))) w2.heap.size 183 16 (fm c) ∧ RowAt (wr.setCell ⟨g, k, none⟩ (.int .u8 (y ^^^ p3 : Nat))) (w2.heap.size + 1) 183 16 (fm q) ∧ w.grownBy (wr.setCell ⟨g, k, none⟩ (.int .u8 (y ^^^ p3 : Nat))) (some g)) :=
    ⟨qi5 (f' := fun j => f j ^^^ fm c (h j)) hr (by rw [← HP3.out]; exact HE.out), hl.other _ _ (Ne.symm hg1), hh.other _ _ (Ne.symm hg2), qba hgr (qa3 _ _ _ _)⟩
   clear hr hl hh hgr hlo2 hhi2 HE
   subst eb
   go_wp2
   go_region
   go_wp2
   exact ⟨⟨k + 1, by omega, by go_num, R.out.1, R.out.2.1, R.out.2.2.1, qje R.out.2.2.2⟩, by simp [intOf]; omega⟩
  ·go_wp2
   go_end0
   exact ⟨rfl, qi2 hr (by omega), hgr⟩
theorem qi7 (w : World) (g n np c ca : Nat) (a : Option Addr) (f h : Nat → Nat) (hc : c < 256) (hr : RowAt w g 5 n f) (hf : ∀ i, i < n → f i < 256) (ha : Sl w a n h) (ho : 0 < n → Off g a) (hn : n ≤ 140737488351232) :
  Calls Tryz.prog 139 #[.slice (some ⟨g, 0, none⟩) n np, .int .u8 (c : Int), .slice a n ca] w fun e w' => e = .returned (.tuple #[]) ∧ RowAt w' g 5 n (fun i => f i ^^^ fm c (h i)) ∧ w.grownBy w' (some g) :=
 addp_raw w g n np c ca a f h hc hr hf ha ho hn _ rfl
open Go.RowKit
theorem below_grown {w w1 w2 : World} (h1 : Below w.heap.size w w1) (h2 : w1.grownBy w2 (some w.heap.size)) : Below w.heap.size w w2 :=
 h1.grown h2 h1.size (fun k hk => by cases hk; exact Nat.le_refl _)
theorem qky (w : World) (a : Option Addr) (n c ca : Nat) (h : Nat → Nat) (hc : c < 256) (ha : Sl w a n h) (hn : n ≤ 140737488351232) :
  Calls Tryz.prog 128 #[.int .u8 (c : Int), .slice a n ca] w fun e w' => e = .returned (.slice (some ⟨w.heap.size, 0, none⟩) n n) ∧ RowAt w' w.heap.size 5 n (fun i => fm c (h i)) ∧ Below w.heap.size w w' := by
 obtain ⟨i0, hi, hz0, hz1, hz2⟩ := info_parts qee
 have hml : n ≤ maxLen := by unfold maxLen; omega
 have HA : Hid (Sl w a n h) := ha
 clear ha
 go_enter Tryz.func128, Tryz.ntmps128
 go_wp2_with (first
  | (at_make; refine wpList_make_full _ rfl _ _ 22 rfl w.heap.size 5 i0 (.int .u8 0) 1 Tryz.underlying22 hi hz0 hz1 .i64 .i64 _ _ n rfl rfl rfl rfl (by rw [hz2]; omega) hml (Nat.le_refl _) ?_; intro w1 hown hgrow; have HR : Hid _ := qct hown; have HB : Hid _ := qa8.mp hgrow; clear hown hgrow)
  | (go_at_call 139; refine (qi7 _ w.heap.size n n c ca a (fun _ => 0) h hc HR.out (fun _ _ => by decide) (HA.out.later HB.out) (qgn HA.out (Nat.le_refl _)) hn).mono ?_; rintro e w2 ⟨rfl, hr2, hg2⟩))
 go_ret
 exact ⟨rfl, RowAt.congr (by assumption) (fun i _ => Nat.zero_xor _), below_grown HB.out (by assumption)⟩
theorem mac_any (w : World) (a b : Option Addr) (n c ca cb : Nat) (f h : Nat → Nat) (hc : c < 256) (ha : Sl w a n f) (hb : Sl w b n h) (hn : n ≤ 140737488351232) :
  Calls Tryz.prog 141 #[.slice a n ca, .int .u8 (c : Int), .slice b n cb] w fun e w' => e = .returned (.tuple #[.slice (some ⟨w.heap.size, 0, none⟩) n n, .int .i64 0]) ∧ RowAt w' w.heap.size 5 n (fun i => f i ^^^ fm c (h i)) ∧ Below w.heap.size w w' := by
 have HA : Hid (Sl w a n f) := ha
 have HS : Hid (Sl w b n h) := hb
 clear ha hb
 go_enter Tryz.func141, Tryz.ntmps141
 go_wp2_with (first
  | (go_at_call 158; refine (copy_any _ _ _ _ f HA.out hn).mono ?_; rintro e w1 ⟨rfl, hr1, hb1⟩; have HR : Hid _ := hr1; have HB : Hid _ := hb1; clear hr1 hb1)
  | (go_at_call 139; refine (qi7 _ w.heap.size n n c cb b f h hc HR.out HA.out.1 (HS.out.later HB.out) (qgn HS.out (Nat.le_refl _)) hn).mono ?_; rintro e w2 ⟨rfl, hr2, hg2⟩))
 go_ret2
 exact ⟨rfl, by assumption, below_grown HB.out (by assumption)⟩
open Go.RowKit
theorem qi8 (k : Nat) (f : Nat → Nat) : (row k f).toList ++ [.int .u8 (f k : Nat)] = (row (k + 1) f).toList := by
 simp [row, List.range_succ]
theorem qbn (f : Nat → Nat) : (row 0 f).toList = [] := by simp [row]
theorem qag {w : World} {base : Nat} {e : TypeId} {s : Nat} {v : Value} {n : Nat} {xs : List Value} (h : w.ownsRow base e s v n xs) : ∀ k, v.ownBlock = some k → base ≤ k := by
 intro k hk
 rcases h.2 with ⟨rfl, _⟩ | ⟨g, cap, cur, rfl, hb, _⟩
 ·simp [Value.ownBlock] at hk
 ·simp [Value.ownBlock] at hk; omega
theorem qkz (w : World) (t : TypeId) (x : Nat) : ∀ j u, [Value.int .u8 (x : Int)][j]? = some u → (w.alloc (.cells #[.int .u8 (x : Int)] t)).cell? ((⟨w.heap.size, 0, none⟩ : Addr).add j) = some u := by
 intro j u hj
 match j, hj with
 | 0, hj => simp at hj; subst hj; simp [Addr.add]
theorem one_one (x : Nat) : ∀ u ∈ [Value.int .u8 (x : Int)], u.oneCell' = true := by intro u hu; simp at hu; subst hu; rfl
theorem ql0 (a b : Nat) (w : World) (ha : a < 256) (hb : b < 256) : Calls Tryz.prog 114 #[.int .u8 (a : Int), .int .u8 (b : Int)] w fun e w' => e = .returned (.int .u8 (fm a b : Nat)) ∧ w = w' :=
 (qfu a b w ha hb).mono fun _ _ h => ⟨h.1, h.2.symm⟩
theorem grow_step {w wr w3 : World} {o : Obj} {base : Nat} {e : TypeId} {s n : Nat} {v : Value} {xs : List Value} (hb : Below w.heap.size w wr) (ho : wr.ownsRow w.heap.size e s v n xs) (hg : (wr.alloc o).grownBy w3 v.ownBlock) (_h : base = 0) : Below w.heap.size w w3 :=
 (hb.alloc hb.size o).grown hg (by have := hb.size; simp; omega) (qag ho)
theorem qjf (w : World) (a : Option Addr) (n c ca : Nat) (h : Nat → Nat) (hc : c < 256) (ha : Sl w a n h) (hn : n ≤ 140737488351232) :
  Calls Tryz.prog 123 #[.int .u8 (c : Int), .slice a n ca] w fun e w' => ∃ v, e = .returned v ∧ w'.ownsRow w.heap.size 5 1 v n (row n (fun i => fm c (h i))).toList ∧ Below w.heap.size w w' := by
 obtain ⟨i0, hi, hz0, hz1, hz2⟩ := info_parts qee
 have HA : Hid (Sl w a n h) := ha
 clear ha
 obtain ⟨p, HP⟩ : ∃ p : Nat → Nat, Hid ((fun i => fm c (h i)) = p) := ⟨_, rfl⟩
 rw [HP.out]
 go_enter Tryz.func123, Tryz.ntmps123
 go_wp2
 go_loopw [5, 6] (fun v i wr => ∃ k : Nat, k ≤ n ∧ i = .int .i64 (k : Int) ∧ wr.ownsRow w.heap.size 5 1 v k (row k p).toList ∧ Below w.heap.size w wr) (fun _ i _ => n - (intOf i).toNat)
 case atStart => exact ⟨0, by omega, rfl, by rw [qbn]; exact World.ownsRow_nil _ _ _ _, Below.refl _ _⟩
 case round =>
  obtain ⟨k, hk, rfl, hown, hbr⟩ := hrel
  by_cases hlt : k < n
  ·obtain ⟨ba, oa, ea, hca⟩ := (HA.out.later hbr).2 k hlt
   have hx := HA.out.1 k hlt
   have HPk : Hid (fm c (h k) = p k) := congrFun HP.out k
   have HO : Hid (wr.ownsRow w.heap.size 5 1 u5 k (row k p).toList) := hown
   have HB : Hid (Below w.heap.size w wr) := hbr
   have hsz := hbr.size
   have hml : k + 1 ≤ maxLen := by unfold maxLen; omega
   have HMul : Hid (∀ w, Calls Tryz.prog 114 #[.int .u8 (c : Int), .int .u8 (h k : Int)] w fun e w' => e = .returned (.int .u8 (p k : Int)) ∧ w = w') := by rw [← HPk.out]; exact fun w => ql0 c (h k) w hc hx
   clear HA hown hbr
   subst ea
   go_wp2_with (first
    | (go_at_call 114; refine (HMul.out _).mono ?_; rintro e w' ⟨rfl, rfl⟩)
    | (at_builtin; refine wpList_append_own _ rfl _ _ 22 rfl w.heap.size 5 i0 (.int .u8 0) 1 1 Tryz.underlying22 hi hz0 hz1 hz2 rfl (by decide) _ k _ rfl (HO.out.alloc _) ⟨wr.heap.size, 0, none⟩ 1 1 [.int .u8 (p k : Nat)] rfl rfl (qkz _ _ _) (one_one _) hml (by omega) (by simp; omega) ?_; intro v' w3 hown' hgrow' _; have HO3 : Hid _ := hown'; have HB3 : Hid _ := grow_step HB.out HO.out hgrow' rfl; clear hown' hgrow'))
   exact ⟨⟨k + 1, by omega, by go_num, by rw [← qi8]; exact HO3.out, HB3.out⟩, by simp [intOf]; omega⟩
  ·obtain rfl : k = n := by omega
   go_wp2
   go_ret
   exact ⟨_, rfl, hown, hbr⟩
open Go.RowKit
/-- What is owned reads as a list. -/
theorem ql1 {w : World} {base : Nat} {v : Value} {n : Nat} {f : Nat → Nat} (h : w.ownsRow base 5 1 v n (row n f).toList) (hf : ∀ i, i < n → f i < 256) : ∃ a c, v = .slice a n c ∧ Sl w a n f ∧ From base a := by
 rcases h.2 with ⟨rfl, rfl⟩ | ⟨g, cap, cur, rfl, hb, hg, _, _, _, htake⟩
 ·exact ⟨none, 0, rfl, Sl.nil _ _ _, fun x hx => by cases hx⟩
 ·refine ⟨_, cap, rfl, ⟨hf, fun i hi => ⟨g, 0, rfl, ?_⟩⟩, fun x hx => by cases hx; exact hb⟩
  rw [Nat.zero_add, cell_of_row w g i cur _ _ hg]
  have e : (cur.toList.take (n * 1))[i]? = (row n f).toList[i]? := by rw [htake]
  rw [List.getElem?_take, if_pos (by omega)] at e
  rw [Array.getElem?_toList, Array.getElem?_toList, qb9 n f i hi] at e
  exact e
open Go.RowKit
theorem ql2 (w : World) (a : Option Addr) (len cap : Nat) (zs : List Int)
  (h : (a = none ∧ len = 0 ∧ cap = 0 ∧ zs = []) ∨ ∃ x, a = some x ∧ len ≤ cap ∧ cap ≤ 140737488351232 ∧ zs.length = cap ∧ (∀ i, i < zs.length → w.cell? (x.add i) = some (.int .u8 (zs.getD i 0))) ∧ ∀ n ∈ zs, (Lit.int .u8 n).wf = true) :
  ∃ f : Nat → Nat, Sl w a len f ∧ len ≤ 140737488351232 ∧ (a = none → len = 0 ∧ cap = 0) := by
 rcases h with ⟨rfl, rfl, rfl, rfl⟩ | ⟨x, rfl, hl, hm, hz, hcell, hwz⟩
 ·exact ⟨fun _ => 0, Sl.nil _ _ _, by omega, fun _ => ⟨rfl, rfl⟩⟩
 ·refine ⟨fun i => (zs.getD i 0).toNat, ⟨?_, ?_⟩, by omega, fun h => by cases h⟩
  ·intro i hi
   have hi' : i < zs.length := by omega
   have := byte_of_wf (hwz zs[i] (List.getElem_mem hi'))
   have hb := byte_toNat this
   simpa [List.getD, hi'] using hb
  ·intro i hi
   have hi' : i < zs.length := by omega
   have hc := hcell i hi'
   obtain ⟨b, off, spot⟩ := x
   have hspot : spot = none := by
    have h0 := hcell 0 (by omega)
    simpa [Addr.add] using World.cell?_spot h0
   subst hspot
   refine ⟨b, off, rfl, ?_⟩
   have hplain : (⟨b, off, none⟩ : Addr).add i = ⟨b, off + i, none⟩ := by unfold Addr.add; split <;> simp_all
   rw [hplain] at hc
   rw [hc]
   have hw := byte_of_wf (hwz zs[i] (List.getElem_mem hi'))
   have e : zs.getD i 0 = zs[i] := by simp [List.getD, hi']
   have hw0 := hw.1
   simp only [e]
   congr 2
   omega
/-! ### The calls, told by what their answers read as -/
open Go.RowKit
theorem qca {w w1 : World} {n : Nat} {f : Nat → Nat} {ad : Addr} (ha : Sl w (some ad) n f) (hb : Below w.heap.size w w1) : ∀ j u, (row n f).toList[j]? = some u → w1.cell? (ad.add j) = some u := by
 intro j v hj
 obtain ⟨hjn, rfl⟩ := qbv n f j v hj
 obtain ⟨b', o', e', hc⟩ := (ha.later hb).2 j hjn
 cases e'
 have hplain : (⟨b', o', none⟩ : Addr).add j = ⟨b', o' + j, none⟩ := by unfold Addr.add; split <;> simp_all
 rw [hplain]
 exact hc
theorem qcb (n : Nat) (f : Nat → Nat) : ∀ u ∈ (row n f).toList, u.oneCell' = true := by
 intro v hv
 obtain ⟨j, hj⟩ := List.getElem?_of_mem hv
 rw [(qbv n f j v hj).2]; rfl
theorem ql3 (w : World) (a : Option Addr) (n c : Nat) (f : Nat → Nat) (ha : Sl w a n f) (hn : n ≤ 140737488351232) (h0 : a = none → n = 0 ∧ c = 0) :
  Calls Tryz.prog 56 #[.slice a n c] w fun e w' => ∃ v, e = .returned v ∧ w'.ownsRow w.heap.size 5 1 v n (row n f).toList ∧ Below w.heap.size w w' := by
 obtain ⟨i0, hi, hz0, hz1, hz2⟩ := info_parts qee
 have hml : 0 + n ≤ maxLen := by unfold maxLen; omega
 have HA : Hid (Sl w a n f) := ha
 obtain ⟨xs, HX⟩ : ∃ xs, Hid (xs = (row n f).toList) := ⟨_, rfl⟩
 have hlen : xs.length = n * 1 := by rw [HX.out]; simp [qa5]
 have HO0 : Hid ((w.alloc (.cells #[] 5)).ownsRow w.heap.size 5 1 (.slice (some ⟨w.heap.size, 0, none⟩) 0 0) 0 []) := World.ownsRow_lit w #[] 0 (Nat.le_refl _) (by unfold maxLen; omega) rfl
 have HB0 : Hid (Below w.heap.size w (w.alloc (.cells #[] 5))) := (Below.refl _ _).alloc (Nat.le_refl _) _
 rw [← HX.out]
 cases a with
 | none =>
  obtain ⟨rfl, rfl⟩ := h0 rfl
  have HE : Hid (xs = []) := List.eq_nil_of_length_eq_zero (by simpa using hlen)
  clear ha h0 hlen
  go_enter Tryz.func56, Tryz.ntmps56
  go_wp2_with (at_builtin; refine wpList_append_own_none rfl _ _ 22 rfl w.heap.size 5 i0 1 Tryz.underlying22 hi _ 0 [] rfl HO0.out rfl ?_)
  go_ret
  exact ⟨_, rfl, by rw [HE.out]; exact HO0.out, HB0.out⟩
 | some ad =>
  have HN : Hid (∀ j u, xs[j]? = some u → (w.alloc (.cells #[] 5)).cell? (ad.add j) = some u) := by rw [HX.out]; exact qca ha HB0.out
  have H1 : Hid (∀ u ∈ xs, u.oneCell' = true) := by rw [HX.out]; exact qcb n f
  clear ha h0
  go_enter Tryz.func56, Tryz.ntmps56
  go_wp2_with (at_builtin; refine wpList_append_own _ rfl _ _ 22 rfl w.heap.size 5 i0 (.int .u8 0) 1 1 Tryz.underlying22 hi hz0 hz1 hz2 rfl (by decide) _ 0 [] rfl HO0.out ad n c xs rfl hlen HN.out H1.out hml (by omega) (by simp) ?_; intro v' w3 hown' hgrow' _; have HO3 : Hid (w3.ownsRow w.heap.size 5 1 v' (0 + n) ([] ++ xs)) := hown'; have HG3 : Hid ((w.alloc (.cells #[] 5)).grownBy w3 (some w.heap.size)) := hgrow'; clear hown' hgrow')
  go_ret
  exact ⟨_, rfl, by simpa using HO3.out, HB0.out.grown HG3.out (by simp) (fun k hk => by cases hk; exact Nat.le_refl _)⟩
theorem qfv {w : World} {base n c : Nat} {e : TypeId} {s : Option Addr} {xs : List Value} (h : w.ownsRow base e 1 (.slice s n c) n xs) (hn : 0 < n) : ∃ g, s = some ⟨g, 0, none⟩ := by
 rcases h.2 with ⟨_, h0⟩ | ⟨g, cap, cur, hv, _⟩
 ·omega
 ·cases hv; exact ⟨g, rfl⟩
/-- What stays behind a Spoil of another block. -/
theorem Sl.beside {w w' : World} {a : Option Addr} {n : Nat} {f : Nat → Nat} {g : Nat} (h : Sl w a n f) (hg : w.grownBy w' (some g)) (ho : 0 < n → Off g a) : Sl w' a n f := by
 by_cases hn : 0 < n
 ·exact h.kept hg (ho hn)
 ·obtain rfl : n = 0 := by omega
  exact Sl.nil _ _ _
theorem qa9 {w w1 w2 : World} {g : Nat} (h : Below w.heap.size w w1) (hg : w1.grownBy w2 (some g)) (hb : w.heap.size ≤ g) : Below w.heap.size w w2 :=
 h.grown hg h.size (fun k hk => by cases hk; exact hb)
/-! Lists of the call's own. -/
theorem own_set {w : World} {base g n cp j v : Nat} {f : Nat → Nat} (h : w.ownsRow base 5 1 (.slice (some ⟨g, 0, none⟩) n cp) n (row n f).toList) :
  (w.setCell ⟨g, j, none⟩ (.int .u8 (v : Int))).ownsRow base 5 1 (.slice (some ⟨g, 0, none⟩) n cp) n (row n (fun i => if i = j then v else f i)).toList := by
 have := (h.stored j (.int .u8 (v : Int))).1
 rw [← qks, Array.toList_setIfInBounds]
 exact this
theorem own_cong {w : World} {base n : Nat} {v : Value} {f f' : Nat → Nat} (h : w.ownsRow base 5 1 v n (row n f).toList) (e : ∀ i, i < n → f i = f' i) : w.ownsRow base 5 1 v n (row n f').toList := by
 rw [← qed n f f' e]; exact h
theorem own_byte {w : World} {base g n cp j : Nat} {f : Nat → Nat} (h : w.ownsRow base 5 1 (.slice (some ⟨g, 0, none⟩) n cp) n (row n f).toList) (hj : j < n) : w.cell? ⟨g, j, none⟩ = some (.int .u8 (f j : Nat)) := by
 rw [h.cellAt j (by omega), Array.getElem?_toList, qb9 n f j hj]
theorem qfw {w w' : World} {base n g : Nat} {v : Value} {xs : List Value} (h : w.ownsRow base 5 1 v n xs) (hg : w.grownBy w' (some g)) (hne : v.ownBlock ≠ some g) : w'.ownsRow base 5 1 v n xs :=
 h.kept hg (.inr hne)
theorem qd2 {w : World} {B B' n : Nat} {v : Value} {xs : List Value} (h : w.ownsRow B 5 1 v n xs) (hB : B' ≤ B) : w.ownsRow B' 5 1 v n xs := by
 refine ⟨h.1, ?_⟩
 rcases h.2 with h' | ⟨g, cap, cur, e, hb, r⟩
 ·exact .inl h'
 ·exact .inr ⟨g, cap, cur, e, by omega, r⟩
theorem own_lt {w : World} {B n : Nat} {v : Value} {xs : List Value} (h : w.ownsRow B 5 1 v n xs) : v.ownBlock ≠ some w.heap.size := by
 rcases h.2 with ⟨rfl, _⟩ | ⟨g, cap, cur, rfl, hb, hg, _⟩
 ·simp [Value.ownBlock]
 ·have := lt_of_block hg
  simp [Value.ownBlock]; omega
end Go.Proofs.YtblagbghpfopcaaGreat
