/-
  Contracts of copyOf, Sum, Dot.
  Contracts of multiples, addProducts, Scale, Mac.
-/
import Derived.Test.YtkfnedpnkeacpaaQmmde00
import Derived.Test.YtkfnedpnkeacpaaQmmde03
import Derived.Laws.CopyOwn
import Derived.RegionTactic
import Derived.BigRegion
set_option maxRecDepth 100000
set_option maxHeartbeats 16000000
namespace Go.Proofs.Ytkfnedpnkeacpaa
open Go.RowKit
theorem qbu : (Try.prog.info? 5).map (fun i => (i.zero, i.size, i.bytes)) = some (some (.int .u8 0), 1, 1) := by kernel_rfl
theorem qbv (n : Nat) (f : Nat → Nat) (j : Nat) (v : Value) (h : (row n f).toList[j]? = some v) : j < n ∧ v = .int .u8 (f j : Nat) := by
 have hj : j < (row n f).toList.length := (List.getElem?_eq_some_iff.1 h).1
 have hj' : j < n := by simpa [qa3] using hj
 refine ⟨hj', ?_⟩
 have e := qd3 n f j hj'
 rw [← Array.getElem?_toList] at e
 rw [e] at h
 simpa using h.symm
theorem qem {w1 : World} {base g n : Nat} (h : w1.ownsRow base 5 1 (.slice (some ⟨g, 0, none⟩) n n) n (madeCells (Value.int .u8 0).cells (n * 1)).toList) : RowAt w1 g 5 n (fun _ => 0) := by
 refine qel h ?_
 rw [Nat.mul_one]
 exact congrArg Array.toList (qdf n)
theorem row_step {wr : World} {g k n : Nat} {t : TypeId} {f f' : Nat → Nat} (h : RowAt wr g t n (fun j => if j < k then f' j else f j)) :
  RowAt (wr.setCell ⟨g, k, none⟩ (.int .u8 (f' k : Nat))) g t n (fun j => if j < k + 1 then f' j else f j) :=
 (h.set k (f' k)).congr (by
  intro i _
  by_cases e : i = k
  ·subst e; simp
  ·by_cases e2 : i < k
   ·simp [e, e2, show i < k + 1 by omega]
   ·simp [e, e2, show ¬ i < k + 1 by omega])
theorem qdg {wr : World} {g k n : Nat} {t : TypeId} {f f' : Nat → Nat} (h : RowAt wr g t n (fun j => if j < k then f' j else f j)) (hk : n ≤ k) : RowAt wr g t n f' :=
 h.congr (by intro i hi; simp [show i < k by omega])
theorem qdh {wr : World} {g n : Nat} {t : TypeId} {f f' : Nat → Nat} (h : RowAt wr g t n f) : RowAt wr g t n (fun j => if j < 0 then f' j else f j) :=
 h.congr (by intro i hi; simp)
theorem qdi {wr : World} {g k n : Nat} {t : TypeId} {f f' : Nat → Nat} (h : RowAt wr g t n (fun j => if j < k then f' j else f j)) (hk : k < n) : wr.cell? ⟨g, k, none⟩ = some (.int .u8 (f k : Nat)) := by
 have := h.cell k hk
 simpa using this
open Go.RowKit
theorem zero63 (w : World) : Sem.run Try.prog (zeroValue 98) w = .ok (.agg (row 16 fun _ => 0)) w := by kernel_rfl
theorem qen : (Try.prog.info? 98).map (·.size) = some 16 := by kernel_rfl
theorem odd_all : allB (fun k => Nat.beq (k % 2) 0 || Nat.beq (2 * (k / 2) ^^^ 1) k) 16 = true := by kernel_rfl
theorem mul_even (c k : Nat) (hc : c < 256) (hk : k < 16) (h : k % 2 = 0) : dbl (fm c (k / 2)) = fm c k := by
 rw [← qdd c _ hc (by omega), qbr _ (by omega), show 2 * (k / 2) = k by omega]
theorem mul_odd (c k : Nat) (hc : c < 256) (hk : k < 16) (h : k % 2 = 1) : dbl (fm c (k / 2)) ^^^ c = fm c k := by
 have e := qap odd_all k hk
 simp only [Bool.or_eq_true, Nat.beq_eq] at e
 have e2 : 2 * (k / 2) ^^^ 1 = k := by omega
 have e3 := qeh c (2 * (k / 2)) 1
 rw [e2, fm_one c hc] at e3
 rw [e3, ← qdd c _ hc (by omega), qbr _ (by omega)]
theorem RowAt.put {w : World} {b : Nat} {t : TypeId} {n : Nat} {f : Nat → Nat} (h : RowAt w b t n f) (i v : Nat) (F : Nat → Nat) (hF : ∀ j, j < n → F j = if j = i then v else f j) : RowAt (w.setCell ⟨b, i, none⟩ (.int .u8 (v : Int))) b t n F :=
 (h.set i v).congr (fun j hj => (hF j hj).symm)
theorem qdj {w : World} {b : Nat} {t : TypeId} {n k v : Nat} {f f' : Nat → Nat} (h : RowAt w b t n (fun j => if j < k then f' j else f j)) (hv : v = f' k) : RowAt (w.setCell ⟨b, k, none⟩ (.int .u8 (v : Int))) b t n (fun j => if j < k + 1 then f' j else f j) := by
 subst hv; exact row_step h
theorem row_put2 {w : World} {b : Nat} {t : TypeId} {n k u v : Nat} {f f' : Nat → Nat} (h : RowAt w b t n (fun j => if j < k then f' j else f j)) (hv : v = f' k) : RowAt ((w.setCell ⟨b, k, none⟩ (.int .u8 (u : Int))).setCell ⟨b, k, none⟩ (.int .u8 (v : Int))) b t n (fun j => if j < k + 1 then f' j else f j) := by
 subst hv
 refine (h.set k u).put k _ _ ?_
 intro j _
 by_cases e : j = k
 ·subst e; simp
 ·by_cases e2 : j < k
  ·simp [e, e2, show j < k + 1 by omega]
  ·simp [e, e2, show ¬ j < k + 1 by omega]
theorem mult_raw (w : World) (c : Nat) (hc : c < 256) (zs : Array Value) (HZ : Hid (zs = row 16 fun _ => 0)) : Calls Try.prog 62 #[.int .u8 (c : Int)] w fun e w' => ∃ ms, Hid (ms = row 16 (fm c)) ∧ e = .returned (.agg ms) ∧ Below w.heap.size w w' := by
 have z : ∀ w, Sem.run Try.prog (zeroValue 98) w = .ok (.agg zs) w := by rw [HZ.out]; exact zero63
 go_enter Try.func62, Try.ntmps62
 go_wp2
 clear z
 go_loopw [5] (fun i wr => ∃ k : Nat, k ≤ 16 ∧ i = .int .i64 (k : Int) ∧ Below w.heap.size w wr ∧ RowAt wr w.heap.size 98 16 (fun _ => 0) ∧ RowAt wr (w.heap.size + 1) 98 16 (fun j => if j < k then fm c j else 0)) (fun i _ => 16 - (intOf i).toNat)
 case atStart =>
  refine ⟨0, by omega, rfl, ((Below.refl _ _).alloc (Nat.le_refl _) _).alloc (by simp) _, ?_, qdh ?_⟩
  ·unfold RowAt; rw [← HZ.out]; exact heap_alloc2_old ..
  ·unfold RowAt; rw [← HZ.out]; exact heap_alloc2_new ..
 case round =>
  obtain ⟨k, hk, rfl, hb, h0, h1⟩ := hrel
  by_cases hlt : k < 16
  ·obtain ⟨m, hm⟩ : ∃ m : Nat, m = k / 2 := ⟨_, rfl⟩
   obtain ⟨v, HV, hc2⟩ : ∃ v : Nat, Hid (v = fm c (k / 2)) ∧ wr.cell? ⟨w.heap.size + 1, m, none⟩ = some (.int .u8 (v : Int)) := by
    refine ⟨_, rfl, ?_⟩
    rw [hm, h1.cell (k / 2) (by omega)]
    by_cases e : k / 2 < k
    ·rw [if_pos e]
    ·rw [if_neg e, show k / 2 = 0 by omega, qei]
   have hv : v < 256 := by rw [HV.out]; exact qcf c _ hc
   have hi2 : ((k : Int) / 2) = (m : Int) := by omega
   have hc1 := qdi h1 hlt
   have hf := h1.free k
   by_cases hp : k % 2 = 1
   ·have hp2 : ((k : Int) % 2 == 1) = true := by simp; omega
    have hd := qaw v hv
    have hxo : bits .xor .u8 (dbl v : Int) (c : Int) = ((dbl v ^^^ c : Nat) : Int) := u8_xor_nat _ _ hd hc
    have HE : Hid (dbl v ^^^ c = fm c k) := by show _ = _; rw [HV.out]; exact mul_odd c k hc hlt hp
    clear hm hp
    go_wp2_with (go_at_call 64; refine (qb2 _ _ hv).mono ?_; rintro e w' ⟨rfl, rfl⟩)
    exact ⟨⟨k + 1, by omega, by go_num, (hb.setCell (by simp) _).setCell (by simp) _, (h0.other _ _ (by simp)).other _ _ (by simp), row_put2 h1 HE.out⟩, by simp [intOf]; omega⟩
   ·have hp2 : ((k : Int) % 2 == 1) = false := by simp; omega
    have HE : Hid (dbl v = fm c k) := by show _ = _; rw [HV.out]; exact mul_even c k hc hlt (by omega)
    clear hm hp
    go_wp2_with (go_at_call 64; refine (qb2 _ _ hv).mono ?_; rintro e w' ⟨rfl, rfl⟩)
    exact ⟨⟨k + 1, by omega, by go_num, hb.setCell (by simp) _, h0.other _ _ (by simp), qdj h1 HE.out⟩, by simp [intOf]; omega⟩
  ·obtain ⟨ms, HM⟩ : ∃ ms, Hid (ms = row 16 (fm c)) := ⟨_, rfl⟩
   have hB : wr.heap[w.heap.size + 1]? = some (.cells ms 98 (0, 0)) := by rw [HM.out]; exact qdg h1 (by omega)
   have hO : wr.heap[w.heap.size]? = some (.cells zs 98 (0, 0)) := by rw [HZ.out]; exact h0
   have hsz : (Try.prog.info? 98).map (·.size) = some ms.size := by rw [HM.out, qa3]; exact qen
   have hol : zs.size = ms.size := by rw [HZ.out, HM.out, qa3, qa3]
   have hone : ms.all (·.oneCell') = true := by rw [HM.out]; exact row_one _ _
   clear h0 h1
   go_wp2_with (first | (refine wpList_load_row rfl 98 _ rfl (w.heap.size + 1) rfl 98 ms (0, 0) _ hB Try.underlying98 rfl hsz ?_) | (refine wpList_store_row rfl 98 _ _ rfl w.heap.size ms rfl rfl 98 zs hO hsz hol hone ?_))
   exact bodyPost_ret (results_cell_row Try.results62 _ _ w.heap.size 98 ms (0, 0) _ rfl (setRow_heap _ _ _ _ _ _ hO) Try.underlying98 rfl hsz) rfl ⟨ms, HM, rfl, below_setRow hb (Nat.le_refl _) _⟩
theorem qdk (w : World) (c : Nat) (hc : c < 256) : Calls Try.prog 62 #[.int .u8 (c : Int)] w fun e w' => ∃ ms, Hid (ms = row 16 (fm c)) ∧ e = .returned (.agg ms) ∧ Below w.heap.size w w' := mult_raw w c hc _ rfl
end Go.Proofs.Ytkfnedpnkeacpaa
