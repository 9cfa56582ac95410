/-
  Contracts of addProducts, Scale, Mac.
-/
import Derived.Test.YtkfnedpnkeacpaaQmmde00
import Derived.Test.YtkfnedpnkeacpaaQmmde04
set_option maxRecDepth 100000
set_option maxHeartbeats 16000000
namespace Go.Proofs.Ytkfnedpnkeacpaa
open Go.RowKit
theorem fm16_all : allB (fun e => Nat.beq (e % 16 ^^^ 16 * (e / 16)) e) 256 = true := by kernel_rfl
theorem qd4 : allB (fun m => Nat.beq (fm 16 m) (16 * m)) 16 = true := by kernel_rfl
theorem halves (c e : Nat) (hc : c < 256) (he : e < 256) : fm c (e % 16) ^^^ fm (fm c 16) (e / 16) = fm c e := by
 have h1 := qap fm16_all e he
 have h2 := qap qd4 (e / 16) (by omega)
 simp only [Nat.beq_eq] at h1 h2
 rw [fm_assoc c 16 _ hc (by decide), h2, ← qeh, h1]
theorem and15_u8 (e : Nat) (he : e < 256) : bits .and .u8 (e : Int) 15 = ((e % 16 : Nat) : Int) := by
 have := u8_and_nat e 15 he (by decide)
 rw [nat_mask4] at this
 exact this
theorem qat {w2 : World} {Z Y : Array Value} {t : TypeId} (ms ns : Array Value) :
  ((((w2.alloc (.cells Z t)).alloc (.cells Y t)).setRow w2.heap.size ms).setRow (w2.heap.size + 1) ns).heap[w2.heap.size]? = some (.cells ms t (0, 0)) ∧
  ((((w2.alloc (.cells Z t)).alloc (.cells Y t)).setRow w2.heap.size ms).setRow (w2.heap.size + 1) ns).heap[w2.heap.size + 1]? = some (.cells ns t (0, 0)) := by
 refine ⟨?_, ?_⟩
 ·rw [setRow_other _ _ _ _ (by omega), setRow_heap _ _ _ _ _ _ (heap_alloc2_old ..)]
 ·refine setRow_heap _ _ (old := Y) _ _ _ ?_
  rw [setRow_other _ _ _ _ (by omega)]
  exact heap_alloc2_new ..
theorem qc8 {w w2 : World} {Z Y : Array Value} {t : TypeId} (ms ns : Array Value) (h : Below w.heap.size w w2) :
  Below w.heap.size w ((((w2.alloc (.cells Z t)).alloc (.cells Y t)).setRow w2.heap.size ms).setRow (w2.heap.size + 1) ns) := by
 have := h.size
 exact below_setRow (below_setRow ((h.alloc this _).alloc (by simp; omega) _) this _) (by omega) _
theorem qdz {w w' : World} {row : Option Nat} (h : w.grownBy w' row) : w.grownBy w'.drew row := ⟨h.os, h.tape, h.output, h.size, h.block⟩
theorem addp_raw (w : World) (g n np c ca : Nat) (a : Option Addr) (f h : Nat → Nat) (hc : c < 256) (hr : RowAt w g 5 n f) (hf : ∀ i, i < n → f i < 256) (ha : Sl w a n h) (ho : 0 < n → Off g a) (hn : n ≤ 140737488351232) (zs : Array Value) (HZ : Hid (zs = row 16 fun _ => 0)) :
  Calls Try.prog 61 #[.slice (some ⟨g, 0, none⟩) n np, .int .u8 (c : Int), .slice a n ca] w fun e w' => e = .returned (.tuple #[]) ∧ RowAt w' g 5 n (fun i => f i ^^^ fm c (h i)) ∧ w.grownBy w' (some g) := by
 have z : ∀ w, Sem.run Try.prog (zeroValue 98) w = .ok (.agg zs) w := by rw [HZ.out]; exact zero63
 obtain ⟨q, HQ⟩ : ∃ q, Hid (fm c 16 = q) := ⟨_, rfl⟩
 have hq : q < 256 := by rw [← HQ.out]; exact qcf c 16 hc
 have HMul : Hid (∀ w, Calls Try.prog 63 #[.int .u8 (c : Int), .int .u8 16] w fun e w' => e = .returned (.int .u8 (q : Int)) ∧ w' = w) := by rw [← HQ.out]; exact fun w => mul_nat c 16 w hc (by decide)
 have HR : Hid (RowAt w g 5 n f) := hr
 have HA : Hid (Sl w a n h) := ha
 have HO : Hid (0 < n → Off g a) := ho
 have HF : Hid (∀ i, i < n → f i < 256) := hf
 clear hr ha ho hf
 go_enter Try.func61, Try.ntmps61
 go_wp2_with (first
  | (go_at_call 62; have _x := hb1; refine (qdk _ q hq).mono ?_; rintro e w2 ⟨ns, HN, rfl, hb2⟩; have hk2 : Hid _ := facts 98 16 (fm q) ns zs qen HN HZ)
  | (go_at_call 62; refine (qdk _ c hc).mono ?_; rintro e w1 ⟨ms, HM, rfl, hb1⟩; have hk1 : Hid _ := facts 98 16 (fm c) ms zs qen HM HZ)
  | (go_at_call 63; refine (HMul.out _).mono ?_; rintro e w' ⟨rfl, hwq⟩; subst hwq)
  | (refine wpList_store_row rfl 98 (.tmp 6) _ rfl w2.heap.size ms rfl rfl 98 zs (heap_alloc2_old ..) hk1.out.1 hk1.out.2.1 hk1.out.2.2 ?_)
  | (refine wpList_store_row rfl 98 (.tmp 7) _ rfl (w2.heap.size + 1) ns rfl rfl 98 zs (by rw [setRow_other _ _ _ _ (by omega)]; exact heap_alloc2_new ..) hk2.out.1 hk2.out.2.1 hk2.out.2.2 ?_))
 clear HMul z
 go_loopw [17] (fun i wr => ∃ k : Nat, k ≤ n ∧ i = .int .i64 (k : Int) ∧ RowAt wr g 5 n (fun j => if j < k then f j ^^^ fm c (h j) else f j) ∧ RowAt wr w2.heap.size 98 16 (fm c) ∧ RowAt wr (w2.heap.size + 1) 98 16 (fm q) ∧ w.grownBy wr (some g)) (fun i _ => n - (intOf i).toNat)
 case atStart =>
  have hbel := qc8 (Z := zs) (Y := zs) (t := 98) ms ns (qab hb1 hb2)
  refine ⟨0, by omega, rfl, qdh (HR.out.later hbel), ?_, ?_, qaf hbel _⟩
  ·unfold RowAt; rw [← HM.out]; exact (qat ms ns).1
  ·unfold RowAt; rw [← HN.out]; exact (qat ms ns).2
 case round =>
  obtain ⟨k, hk, rfl, hr, hl, hh, hgr⟩ := hrel
  have hgw := HR.out.lt
  have hs1 := hb1.size
  have hs2 := hb2.size
  have hg1 : g ≠ w2.heap.size := by omega
  have hg2 : g ≠ w2.heap.size + 1 := by omega
  clear hb1 hb2 hk1 hk2
  by_cases hlt : k < n
  ·obtain ⟨bb, o, eb, hcb⟩ := (HA.out.kept hgr (HO.out (by omega))).2 k hlt
   obtain ⟨x, HX⟩ : ∃ x, Hid (h k = x) := ⟨_, rfl⟩
   rw [HX.out] at hcb
   have hx : x < 256 := by rw [← HX.out]; exact HA.out.1 k hlt
   obtain ⟨y, HY⟩ : ∃ y, Hid (f k = y) := ⟨_, rfl⟩
   have hy : y < 256 := by rw [← HY.out]; exact HF.out k hlt
   obtain ⟨lo, hlo, hlo2⟩ : ∃ lo : Nat, bits .and .u8 (x : Int) 15 = (lo : Int) ∧ lo = x % 16 := ⟨_, and15_u8 x hx, rfl⟩
   obtain ⟨hi, hhi, hhi2⟩ : ∃ hi : Nat, (x : Int) / 16 = (hi : Int) ∧ hi = x / 16 := ⟨x / 16, by omega, rfl⟩
   have hlol : lo < 16 := by omega
   have hhil : hi < 16 := by omega
   obtain ⟨p1, hp1, HP1⟩ : ∃ p : Nat, p < 256 ∧ Hid (fm c lo = p) := ⟨_, qcf c _ hc, rfl⟩
   obtain ⟨p2, hp2, HP2⟩ : ∃ p : Nat, p < 256 ∧ Hid (fm q hi = p) := ⟨_, qcf q _ hq, rfl⟩
   have HE : Hid (y ^^^ (p1 ^^^ p2) = f k ^^^ fm c (h k)) := by
    show _ = _
    rw [HY.out, HX.out, ← HP1.out, ← HP2.out, ← HQ.out, hlo2, hhi2, halves c x hc hx]
   have hc1 : wr.cell? ⟨g, k, none⟩ = some (.int .u8 (y : Int)) := by rw [qdi hr hlt, HY.out]
   have hf1 := hr.free k
   have hc2 : wr.cell? ⟨w2.heap.size, lo, none⟩ = some (.int .u8 (p1 : Int)) := by rw [hl.cell lo hlol, HP1.out]
   have hc3 : wr.cell? ⟨w2.heap.size + 1, hi, none⟩ = some (.int .u8 (p2 : Int)) := by rw [hh.cell hi hhil, HP2.out]
   have hx1 : bits .xor .u8 (p1 : Int) (p2 : Int) = ((p1 ^^^ p2 : Nat) : Int) := u8_xor_nat _ _ hp1 hp2
   obtain ⟨p3, hp3, HP3⟩ : ∃ p : Nat, p < 256 ∧ Hid (p1 ^^^ p2 = p) := ⟨_, qdb _ _ hp1 hp2, rfl⟩
   rw [HP3.out] at hx1
   have hx2 : bits .xor .u8 (y : Int) (p3 : Int) = ((y ^^^ p3 : Nat) : Int) := u8_xor_nat _ _ hy hp3
   have R : Hid (RowAt (wr.setCell ⟨g, k, none⟩ (.int .u8 (y ^^^ p3 : Nat))) g 5 n (fun j => if j < k + 1 then f j ^^^ fm c (h j) else f j) ∧ RowAt (wr.setCell ⟨g, k, none⟩ (.int .u8 (y ^^^ p3 : Nat))) w2.heap.size 98 16 (fm c) ∧ RowAt (wr.setCell ⟨g, k, none⟩ (.int .u8 (y ^^^ p3 : Nat))) (w2.heap.size + 1) 98 16 (fm q) ∧ w.grownBy (wr.setCell ⟨g, k, none⟩ (.int .u8 (y ^^^ p3 : Nat))) (some g)) :=
    ⟨qdj (f' := fun j => f j ^^^ fm c (h j)) hr (by rw [← HP3.out]; exact HE.out), hl.other _ _ (Ne.symm hg1), hh.other _ _ (Ne.symm hg2), qac hgr (qa1 _ _ _ _)⟩
   clear hr hl hh hgr hlo2 hhi2 HE
   subst eb
   go_wp2
   go_region
   go_wp2
   exact ⟨⟨k + 1, by omega, by go_num, R.out.1, R.out.2.1, R.out.2.2.1, qdz R.out.2.2.2⟩, by simp [intOf]; omega⟩
  ·go_wp2
   go_end0
   exact ⟨rfl, qdg hr (by omega), hgr⟩
theorem addp_any (w : World) (g n np c ca : Nat) (a : Option Addr) (f h : Nat → Nat) (hc : c < 256) (hr : RowAt w g 5 n f) (hf : ∀ i, i < n → f i < 256) (ha : Sl w a n h) (ho : 0 < n → Off g a) (hn : n ≤ 140737488351232) :
  Calls Try.prog 61 #[.slice (some ⟨g, 0, none⟩) n np, .int .u8 (c : Int), .slice a n ca] w fun e w' => e = .returned (.tuple #[]) ∧ RowAt w' g 5 n (fun i => f i ^^^ fm c (h i)) ∧ w.grownBy w' (some g) :=
 addp_raw w g n np c ca a f h hc hr hf ha ho hn _ rfl
end Go.Proofs.Ytkfnedpnkeacpaa
