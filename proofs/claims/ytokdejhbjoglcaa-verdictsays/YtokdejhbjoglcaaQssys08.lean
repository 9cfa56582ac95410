/-
  Contracts of addProducts, Scale, Mac.
  Contracts of Scale, Mac.
  Contracts of the reference's Dot, Scale, Mac.
-/
import Derived.Test.YtokdejhbjoglcaaQssys00
import Derived.Test.YtokdejhbjoglcaaQssys07
import Derived.Deep.QuietTactic
import Derived.BigQuiet
import Derived.Deep.RegionHeld3
import Derived.Deep.AppendLies
set_option maxRecDepth 100000
set_option maxHeartbeats 16000000
namespace Go.Proofs.Ytokdejhbjoglcaa
open Go.RowKit
theorem fm16_all : allB (fun e => Nat.beq (e % 16 ^^^ 16 * (e / 16)) e) 256 = true := by kernel_rfl
theorem qet : allB (fun m => Nat.beq (fm 16 m) (16 * m)) 16 = true := by kernel_rfl
theorem halves (c e : Nat) (hc : c < 256) (he : e < 256) : fm c (e % 16) ^^^ fm (fm c 16) (e / 16) = fm c e := by
 have h1 := qak fm16_all e he
 have h2 := qak qet (e / 16) (by omega)
 simp only [Nat.beq_eq] at h1 h2
 rw [qag c 16 _ hc (by decide), h2, ← qdj, h1]
theorem and15_u8 (e : Nat) (he : e < 256) : bits .and .u8 (e : Int) 15 = ((e % 16 : Nat) : Int) := by
 have := u8_and_nat e 15 he (by decide)
 rw [nat_mask4] at this
 exact this
theorem qb7 {w2 : World} {Z Y : Array Value} {t : TypeId} (ms ns : Array Value) :
  ((((w2.alloc (.cells Z t)).alloc (.cells Y t)).setRow w2.heap.size ms).setRow (w2.heap.size + 1) ns).heap[w2.heap.size]? = some (.cells ms t (0, 0)) ∧
  ((((w2.alloc (.cells Z t)).alloc (.cells Y t)).setRow w2.heap.size ms).setRow (w2.heap.size + 1) ns).heap[w2.heap.size + 1]? = some (.cells ns t (0, 0)) := by
 refine ⟨?_, ?_⟩
 ·rw [setRow_other _ _ _ _ (by omega), setRow_heap _ _ _ _ _ _ (heap_alloc2_old ..)]
 ·refine setRow_heap _ _ (old := Y) _ _ _ ?_
  rw [setRow_other _ _ _ _ (by omega)]
  exact heap_alloc2_new ..
theorem qdh {w w2 : World} {Z Y : Array Value} {t : TypeId} (ms ns : Array Value) (h : Below w.heap.size w w2) :
  Below w.heap.size w ((((w2.alloc (.cells Z t)).alloc (.cells Y t)).setRow w2.heap.size ms).setRow (w2.heap.size + 1) ns) := by
 have := h.size
 exact below_setRow (below_setRow ((h.alloc this _).alloc (by simp; omega) _) this _) (by omega) _
theorem qg9 {w w' : World} {row : Option Nat} (h : w.grownBy w' row) : w.grownBy w'.drew row := ⟨h.os, h.tape, h.output, h.size, h.block⟩
theorem addp_raw (w : World) (g n np c ca : Nat) (a : Option Addr) (f h : Nat → Nat) (hc : c < 256) (hr : RowAt w g 5 n f) (hf : ∀ i, i < n → f i < 256) (ha : Sl w a n h) (ho : 0 < n → Off g a) (hn : n ≤ 140737488351232) (zs : Array Value) (HZ : Hid (zs = row 16 fun _ => 0)) :
  Calls Try.prog 92 #[.slice (some ⟨g, 0, none⟩) n np, .int .u8 (c : Int), .slice a n ca] w fun e w' => e = .returned (.tuple #[]) ∧ RowAt w' g 5 n (fun i => f i ^^^ fm c (h i)) ∧ w.grownBy w' (some g) := by
 have z : ∀ w, Sem.run Try.prog (zeroValue 129) w = .ok (.agg zs) w := by rw [HZ.out]; exact zero63
 obtain ⟨q, HQ⟩ : ∃ q, Hid (fm c 16 = q) := ⟨_, rfl⟩
 have hq : q < 256 := by rw [← HQ.out]; exact qah c 16 hc
 have HMul : Hid (∀ w, Calls Try.prog 102 #[.int .u8 (c : Int), .int .u8 16] w fun e w' => e = .returned (.int .u8 (q : Int)) ∧ w' = w) := by rw [← HQ.out]; exact fun w => mul_nat c 16 w hc (by decide)
 have HR : Hid (RowAt w g 5 n f) := hr
 have HA : Hid (Sl w a n h) := ha
 have HO : Hid (0 < n → Off g a) := ho
 have HF : Hid (∀ i, i < n → f i < 256) := hf
 clear hr ha ho hf
 go_enter Try.func92, Try.ntmps92
 go_wp2_with (first
  | (go_at_call 101; have _x := hb1; refine (qfa _ q hq).mono ?_; rintro e w2 ⟨ns, HN, rfl, hb2⟩; have hk2 : Hid _ := facts 129 16 (fm q) ns zs qh4 HN HZ)
  | (go_at_call 101; refine (qfa _ c hc).mono ?_; rintro e w1 ⟨ms, HM, rfl, hb1⟩; have hk1 : Hid _ := facts 129 16 (fm c) ms zs qh4 HM HZ)
  | (go_at_call 102; refine (HMul.out _).mono ?_; rintro e w' ⟨rfl, hwq⟩; subst hwq)
  | (refine wpList_store_row rfl 129 (.tmp 6) _ rfl w2.heap.size ms rfl rfl 129 zs (heap_alloc2_old ..) hk1.out.1 hk1.out.2.1 hk1.out.2.2 ?_)
  | (refine wpList_store_row rfl 129 (.tmp 7) _ rfl (w2.heap.size + 1) ns rfl rfl 129 zs (by rw [setRow_other _ _ _ _ (by omega)]; exact heap_alloc2_new ..) hk2.out.1 hk2.out.2.1 hk2.out.2.2 ?_))
 clear HMul z
 go_loopw [17] (fun i wr => ∃ k : Nat, k ≤ n ∧ i = .int .i64 (k : Int) ∧ RowAt wr g 5 n (fun j => if j < k then f j ^^^ fm c (h j) else f j) ∧ RowAt wr w2.heap.size 129 16 (fm c) ∧ RowAt wr (w2.heap.size + 1) 129 16 (fm q) ∧ w.grownBy wr (some g)) (fun i _ => n - (intOf i).toNat)
 case atStart =>
  have hbel := qdh (Z := zs) (Y := zs) (t := 129) ms ns (qa1 hb1 hb2)
  refine ⟨0, by omega, rfl, qf7 (HR.out.later hbel), ?_, ?_, qdg hbel _⟩
  ·unfold RowAt; rw [← HM.out]; exact (qb7 ms ns).1
  ·unfold RowAt; rw [← HN.out]; exact (qb7 ms ns).2
 case round =>
  obtain ⟨k, hk, rfl, hr, hl, hh, hgr⟩ := hrel
  have hgw := HR.out.lt
  have hs1 := hb1.size
  have hs2 := hb2.size
  have hg1 : g ≠ w2.heap.size := by omega
  have hg2 : g ≠ w2.heap.size + 1 := by omega
  clear hb1 hb2 hk1 hk2
  by_cases hlt : k < n
  ·obtain ⟨bb, o, eb, hcb⟩ := (HA.out.kept hgr (HO.out (by omega))).2 k hlt
   obtain ⟨x, HX⟩ : ∃ x, Hid (h k = x) := ⟨_, rfl⟩
   rw [HX.out] at hcb
   have hx : x < 256 := by rw [← HX.out]; exact HA.out.1 k hlt
   obtain ⟨y, HY⟩ : ∃ y, Hid (f k = y) := ⟨_, rfl⟩
   have hy : y < 256 := by rw [← HY.out]; exact HF.out k hlt
   obtain ⟨lo, hlo, hlo2⟩ : ∃ lo : Nat, bits .and .u8 (x : Int) 15 = (lo : Int) ∧ lo = x % 16 := ⟨_, and15_u8 x hx, rfl⟩
   obtain ⟨hi, hhi, hhi2⟩ : ∃ hi : Nat, (x : Int) / 16 = (hi : Int) ∧ hi = x / 16 := ⟨x / 16, by omega, rfl⟩
   have hlol : lo < 16 := by omega
   have hhil : hi < 16 := by omega
   obtain ⟨p1, hp1, HP1⟩ : ∃ p : Nat, p < 256 ∧ Hid (fm c lo = p) := ⟨_, qah c _ hc, rfl⟩
   obtain ⟨p2, hp2, HP2⟩ : ∃ p : Nat, p < 256 ∧ Hid (fm q hi = p) := ⟨_, qah q _ hq, rfl⟩
   have HE : Hid (y ^^^ (p1 ^^^ p2) = f k ^^^ fm c (h k)) := by
    show _ = _
    rw [HY.out, HX.out, ← HP1.out, ← HP2.out, ← HQ.out, hlo2, hhi2, halves c x hc hx]
   have hc1 : wr.cell? ⟨g, k, none⟩ = some (.int .u8 (y : Int)) := by rw [qf8 hr hlt, HY.out]
   have hf1 := hr.free k
   have hc2 : wr.cell? ⟨w2.heap.size, lo, none⟩ = some (.int .u8 (p1 : Int)) := by rw [hl.cell lo hlol, HP1.out]
   have hc3 : wr.cell? ⟨w2.heap.size + 1, hi, none⟩ = some (.int .u8 (p2 : Int)) := by rw [hh.cell hi hhil, HP2.out]
   have hx1 : bits .xor .u8 (p1 : Int) (p2 : Int) = ((p1 ^^^ p2 : Nat) : Int) := u8_xor_nat _ _ hp1 hp2
   obtain ⟨p3, hp3, HP3⟩ : ∃ p : Nat, p < 256 ∧ Hid (p1 ^^^ p2 = p) := ⟨_, qba _ _ hp1 hp2, rfl⟩
   rw [HP3.out] at hx1
   have hx2 : bits .xor .u8 (y : Int) (p3 : Int) = ((y ^^^ p3 : Nat) : Int) := u8_xor_nat _ _ hy hp3
   have R : Hid (RowAt (wr.setCell ⟨g, k, none⟩ (.int .u8 (y ^^^ p3 : Nat))) g 5 n (fun j => if j < k + 1 then f j ^^^ fm c (h j) else f j) ∧ RowAt (wr.setCell ⟨g, k, none⟩ (.int .u8 (y ^^^ p3 : Nat))) w2.heap.size 129 16 (fm c) ∧ RowAt (wr.setCell ⟨g, k, none⟩ (.int .u8 (y ^^^ p3 : Nat))) (w2.heap.size + 1) 129 16 (fm q) ∧ w.grownBy (wr.setCell ⟨g, k, none⟩ (.int .u8 (y ^^^ p3 : Nat))) (some g)) :=
    ⟨qf9 (f' := fun j => f j ^^^ fm c (h j)) hr (by rw [← HP3.out]; exact HE.out), hl.other _ _ (Ne.symm hg1), hh.other _ _ (Ne.symm hg2), qaq hgr (qa2 _ _ _ _)⟩
   clear hr hl hh hgr hlo2 hhi2 HE
   subst eb
   go_wp2
   go_region
   go_wp2
   exact ⟨⟨k + 1, by omega, by go_num, R.out.1, R.out.2.1, R.out.2.2.1, qg9 R.out.2.2.2⟩, by simp [intOf]; omega⟩
  ·go_wp2
   go_end0
   exact ⟨rfl, qf6 hr (by omega), hgr⟩
theorem qfb (w : World) (g n np c ca : Nat) (a : Option Addr) (f h : Nat → Nat) (hc : c < 256) (hr : RowAt w g 5 n f) (hf : ∀ i, i < n → f i < 256) (ha : Sl w a n h) (ho : 0 < n → Off g a) (hn : n ≤ 140737488351232) :
  Calls Try.prog 92 #[.slice (some ⟨g, 0, none⟩) n np, .int .u8 (c : Int), .slice a n ca] w fun e w' => e = .returned (.tuple #[]) ∧ RowAt w' g 5 n (fun i => f i ^^^ fm c (h i)) ∧ w.grownBy w' (some g) :=
 addp_raw w g n np c ca a f h hc hr hf ha ho hn _ rfl
open Go.RowKit
theorem below_grown {w w1 w2 : World} (h1 : Below w.heap.size w w1) (h2 : w1.grownBy w2 (some w.heap.size)) : Below w.heap.size w w2 :=
 h1.grown h2 h1.size (fun k hk => by cases hk; exact Nat.le_refl _)
theorem qh5 (w : World) (a : Option Addr) (n c ca : Nat) (h : Nat → Nat) (hc : c < 256) (ha : Sl w a n h) (hn : n ≤ 140737488351232) :
  Calls Try.prog 98 #[.int .u8 (c : Int), .slice a n ca] w fun e w' => e = .returned (.slice (some ⟨w.heap.size, 0, none⟩) n n) ∧ RowAt w' w.heap.size 5 n (fun i => fm c (h i)) ∧ Below w.heap.size w w' := by
 obtain ⟨i0, hi, hz0, hz1, hz2⟩ := info_parts qer
 have hml : n ≤ maxLen := by unfold maxLen; omega
 have HA : Hid (Sl w a n h) := ha
 clear ha
 go_enter Try.func98, Try.ntmps98
 go_wp2_with (first
  | (at_make; refine wpList_make_full _ rfl _ _ 22 rfl w.heap.size 5 i0 (.int .u8 0) 1 Try.underlying22 hi hz0 hz1 .i64 .i64 _ _ n rfl rfl rfl rfl (by rw [hz2]; omega) hml (Nat.le_refl _) ?_; intro w1 hown hgrow; have HR : Hid _ := qes hown; have HB : Hid _ := qa8.mp hgrow; clear hown hgrow)
  | (go_at_call 92; refine (qfb _ w.heap.size n n c ca a (fun _ => 0) h hc HR.out (fun _ _ => by decide) (HA.out.later HB.out) (qeb HA.out (Nat.le_refl _)) hn).mono ?_; rintro e w2 ⟨rfl, hr2, hg2⟩))
 go_ret
 exact ⟨rfl, RowAt.congr (by assumption) (fun i _ => Nat.zero_xor _), below_grown HB.out (by assumption)⟩
theorem mac_any (w : World) (a b : Option Addr) (n c ca cb : Nat) (f h : Nat → Nat) (hc : c < 256) (ha : Sl w a n f) (hb : Sl w b n h) (hn : n ≤ 140737488351232) :
  Calls Try.prog 75 #[.slice a n ca, .int .u8 (c : Int), .slice b n cb] w fun e w' => e = .returned (.tuple #[.slice (some ⟨w.heap.size, 0, none⟩) n n, .int .i64 0]) ∧ RowAt w' w.heap.size 5 n (fun i => f i ^^^ fm c (h i)) ∧ Below w.heap.size w w' := by
 have HA : Hid (Sl w a n f) := ha
 have HS : Hid (Sl w b n h) := hb
 clear ha hb
 go_enter Try.func75, Try.ntmps75
 go_wp2_with (first
  | (go_at_call 91; refine (copy_any _ _ _ _ f HA.out hn).mono ?_; rintro e w1 ⟨rfl, hr1, hb1⟩; have HR : Hid _ := hr1; have HB : Hid _ := hb1; clear hr1 hb1)
  | (go_at_call 92; refine (qfb _ w.heap.size n n c cb b f h hc HR.out HA.out.1 (HS.out.later HB.out) (qeb HS.out (Nat.le_refl _)) hn).mono ?_; rintro e w2 ⟨rfl, hr2, hg2⟩))
 go_ret2
 exact ⟨rfl, by assumption, below_grown HB.out (by assumption)⟩
open Go.RowKit
theorem qfc (k : Nat) (f : Nat → Nat) : (row k f).toList ++ [.int .u8 (f k : Nat)] = (row (k + 1) f).toList := by
 simp [row, List.range_succ]
theorem qbb (f : Nat → Nat) : (row 0 f).toList = [] := by simp [row]
theorem qac {w : World} {base : Nat} {e : TypeId} {s : Nat} {v : Value} {n : Nat} {xs : List Value} (h : w.ownsRow base e s v n xs) : ∀ k, v.ownBlock = some k → base ≤ k := by
 intro k hk
 rcases h.2 with ⟨rfl, _⟩ | ⟨g, cap, cur, rfl, hb, _⟩
 ·simp [Value.ownBlock] at hk
 ·simp [Value.ownBlock] at hk; omega
theorem qh6 (w : World) (t : TypeId) (x : Nat) : ∀ j u, [Value.int .u8 (x : Int)][j]? = some u → (w.alloc (.cells #[.int .u8 (x : Int)] t)).cell? ((⟨w.heap.size, 0, none⟩ : Addr).add j) = some u := by
 intro j u hj
 match j, hj with
 | 0, hj => simp at hj; subst hj; simp [Addr.add]
theorem one_one (x : Nat) : ∀ u ∈ [Value.int .u8 (x : Int)], u.oneCell' = true := by intro u hu; simp at hu; subst hu; rfl
theorem qh7 (a b : Nat) (w : World) (ha : a < 256) (hb : b < 256) : Calls Try.prog 60 #[.int .u8 (a : Int), .int .u8 (b : Int)] w fun e w' => e = .returned (.int .u8 (fm a b : Nat)) ∧ w = w' :=
 (qdv a b w ha hb).mono fun _ _ h => ⟨h.1, h.2.symm⟩
theorem grow_step {w wr w3 : World} {o : Obj} {base : Nat} {e : TypeId} {s n : Nat} {v : Value} {xs : List Value} (hb : Below w.heap.size w wr) (ho : wr.ownsRow w.heap.size e s v n xs) (hg : (wr.alloc o).grownBy w3 v.ownBlock) (_h : base = 0) : Below w.heap.size w w3 :=
 (hb.alloc hb.size o).grown hg (by have := hb.size; simp; omega) (qac ho)
theorem qga (w : World) (a : Option Addr) (n c ca : Nat) (h : Nat → Nat) (hc : c < 256) (ha : Sl w a n h) (hn : n ≤ 140737488351232) :
  Calls Try.prog 63 #[.int .u8 (c : Int), .slice a n ca] w fun e w' => ∃ v, e = .returned v ∧ w'.ownsRow w.heap.size 5 1 v n (row n (fun i => fm c (h i))).toList ∧ Below w.heap.size w w' := by
 obtain ⟨i0, hi, hz0, hz1, hz2⟩ := info_parts qer
 have HA : Hid (Sl w a n h) := ha
 clear ha
 obtain ⟨p, HP⟩ : ∃ p : Nat → Nat, Hid ((fun i => fm c (h i)) = p) := ⟨_, rfl⟩
 rw [HP.out]
 go_enter Try.func63, Try.ntmps63
 go_wp2
 go_loopw [5, 6] (fun v i wr => ∃ k : Nat, k ≤ n ∧ i = .int .i64 (k : Int) ∧ wr.ownsRow w.heap.size 5 1 v k (row k p).toList ∧ Below w.heap.size w wr) (fun _ i _ => n - (intOf i).toNat)
 case atStart => exact ⟨0, by omega, rfl, by rw [qbb]; exact World.ownsRow_nil _ _ _ _, Below.refl _ _⟩
 case round =>
  obtain ⟨k, hk, rfl, hown, hbr⟩ := hrel
  by_cases hlt : k < n
  ·obtain ⟨ba, oa, ea, hca⟩ := (HA.out.later hbr).2 k hlt
   have hx := HA.out.1 k hlt
   have HPk : Hid (fm c (h k) = p k) := congrFun HP.out k
   have HO : Hid (wr.ownsRow w.heap.size 5 1 u5 k (row k p).toList) := hown
   have HB : Hid (Below w.heap.size w wr) := hbr
   have hsz := hbr.size
   have hml : k + 1 ≤ maxLen := by unfold maxLen; omega
   have HMul : Hid (∀ w, Calls Try.prog 60 #[.int .u8 (c : Int), .int .u8 (h k : Int)] w fun e w' => e = .returned (.int .u8 (p k : Int)) ∧ w = w') := by rw [← HPk.out]; exact fun w => qh7 c (h k) w hc hx
   clear HA hown hbr
   subst ea
   go_wp2_with (first
    | (go_at_call 60; refine (HMul.out _).mono ?_; rintro e w' ⟨rfl, rfl⟩)
    | (at_builtin; refine wpList_append_own _ rfl _ _ 22 rfl w.heap.size 5 i0 (.int .u8 0) 1 1 Try.underlying22 hi hz0 hz1 hz2 rfl (by decide) _ k _ rfl (HO.out.alloc _) ⟨wr.heap.size, 0, none⟩ 1 1 [.int .u8 (p k : Nat)] rfl rfl (qh6 _ _ _) (one_one _) hml (by omega) (by simp; omega) ?_; intro v' w3 hown' hgrow' _; have HO3 : Hid _ := hown'; have HB3 : Hid _ := grow_step HB.out HO.out hgrow' rfl; clear hown' hgrow'))
   exact ⟨⟨k + 1, by omega, by go_num, by rw [← qfc]; exact HO3.out, HB3.out⟩, by simp [intOf]; omega⟩
  ·obtain rfl : k = n := by omega
   go_wp2
   go_ret
   exact ⟨_, rfl, hown, hbr⟩
end Go.Proofs.Ytokdejhbjoglcaa
