/-
  Contract of the generators' reference: Vandermonde.
  Contracts of the generators' reference: Vandermonde's error, top.
  Contracts of the generators' reference: Systematic, Check.
  Contract of the generators' reference: Check.
  Contract of the generators' reference: Cauchy.
  Contracts of the generators' reference: Cauchy's errors.
  Contracts of the generators' reference: fits, Reed.
  Contract of the generators' reference: Cross.
-/
import Derived.Test.YtblfldjlehjnbaaGe
import Derived.Test.YtblfldjlehjnbaaGa
import Derived.Test.YtblfldjlehjnbaaGf
import Derived.Test.YtblfldjlehjnbaaGi
import Derived.Test.YtblfldjlehjnbaaGs
namespace Go.Proofs.Ytblfldjlehjnbaa
open Go.RowKit
/-- The first q entries are written. -/
def upt (F : Nat → Nat) (q p : Nat) : Nat := if p < q then F p else 0
theorem upt_step (F : Nat → Nat) (q t : Nat) : (if t = q then F q else upt F q t) = upt F (q + 1) t := by
  unfold upt
  by_cases e : t = q
  · subst e; rw [if_pos rfl, if_pos (by omega)]
  · rw [if_neg e]
    by_cases h : t < q
    · rw [if_pos h, if_pos (by omega)]
    · rw [if_neg h, if_neg (by omega)]
theorem upt_all (F : Nat → Nat) {q t : Nat} (h : t < q) : upt F q t = F t := if_pos h
/-- The entries of Vandermonde's matrix with c columns. -/
def vdf (c p : Nat) : Nat := fpow (p / c) (p % c)
theorem vdf_lt (c p : Nat) : vdf c p < 256 := fpow_lt _ _
theorem vdf_at {c i j : Nat} (hj : j < c) : vdf c (i * c + j) = fpow i j := by unfold vdf; rw [dm1 hj, dm2 hj]
theorem pwv_nat {a j : Nat} (ha : a < 256) (hj : j < 255) : pwv a (j : Int) = fpow a j := by
  by_cases h0 : a = 0
  · subst h0
    cases j with
    | zero => rfl
    | succ j =>
      have : fpow 0 (j + 1) = 0 := by show fm _ _ = 0; first | exact zero_fm _ | exact fm_zero _
      rw [this]
      unfold pwv
      rw [if_neg (by omega), if_pos rfl]
  · rw [pwv_times a _ ha h0]
    congr 1
    unfold inb
    omega
/-- A matrix under way in its variable. -/
structure ZInv (w w1 wr : World) (g r c m : Nat) (f : Nat → Nat) : Prop where
  row : RowAt wr g 5 m f
  vm : Vr wr w1.heap.size (.int .i64 (r : Int)) (.int .i64 (c : Int)) (.slice (some ⟨g, 0, none⟩) m m)
  vr : Vr wr w.heap.size (.int .i64 0) (.int .i64 0) (.slice none 0 0)
  below : Below w.heap.size w wr
  lo : w.heap.size < g
  hi : g < w1.heap.size
theorem ZInv.later {w w1 wr w' : World} {g r c m : Nat} {f : Nat → Nat} (I : ZInv w w1 wr g r c m f) (hb : Below wr.heap.size wr w') : ZInv w w1 w' g r c m f := ⟨I.row.later hb, I.vm.later hb, I.vr.later hb, two_below I.below hb, I.lo, I.hi⟩
theorem ZInv.congr {w w1 wr : World} {g r c m : Nat} {f f' : Nat → Nat} (I : ZInv w w1 wr g r c m f) (e : ∀ i, i < m → f i = f' i) : ZInv w w1 wr g r c m f' := ⟨I.row.congr e, I.vm, I.vr, I.below, I.lo, I.hi⟩
theorem ZInv.set {w w1 wr : World} {g r c m p x : Nat} {f : Nat → Nat} (I : ZInv w w1 wr g r c m f) : ZInv w w1 (wr.setCell ⟨g, p, none⟩ (.int .u8 (x : Int))) g r c m (fun i => if i = p then x else f i) :=
  ⟨I.row.set p x, I.vm.kept (grown_setCell _ _ _ _) (by have := I.hi; omega), I.vr.kept (grown_setCell _ _ _ _) (by have := I.lo; omega), below_row I.below (grown_setCell _ _ _ _) (by have := I.lo; omega), I.lo, I.hi⟩
set_option maxRecDepth 20000 in
set_option maxHeartbeats 2000000 in
theorem rvdm_ok (w : World) (r c n : Nat) (hr : r ≤ 64) (hc : c ≤ 64) (HN : Hid (r * c = n)) :
    Calls Try.prog 10 #[.int .i64 (r : Int), .int .i64 (c : Int)] w fun e w' => ∃ g, e = .returned (.tuple #[mv r c (some ⟨g, 0, none⟩) n n, .int .i64 0]) ∧ RowAt w' g 5 n (vdf c) ∧ w.heap.size ≤ g ∧ Below w.heap.size w w' := by
  have HRt : Hid (Rt r c n) := ⟨hr, hc, HN.out⟩
  have hm : n ≤ 4096 := HRt.out.le
  go_enter Try.func10, Try.ntmps10
  go_wp2_with (first
    | (go_at_call 39; refine (rmake_ok _ r c n hr hc HN).mono ?_; rintro e w1 ⟨g, rfl, hr1, hg1, hb1⟩; have HR : Hid (RowAt w1 g 5 n (fun _ => 0)) := hr1; have hg2 : w.heap.size + 1 ≤ g := (by { have := hg1; simpa using this }); have HB : Hid (Below w.heap.size w w1) := two_below (alloc_low _ _) hb1; have HV : Hid (Vr w1 w.heap.size (.int .i64 0) (.int .i64 0) (.slice none 0 0)) := (Vr.new w _ _ _).later hb1; clear hr1 hg1 hb1))
  have HI0 : Hid (ZInv w w1 (w1.alloc (.cells #[.int .i64 (r : Int), .int .i64 (c : Int), .slice (some ⟨g, 0, none⟩) n n] 24)) g r c n (upt (vdf c) 0)) := ⟨(HR.out.later (alloc_low _ _)).congr (fun i _ => (if_neg (by omega)).symm), Vr.new w1 _ _ _, HV.out.later (alloc_low _ _), two_below HB.out (alloc_low _ _), by omega, HR.out.lt⟩
  clear HR HB HV
  go_loopw [8] (fun si wr => ∃ i : Nat, i ≤ r ∧ si = .int .i64 (i : Int) ∧ ZInv w w1 wr g r c n (upt (vdf c) (i * c))) (fun si _ => r - (intOf si).toNat)
  case atStart => exact ⟨0, by omega, rfl, HI0.out.congr (fun _ _ => by rw [Nat.zero_mul])⟩
  case round =>
    clear HI0
    obtain ⟨i, hi, rfl, I⟩ := hrel
    have HI : Hid (ZInv w w1 wr g r c n (upt (vdf c) (i * c))) := I
    have c0 := I.vm.c0
    have c1 := I.vm.c1
    have c2 := I.vm.c2
    clear I
    by_cases hlt : i < r
    · go_wp2
      go_loopw [9] (fun sj wr => ∃ j : Nat, j ≤ c ∧ sj = .int .i64 (j : Int) ∧ ZInv w w1 wr g r c n (upt (vdf c) (i * c + j))) (fun sj _ => c - (intOf sj).toNat)
      case atStart => exact ⟨0, by omega, rfl, HI.out⟩
      case round =>
        clear HI c0 c1 c2
        obtain ⟨j, hj, rfl, I⟩ := hrel
        have HI : Hid (ZInv w w1 wr g r c n (upt (vdf c) (i * c + j))) := I
        have c0 := I.vm.c0
        have c1 := I.vm.c1
        have c2 := I.vm.c2
        by_cases hlj : j < c
        · obtain ⟨P, HP⟩ : ∃ x, Hid (i * c + j = x) := ⟨_, rfl⟩
          have hpn : P < n := by rw [← HP.out]; exact HRt.out.at hlt hlj
          have hd := I.row.cell P hpn
          have hf := I.row.free P
          obtain ⟨x, HX⟩ : ∃ x, Hid (fpow i j = x) := ⟨_, rfl⟩
          obtain ⟨E, HE⟩ : ∃ x, Hid (pwe i (j : Int) = x) := ⟨_, rfl⟩
          have HPow : Hid (∀ w, Calls Try.prog 40 #[.int .u8 (i : Int), .int .i64 (j : Int)] w fun e w' => e = .returned (.tuple #[.int .u8 (x : Int), .int .i64 E]) ∧ w = w') := fun w => (rpow_any i (j : Int) w (by omega) ⟨by omega, by omega⟩).mono fun _ _ h => ⟨by rw [h.1, pwv_nat (by omega) (by omega), HX.out, HE.out], h.2.symm⟩
          have e1 : ((i : Int) * (c : Int)) = ((i * c : Nat) : Int) := by simp
          have hmp : i * c ≤ P := by rw [← HP.out]; omega
          have w1' : IntKind.i64.wrap ((i : Int) * (c : Int)) = (i : Int) * (c : Int) := by rw [e1, IntKind.wrap_i64]; omega
          have w2' : IntKind.i64.wrap ((i : Int) * (c : Int) + (j : Int)) = (P : Int) := by rw [e1, IntKind.wrap_i64]; have := HP.out; omega
          have w3' : IntKind.u8.wrap (i : Int) = (i : Int) := by rw [IntKind.wrap_u8]; omega
          have p0 : (0 : Int) ≤ (P : Int) := by omega
          have p1 : (P : Int) < (n : Int) := by omega
          have HN1 : Hid (ZInv w w1 (wr.drew.setCell ⟨g, P, none⟩ (.int .u8 (x : Int))) g r c n (upt (vdf c) (i * c + (j + 1)))) := ((I.later (Below.refl _ _).drew).set (p := P) (x := x)).congr (fun t _ => by
            rw [← HX.out, ← HP.out, ← vdf_at hlj]
            exact upt_step (vdf c) (i * c + j) t)
          have HD : Hid (wr.drew.cell? ⟨w1.heap.size, 1, none⟩ = some (.int .i64 (c : Int)) ∧ wr.drew.cell? ⟨w1.heap.size, 2, none⟩ = some (.slice (some ⟨g, 0, none⟩) n n)) := ⟨c1, c2⟩
          have HD2 : Hid ((wr.drew.setCell ⟨g, P, none⟩ (.int .u8 (x : Int))).cell? ⟨w1.heap.size, 1, none⟩ = some (.int .i64 (c : Int)) ∧ (wr.drew.setCell ⟨g, P, none⟩ (.int .u8 (x : Int))).cell? ⟨w1.heap.size, 2, none⟩ = some (.slice (some ⟨g, 0, none⟩) n n)) := ⟨HN1.out.vm.c1, HN1.out.vm.c2⟩
          clear I e1
          go_wp2
          refine wp_region_held (S := fun w' => w'.cell? ⟨w1.heap.size, 1, none⟩ = some (.int .i64 (c : Int)) ∧ w'.cell? ⟨w1.heap.size, 2, none⟩ = some (.slice (some ⟨g, 0, none⟩) n n)) (by kernel_rfl) ?_
          change wpAnyH _ _ _ _ _ _ _ _ wr.drew
          refine wpAnyH_take (i := 0) (v := ?va0) rfl (by kernel_rfl) (by kernel_rfl) (by kernel_rfl) (fun _ _ _ h => h) (Or.inl ⟨by rfl, ?ya0⟩) HD.out ?za0
          case ya0 => (intro w hSw; (try dsimp only at hSw); go_simp; try with_reducible rfl)
          try simp only [List.getElem_toArray, List.getElem_cons_zero, Act.put, List.setIfInBounds_toArray, List.set_cons_zero, List.set_cons_succ]
          refine wpAnyH_take (i := 1) (v := ?va1) rfl (by kernel_rfl) (by kernel_rfl) (by kernel_rfl) (fun _ _ _ h => h) (Or.inl ⟨by rfl, ?ya1⟩) HD.out ?za1
          case ya1 => (intro w hSw; (try dsimp only at hSw); go_simp; try with_reducible rfl)
          try simp only [List.getElem_toArray, List.getElem_cons_succ, List.getElem_cons_zero, Act.put, List.setIfInBounds_toArray, List.set_cons_zero, List.set_cons_succ]
          refine wpAnyH_take (i := 2) (v := ?va2) rfl (by kernel_rfl) (by kernel_rfl) (by kernel_rfl) (fun _ _ _ h => h) (Or.inl ⟨by rfl, ?ya2⟩) HD.out ?za2
          case ya2 => (intro w hSw; (try dsimp only at hSw); go_simp; try with_reducible rfl)
          try simp only [List.getElem_toArray, List.getElem_cons_succ, List.getElem_cons_zero, Act.put, List.setIfInBounds_toArray, List.set_cons_zero, List.set_cons_succ]
          refine wpAnyH_take (i := 3) (v := ?va3) rfl (by kernel_rfl) (by kernel_rfl) (by kernel_rfl) (fun _ _ _ h => h) (Or.inl ⟨by rfl, ?ya3⟩) HD.out ?za3
          case ya3 => (intro w hSw; (try dsimp only at hSw); go_simp; try with_reducible rfl)
          try simp only [List.getElem_toArray, List.getElem_cons_succ, List.getElem_cons_zero, Act.put, List.setIfInBounds_toArray, List.set_cons_zero, List.set_cons_succ]
          refine wpAnyH_take (i := 4) (v := ?va4) rfl (by kernel_rfl) (by kernel_rfl) (by kernel_rfl) (fun _ _ _ h => h) (Or.inl ⟨by rfl, ?ya4⟩) HD.out ?za4
          case ya4 => (intro w hSw; (try dsimp only at hSw); go_simp; try with_reducible rfl)
          try simp only [List.getElem_toArray, List.getElem_cons_succ, List.getElem_cons_zero, Act.put, List.setIfInBounds_toArray, List.set_cons_zero, List.set_cons_succ]
          refine wpAnyH_take (i := 5) (v := ?va5) rfl (by kernel_rfl) (by kernel_rfl) (by kernel_rfl) (fun _ _ _ h => h) (Or.inl ⟨by rfl, ?ya5⟩) HD.out ?za5
          case ya5 => (intro w hSw; (try dsimp only at hSw); go_simp; try with_reducible rfl)
          try simp only [List.getElem_toArray, List.getElem_cons_succ, List.getElem_cons_zero, Act.put, List.setIfInBounds_toArray, List.set_cons_zero, List.set_cons_succ]
          refine wpAnyH_take (i := 6) (v := ?va6) rfl (by kernel_rfl) (by kernel_rfl) (by kernel_rfl) (fun _ _ _ h => h) (Or.inl ⟨by rfl, ?ya6⟩) HD.out ?za6
          case ya6 => (intro w hSw; (try dsimp only at hSw); go_simp; try with_reducible rfl)
          try simp only [List.getElem_toArray, List.getElem_cons_succ, List.getElem_cons_zero, Act.put, List.setIfInBounds_toArray, List.set_cons_zero, List.set_cons_succ]
          refine wpAnyH_take (i := 7) (v := ?va7) rfl (by kernel_rfl) (by kernel_rfl) (by kernel_rfl) (fun _ _ _ h => h) (Or.inl ⟨by rfl, ?ya7⟩) HD.out ?za7
          case ya7 => (intro w hSw; (try dsimp only at hSw); go_simp; try with_reducible rfl)
          try simp only [List.getElem_toArray, List.getElem_cons_succ, List.getElem_cons_zero, Act.put, List.setIfInBounds_toArray, List.set_cons_zero, List.set_cons_succ]
          refine wpAnyH_take (i := 8) (v := ?va8) rfl (by kernel_rfl) (by kernel_rfl) (by kernel_rfl) (fun _ _ _ h => h) (Or.inl ⟨by rfl, ?ya8⟩) HD.out ?za8
          case ya8 => (intro w hSw; (try dsimp only at hSw); go_simp; try with_reducible rfl)
          try simp only [List.getElem_toArray, List.getElem_cons_succ, List.getElem_cons_zero, Act.put, List.setIfInBounds_toArray, List.set_cons_zero, List.set_cons_succ]
          refine wpAnyH_take (i := 9) (v := ?va9) rfl (by kernel_rfl) (by kernel_rfl) (by kernel_rfl) (fun _ _ _ h => h) (Or.inl ⟨by rfl, ?ya9⟩) HD.out ?za9
          case ya9 => (intro w hSw; (try dsimp only at hSw); go_simp; try with_reducible rfl)
          try simp only [List.getElem_toArray, List.getElem_cons_succ, List.getElem_cons_zero, Act.put, List.setIfInBounds_toArray, List.set_cons_zero, List.set_cons_succ]
          refine wpAnyH_take (i := 10) (v := ?va10) rfl (by kernel_rfl) (by kernel_rfl) (by kernel_rfl) (fun _ _ _ h => h) (Or.inl ⟨by rfl, ?ya10⟩) HD.out ?za10
          case ya10 => (intro w hSw; (try dsimp only at hSw); go_simp; try with_reducible rfl)
          try simp only [List.getElem_toArray, List.getElem_cons_succ, List.getElem_cons_zero, Act.put, List.setIfInBounds_toArray, List.set_cons_zero, List.set_cons_succ]
          refine wpAnyH_ready (rs := [11]) (by kernel_rfl) (by simp) ?_
          refine AllReadyH.cons rfl (fun K hK => ?_) AllReadyH.nil
          go_simp
          refine (HPow.out _).mono ?_; rintro e w' ⟨rfl, rfl⟩
          refine hK.out _ _ HD.out (fun _ => ?_)
          clear hK K
          try simp only [List.getElem_toArray, List.getElem_cons_succ, List.getElem_cons_zero, Act.put, List.setIfInBounds_toArray, List.set_cons_zero, List.set_cons_succ]
          refine wpAnyH_take (i := 12) (v := ?va12) rfl (by kernel_rfl) (by kernel_rfl) (by kernel_rfl) (fun _ _ _ h => h) (Or.inl ⟨by rfl, ?ya12⟩) HD.out ?za12
          case ya12 => (intro w hSw; (try dsimp only at hSw); go_simp; try with_reducible rfl)
          try simp only [List.getElem_toArray, List.getElem_cons_succ, List.getElem_cons_zero, Act.put, List.setIfInBounds_toArray, List.set_cons_zero, List.set_cons_succ]
          refine wpAnyH_take (i := 13) (v := ?va13) rfl (by kernel_rfl) (by kernel_rfl) (by kernel_rfl) (fun _ _ _ h => h) (Or.inl ⟨by rfl, ?ya13⟩) HD.out ?za13
          case ya13 => (intro w hSw; (try dsimp only at hSw); go_simp; try with_reducible rfl)
          try simp only [List.getElem_toArray, List.getElem_cons_succ, List.getElem_cons_zero, Act.put, List.setIfInBounds_toArray, List.set_cons_zero, List.set_cons_succ]
          refine wpAnyH_take (i := 14) (v := ?va14) rfl (by kernel_rfl) (by kernel_rfl) (by kernel_rfl) (fun _ _ _ h => h) (Or.inl ⟨by rfl, ?ya14⟩) HD.out ?za14
          case ya14 => (intro w hSw; (try dsimp only at hSw); go_simp; try with_reducible rfl)
          try simp only [List.getElem_toArray, List.getElem_cons_succ, List.getElem_cons_zero, Act.put, List.setIfInBounds_toArray, List.set_cons_zero, List.set_cons_succ]
          refine wpAnyH_take (i := 15) (v := ?va15) rfl (by kernel_rfl) (by kernel_rfl) (by kernel_rfl) (fun _ _ _ h => h) (Or.inl ⟨by rfl, ?ya15⟩) HD.out ?za15
          case ya15 => (intro w hSw; (try dsimp only at hSw); go_simp; try with_reducible rfl)
          try simp only [List.getElem_toArray, List.getElem_cons_succ, List.getElem_cons_zero, Act.put, List.setIfInBounds_toArray, List.set_cons_zero, List.set_cons_succ]
          refine wpAnyH_ready (rs := [16]) (by kernel_rfl) (by simp) ?_
          refine AllReadyH.cons rfl (fun K hK => ?_) AllReadyH.nil
          go_simp
          refine hK.out _ _ HD2.out (fun _ => ?_)
          clear hK K
          try simp only [List.getElem_toArray, List.getElem_cons_succ, List.getElem_cons_zero, Act.put]
          refine wpAnyH_done (by kernel_rfl) ?_ _
          go_wp2
          exact ⟨⟨j + 1, by omega, by go_num, HN1.out⟩, by simp [intOf]; omega⟩
        · obtain rfl : j = c := by omega
          clear I
          go_wp2
          exact ⟨⟨i + 1, by omega, by go_num, HI.out.congr (fun t _ => by rw [Nat.add_mul, Nat.one_mul])⟩, by simp [intOf]; omega⟩
    · obtain rfl : i = r := by omega
      go_wp2_with (refine wpList_store_var rfl _ _ rfl w.heap.size _ _ _ (.int .i64 (i : Int)) (.int .i64 (c : Int)) (.slice (some ⟨g, 0, none⟩) n n) rfl rfl HI.out.vr rfl rfl rfl ?_; intro w3 HV3 HG3)
      have d0 := HV3.out.c0
      have d1 := HV3.out.c1
      have d2 := HV3.out.c2
      refine bodyPost_ret (v := .tuple #[mv i c (some ⟨g, 0, none⟩) n n, .int .i64 0]) (by simp [results, Try.results10, go_sem, d0, d1, d2, mv]) rfl ?_
      exact ⟨g, rfl, (HI.out.row.kept HG3.out (by have := HI.out.lo; omega)).congr (fun t ht => upt_all _ (by rw [HN.out]; exact ht)), by have := HI.out.lo; omega, below_row HI.out.below HG3.out (Nat.le_refl _)⟩
end Go.Proofs.Ytblfldjlehjnbaa

namespace Go.Proofs.Ytblfldjlehjnbaa
open Go.RowKit
theorem undrew6 {w w' : World} (h : Below w.drew.heap.size w.drew w') : Below w.heap.size w w' := two_below (Below.refl _ _).drew h
theorem own_mt6 {w : World} {base n d : Nat} {s : Option Addr} {f : Nat → Nat} (h : w.ownsRow base 5 1 (.slice s n d) n (row n f).toList) (hf : ∀ i, i < n → f i < 256) : Mt w s n d f := by
  refine ⟨own_sl2 h hf, ?_, own_none h⟩
  rcases h.2 with ⟨e, h0⟩ | ⟨g, cap, cur, e, _, _, hc, _⟩
  · cases e; omega
  · cases e; omega
def Iv6 (lo hi : Nat) (s : Option Addr) : Prop := ∀ x, s = some x → lo ≤ x.block ∧ x.block < hi
theorem own_iv6 {w : World} {B n d : Nat} {s : Option Addr} {ls : List Value} (h : w.ownsRow B 5 1 (.slice s n d) n ls) : Iv6 B w.heap.size s := by
  intro x hx
  rcases h.2 with ⟨e, _⟩ | ⟨g, cap, cur, e, hb, hg, _⟩
  · cases e; cases hx
  · cases e; cases hx; exact ⟨hb, lt_of_block hg⟩
set_option maxRecDepth 20000 in
set_option maxHeartbeats 1000000 in
theorem rvdm_bad (w : World) (r c : Int) (h : ¬ SideP r c) :
    Calls Try.prog 10 #[.int .i64 r, .int .i64 c] w fun e w' => e = .returned (.tuple #[mv 0 0 none 0 0, .int .i64 2]) ∧ Below w.heap.size w w' := by
  have HS : Hid (¬ SideP r c) := h
  clear h
  go_enter Try.func10, Try.ntmps10
  go_wp2_with (first
    | (go_at_call 39; refine (rmake_bad _ r c HS.out).mono ?_; rintro e w1 ⟨rfl, hb1⟩; have HB : Hid (Below w.heap.size w w1) := two_below (alloc_low _ _) hb1; have HV : Hid (Vr w1 w.heap.size (.int .i64 0) (.int .i64 0) (.slice none 0 0)) := (Vr.new w _ _ _).later hb1; clear hb1))
  have HV0 : Hid (Vr (w1.alloc (.cells #[.int .i64 0, .int .i64 0, .slice none 0 0] 24)) w.heap.size (.int .i64 0) (.int .i64 0) (.slice none 0 0)) := HV.out.later (alloc_low _ _)
  go_loopw [8] (fun i wr => i = .int .i64 0 ∧ wr = w1.alloc (.cells #[.int .i64 0, .int .i64 0, .slice none 0 0] 24)) (fun _ _ => 0)
  case atStart => exact ⟨rfl, rfl⟩
  case round =>
    obtain ⟨rfl, rfl⟩ := hrel
    go_wp2_with (refine wpList_store_var rfl _ _ rfl w.heap.size _ _ _ (.int .i64 0) (.int .i64 0) (.slice none 0 0) rfl rfl HV0.out rfl rfl rfl ?_; intro w3 HV3 HG3)
    have d0 := HV3.out.c0
    have d1 := HV3.out.c1
    have d2 := HV3.out.c2
    refine bodyPost_ret (v := .tuple #[mv 0 0 none 0 0, .int .i64 2]) (by simp [results, Try.results10, go_sem, d0, d1, d2, mv]) rfl ?_
    exact ⟨rfl, below_row (two_below HB.out (alloc_low _ _)) HG3.out (Nat.le_refl _)⟩
set_option maxRecDepth 20000 in
set_option maxHeartbeats 1000000 in
theorem rtop_ok (w : World) (r c n k t N : Nat) (a : Option Addr) (F : Nat → Nat) (ha : Mt w a n k F) (R : Rt r c n) (ht : t ≤ r) (HN : Hid (t * c = N)) :
    Calls Try.prog 59 #[mv r c a n k, .int .i64 (t : Int)] w fun e w' => ∃ s d, e = .returned (mv t c s N d) ∧ Mt w' s N d F ∧ Below w.heap.size w w' := by
  obtain ⟨wb, HW, HX⟩ : ∃ wb, Hid (wb = (w.alloc (.cells #[.int .i64 (r : Int), .int .i64 (c : Int), .slice a n k] 24)).alloc (.cells #[.int .i64 0, .int .i64 0, .slice none 0 0] 24)) ∧ Hid (Box2 w wb r c n k a) := ⟨_, rfl, box2 w r c n k a⟩
  have hNn : N ≤ n := by rw [← HN.out, ← R.len]; exact Nat.mul_le_mul_right c ht
  have hn := R.le
  have hk := ha.room
  have HA : Hid (Mt w a n k F) := ha
  have e1 : ((t : Int) * (c : Int)) = (N : Int) := by rw [← HN.out]; simp
  have w1' : IntKind.i64.wrap ((t : Int) * (c : Int)) = (N : Int) := by rw [e1, IntKind.wrap_i64]; omega
  have v0 := HX.out.va.c0
  have v1 := HX.out.va.c1
  have v2 := HX.out.va.c2
  have HCp : Hid (∀ w', Below w.heap.size w w' → Calls Try.prog 50 #[.slice a N k] w' fun e w'' => ∃ v, e = .returned v ∧ w''.ownsRow w'.heap.size 5 1 v N (row N F).toList ∧ Below w'.heap.size w' w'') := fun w' h' => rcopy_any w' a N k F ⟨fun i hi => (HA.out.later h').sl.1 i (by omega), fun i hi => (HA.out.later h').sl.2 i (by omega)⟩ (by omega) (fun e => ⟨by have := (HA.out.nil e).1; omega, (HA.out.nil e).2⟩)
  have hwb : w.heap.size + 1 < wb.heap.size := HX.out.vr.lt
  have hNk : N ≤ k := by omega
  clear ha R e1
  cases a with
  | none =>
    obtain ⟨hn0, hk0⟩ := HA.out.nil rfl
    subst hn0
    subst hk0
    obtain rfl : N = 0 := by omega
    have HD : Hid (wb.drew.cell? ⟨w.heap.size, 1, none⟩ = some (.int .i64 (c : Int)) ∧ wb.drew.cell? ⟨w.heap.size, 2, none⟩ = some (.slice none 0 0)) := by rw [HW.out]; rw [HW.out] at v1 v2; exact ⟨v1, v2⟩
    go_enter Try.func59, Try.ntmps59
    go_wp2
    refine wp_region_held (S := fun w' => w'.cell? ⟨w.heap.size, 1, none⟩ = some (.int .i64 (c : Int)) ∧ w'.cell? ⟨w.heap.size, 2, none⟩ = some (.slice none 0 0)) (by kernel_rfl) ?_
    change wpAnyH _ _ _ _ _ _ _ _ (World.drew _)
    rw [← HW.out]
    refine wpAnyH_take (i := 0) (v := ?va0) rfl (by kernel_rfl) (by kernel_rfl) (by kernel_rfl) (fun _ _ _ h => h) (Or.inl ⟨by rfl, ?ya0⟩) HD.out ?za0
    case ya0 => (intro w hSw; (try dsimp only at hSw); go_simp; try with_reducible rfl)
    try simp only [List.getElem_toArray, List.getElem_cons_zero, Act.put, List.setIfInBounds_toArray, List.set_cons_zero, List.set_cons_succ]
    refine wpAnyH_take (i := 1) (v := ?va1) rfl (by kernel_rfl) (by kernel_rfl) (by kernel_rfl) (fun _ _ _ h => h) (Or.inl ⟨by rfl, ?ya1⟩) HD.out ?za1
    case ya1 => (intro w hSw; (try dsimp only at hSw); go_simp; try with_reducible rfl)
    try simp only [List.getElem_toArray, List.getElem_cons_succ, List.getElem_cons_zero, Act.put, List.setIfInBounds_toArray, List.set_cons_zero, List.set_cons_succ]
    refine wpAnyH_take (i := 2) (v := ?va2) rfl (by kernel_rfl) (by kernel_rfl) (by kernel_rfl) (fun _ _ _ h => h) (Or.inl ⟨by rfl, ?ya2⟩) HD.out ?za2
    case ya2 => (intro w hSw; (try dsimp only at hSw); go_simp; try with_reducible rfl)
    try simp only [List.getElem_toArray, List.getElem_cons_succ, List.getElem_cons_zero, Act.put, List.setIfInBounds_toArray, List.set_cons_zero, List.set_cons_succ]
    refine wpAnyH_take (i := 3) (v := ?va3) rfl (by kernel_rfl) (by kernel_rfl) (by kernel_rfl) (fun _ _ _ h => h) (Or.inl ⟨by rfl, ?ya3⟩) HD.out ?za3
    case ya3 => (intro w hSw; (try dsimp only at hSw); go_simp; try with_reducible rfl)
    try simp only [List.getElem_toArray, List.getElem_cons_succ, List.getElem_cons_zero, Act.put, List.setIfInBounds_toArray, List.set_cons_zero, List.set_cons_succ]
    refine wpAnyH_take (i := 4) (v := ?va4) rfl (by kernel_rfl) (by kernel_rfl) (by kernel_rfl) (fun _ _ _ h => h) (Or.inl ⟨by rfl, ?ya4⟩) HD.out ?za4
    case ya4 => (intro w hSw; (try dsimp only at hSw); go_simp; try with_reducible rfl)
    try simp only [List.getElem_toArray, List.getElem_cons_succ, List.getElem_cons_zero, Act.put, List.setIfInBounds_toArray, List.set_cons_zero, List.set_cons_succ]
    refine wpAnyH_take (i := 5) (v := ?va5) rfl (by kernel_rfl) (by kernel_rfl) (by kernel_rfl) (fun _ _ _ h => h) (Or.inl ⟨by rfl, ?ya5⟩) HD.out ?za5
    case ya5 => (intro w hSw; (try dsimp only at hSw); go_simp; try with_reducible rfl)
    try simp only [List.getElem_toArray, List.getElem_cons_succ, List.getElem_cons_zero, Act.put, List.setIfInBounds_toArray, List.set_cons_zero, List.set_cons_succ]
    refine wpAnyH_take (i := 6) (v := ?va6) rfl (by kernel_rfl) (by kernel_rfl) (by kernel_rfl) (fun _ _ _ h => h) (Or.inl ⟨by rfl, ?ya6⟩) HD.out ?za6
    case ya6 => (intro w hSw; (try dsimp only at hSw); go_simp; try with_reducible rfl)
    try simp only [List.getElem_toArray, List.getElem_cons_succ, List.getElem_cons_zero, Act.put, List.setIfInBounds_toArray, List.set_cons_zero, List.set_cons_succ]
    refine wpAnyH_take (i := 7) (v := ?va7) rfl (by kernel_rfl) (by kernel_rfl) (by kernel_rfl) (fun _ _ _ h => h) (Or.inl ⟨by rfl, ?ya7⟩) HD.out ?za7
    case ya7 => (intro w hSw; (try dsimp only at hSw); go_simp; try with_reducible rfl)
    try simp only [List.getElem_toArray, List.getElem_cons_succ, List.getElem_cons_zero, Act.put, List.setIfInBounds_toArray, List.set_cons_zero, List.set_cons_succ]
    refine wpAnyH_take (i := 8) (v := ?va8) rfl (by kernel_rfl) (by kernel_rfl) (by kernel_rfl) (fun _ _ _ h => h) (Or.inl ⟨by rfl, ?ya8⟩) HD.out ?za8
    case ya8 => (intro w hSw; (try dsimp only at hSw); go_simp; try with_reducible rfl)
    try simp only [List.getElem_toArray, List.getElem_cons_succ, List.getElem_cons_zero, Act.put, List.setIfInBounds_toArray, List.set_cons_zero, List.set_cons_succ]
    refine wpAnyH_take (i := 9) (v := ?va9) rfl (by kernel_rfl) (by kernel_rfl) (by kernel_rfl) (fun _ _ _ h => h) (Or.inl ⟨by rfl, ?ya9⟩) HD.out ?za9
    case ya9 => (intro w hSw; (try dsimp only at hSw); go_simp; try with_reducible rfl)
    try simp only [List.getElem_toArray, List.getElem_cons_succ, List.getElem_cons_zero, Act.put, List.setIfInBounds_toArray, List.set_cons_zero, List.set_cons_succ]
    refine wpAnyH_ready (rs := [10]) (by kernel_rfl) (by simp) ?_
    refine AllReadyH.cons rfl (fun K hK => ?_) AllReadyH.nil
    go_simp
    refine (HCp.out _ (HX.out.below.drew)).mono ?_
    rintro e w1 ⟨v, rfl, ho, hb0⟩
    obtain ⟨s, d, ed, _, _⟩ := own_sl' ho
    subst ed
    have hb1 := undrew6 hb0
    have HO : Hid (Mt w1 s 0 d F) := own_mt6 ho (fun i hi => HA.out.sl.1 i (by omega))
    have HB1 : Hid (Below w.heap.size w w1) := two_below HX.out.below hb1
    have HV1 : Hid (Vr w1 (w.heap.size + 1) (.int .i64 0) (.int .i64 0) (.slice none 0 0)) := HX.out.vr.later hb1
    have HVa1 := HX.out.va.later hb1
    have HD1 : Hid (w1.cell? ⟨w.heap.size, 1, none⟩ = some (.int .i64 (c : Int)) ∧ w1.cell? ⟨w.heap.size, 2, none⟩ = some (.slice none 0 0)) := ⟨HVa1.c1, HVa1.c2⟩
    have HOff : Hid (Iv6 wb.heap.size w1.heap.size s) := own_iv6 ho
    clear ho hb0 hb1
    refine hK.out _ _ HD1.out (fun _ => ?_)
    clear hK K
    try simp only [List.getElem_toArray, List.getElem_cons_succ, List.getElem_cons_zero, Act.put, List.setIfInBounds_toArray, List.set_cons_zero, List.set_cons_succ]
    refine wpAnyH_take (i := 11) (v := ?va11) rfl (by kernel_rfl) (by kernel_rfl) (by kernel_rfl) (fun _ _ _ h => h) (Or.inl ⟨by rfl, ?ya11⟩) HD1.out ?za11
    case ya11 => (intro w hSw; (try dsimp only at hSw); go_simp; try with_reducible rfl)
    try simp only [List.getElem_toArray, List.getElem_cons_succ, List.getElem_cons_zero, Act.put, List.setIfInBounds_toArray, List.set_cons_zero, List.set_cons_succ]
    refine wpAnyH_ready (rs := [12]) (by kernel_rfl) (by simp) ?_
    refine AllReadyH.cons rfl (fun K hK => ?_) AllReadyH.nil
    refine step_store_var rfl _ _ rfl (w.heap.size + 1) _ _ _ (.int .i64 (t : Int)) (.int .i64 (c : Int)) (.slice s 0 d) rfl rfl HV1.out rfl rfl rfl ?_
    intro w2 HV2 HG2
    have HD2 : Hid (w2.cell? ⟨w.heap.size, 1, none⟩ = some (.int .i64 (c : Int)) ∧ w2.cell? ⟨w.heap.size, 2, none⟩ = some (.slice none 0 0)) := ⟨(HVa1.kept HG2.out (by omega)).c1, (HVa1.kept HG2.out (by omega)).c2⟩
    refine hK.out _ _ HD2.out (fun _ => ?_)
    clear hK K
    try simp only [List.getElem_toArray, List.getElem_cons_succ, List.getElem_cons_zero, Act.put]
    refine wpAnyH_done (by kernel_rfl) ?_ _
    go_wp2
    have d0 := HV2.out.c0
    have d1 := HV2.out.c1
    have d2 := HV2.out.c2
    refine bodyPost_ret (v := mv t c s 0 d) (by simp [results, Try.results59, go_sem, d0, d1, d2, mv]) rfl ?_
    exact ⟨s, d, rfl, HO.out.kept HG2.out (fun _ x hx e => by have := HOff.out x hx; omega), below_row HB1.out HG2.out (by omega)⟩
  | some x =>
    have HD : Hid (wb.drew.cell? ⟨w.heap.size, 1, none⟩ = some (.int .i64 (c : Int)) ∧ wb.drew.cell? ⟨w.heap.size, 2, none⟩ = some (.slice (some x) n k)) := by rw [HW.out]; rw [HW.out] at v1 v2; exact ⟨v1, v2⟩
    go_enter Try.func59, Try.ntmps59
    go_wp2
    refine wp_region_held (S := fun w' => w'.cell? ⟨w.heap.size, 1, none⟩ = some (.int .i64 (c : Int)) ∧ w'.cell? ⟨w.heap.size, 2, none⟩ = some (.slice (some x) n k)) (by kernel_rfl) ?_
    change wpAnyH _ _ _ _ _ _ _ _ (World.drew _)
    rw [← HW.out]
    refine wpAnyH_take (i := 0) (v := ?vb0) rfl (by kernel_rfl) (by kernel_rfl) (by kernel_rfl) (fun _ _ _ h => h) (Or.inl ⟨by rfl, ?yb0⟩) HD.out ?zb0
    case yb0 => (intro w hSw; (try dsimp only at hSw); go_simp; try with_reducible rfl)
    try simp only [List.getElem_toArray, List.getElem_cons_zero, Act.put, List.setIfInBounds_toArray, List.set_cons_zero, List.set_cons_succ]
    refine wpAnyH_take (i := 1) (v := ?vb1) rfl (by kernel_rfl) (by kernel_rfl) (by kernel_rfl) (fun _ _ _ h => h) (Or.inl ⟨by rfl, ?yb1⟩) HD.out ?zb1
    case yb1 => (intro w hSw; (try dsimp only at hSw); go_simp; try with_reducible rfl)
    try simp only [List.getElem_toArray, List.getElem_cons_succ, List.getElem_cons_zero, Act.put, List.setIfInBounds_toArray, List.set_cons_zero, List.set_cons_succ]
    refine wpAnyH_take (i := 2) (v := ?vb2) rfl (by kernel_rfl) (by kernel_rfl) (by kernel_rfl) (fun _ _ _ h => h) (Or.inl ⟨by rfl, ?yb2⟩) HD.out ?zb2
    case yb2 => (intro w hSw; (try dsimp only at hSw); go_simp; try with_reducible rfl)
    try simp only [List.getElem_toArray, List.getElem_cons_succ, List.getElem_cons_zero, Act.put, List.setIfInBounds_toArray, List.set_cons_zero, List.set_cons_succ]
    refine wpAnyH_take (i := 3) (v := ?vb3) rfl (by kernel_rfl) (by kernel_rfl) (by kernel_rfl) (fun _ _ _ h => h) (Or.inl ⟨by rfl, ?yb3⟩) HD.out ?zb3
    case yb3 => (intro w hSw; (try dsimp only at hSw); go_simp; try with_reducible rfl)
    try simp only [List.getElem_toArray, List.getElem_cons_succ, List.getElem_cons_zero, Act.put, List.setIfInBounds_toArray, List.set_cons_zero, List.set_cons_succ]
    refine wpAnyH_take (i := 4) (v := ?vb4) rfl (by kernel_rfl) (by kernel_rfl) (by kernel_rfl) (fun _ _ _ h => h) (Or.inl ⟨by rfl, ?yb4⟩) HD.out ?zb4
    case yb4 => (intro w hSw; (try dsimp only at hSw); go_simp; try with_reducible rfl)
    try simp only [List.getElem_toArray, List.getElem_cons_succ, List.getElem_cons_zero, Act.put, List.setIfInBounds_toArray, List.set_cons_zero, List.set_cons_succ]
    refine wpAnyH_take (i := 5) (v := ?vb5) rfl (by kernel_rfl) (by kernel_rfl) (by kernel_rfl) (fun _ _ _ h => h) (Or.inl ⟨by rfl, ?yb5⟩) HD.out ?zb5
    case yb5 => (intro w hSw; (try dsimp only at hSw); go_simp; try with_reducible rfl)
    try simp only [List.getElem_toArray, List.getElem_cons_succ, List.getElem_cons_zero, Act.put, List.setIfInBounds_toArray, List.set_cons_zero, List.set_cons_succ]
    refine wpAnyH_take (i := 6) (v := ?vb6) rfl (by kernel_rfl) (by kernel_rfl) (by kernel_rfl) (fun _ _ _ h => h) (Or.inl ⟨by rfl, ?yb6⟩) HD.out ?zb6
    case yb6 => (intro w hSw; (try dsimp only at hSw); go_simp; try with_reducible rfl)
    try simp only [List.getElem_toArray, List.getElem_cons_succ, List.getElem_cons_zero, Act.put, List.setIfInBounds_toArray, List.set_cons_zero, List.set_cons_succ]
    refine wpAnyH_take (i := 7) (v := ?vb7) rfl (by kernel_rfl) (by kernel_rfl) (by kernel_rfl) (fun _ _ _ h => h) (Or.inl ⟨by rfl, ?yb7⟩) HD.out ?zb7
    case yb7 => (intro w hSw; (try dsimp only at hSw); go_simp; try with_reducible rfl)
    try simp only [List.getElem_toArray, List.getElem_cons_succ, List.getElem_cons_zero, Act.put, List.setIfInBounds_toArray, List.set_cons_zero, List.set_cons_succ]
    refine wpAnyH_take (i := 8) (v := ?vb8) rfl (by kernel_rfl) (by kernel_rfl) (by kernel_rfl) (fun _ _ _ h => h) (Or.inl ⟨by rfl, ?yb8⟩) HD.out ?zb8
    case yb8 => (intro w hSw; (try dsimp only at hSw); go_simp; try with_reducible rfl)
    try simp only [List.getElem_toArray, List.getElem_cons_succ, List.getElem_cons_zero, Act.put, List.setIfInBounds_toArray, List.set_cons_zero, List.set_cons_succ]
    refine wpAnyH_take (i := 9) (v := ?vb9) rfl (by kernel_rfl) (by kernel_rfl) (by kernel_rfl) (fun _ _ _ h => h) (Or.inl ⟨by rfl, ?yb9⟩) HD.out ?zb9
    case yb9 => (intro w hSw; (try dsimp only at hSw); go_simp; try with_reducible rfl)
    try simp only [List.getElem_toArray, List.getElem_cons_succ, List.getElem_cons_zero, Act.put, List.setIfInBounds_toArray, List.set_cons_zero, List.set_cons_succ]
    refine wpAnyH_ready (rs := [10]) (by kernel_rfl) (by simp) ?_
    refine AllReadyH.cons rfl (fun K hK => ?_) AllReadyH.nil
    go_simp
    refine (HCp.out _ (HX.out.below.drew)).mono ?_
    rintro e w1 ⟨v, rfl, ho, hb0⟩
    obtain ⟨s, d, ed, _, _⟩ := own_sl' ho
    subst ed
    have hb1 := undrew6 hb0
    have HO : Hid (Mt w1 s N d F) := own_mt6 ho (fun i hi => HA.out.sl.1 i (by omega))
    have HB1 : Hid (Below w.heap.size w w1) := two_below HX.out.below hb1
    have HV1 : Hid (Vr w1 (w.heap.size + 1) (.int .i64 0) (.int .i64 0) (.slice none 0 0)) := HX.out.vr.later hb1
    have HVa1 := HX.out.va.later hb1
    have HD1 : Hid (w1.cell? ⟨w.heap.size, 1, none⟩ = some (.int .i64 (c : Int)) ∧ w1.cell? ⟨w.heap.size, 2, none⟩ = some (.slice (some x) n k)) := ⟨HVa1.c1, HVa1.c2⟩
    have HOff : Hid (Iv6 wb.heap.size w1.heap.size s) := own_iv6 ho
    clear ho hb0 hb1
    refine hK.out _ _ HD1.out (fun _ => ?_)
    clear hK K
    try simp only [List.getElem_toArray, List.getElem_cons_succ, List.getElem_cons_zero, Act.put, List.setIfInBounds_toArray, List.set_cons_zero, List.set_cons_succ]
    refine wpAnyH_take (i := 11) (v := ?vb11) rfl (by kernel_rfl) (by kernel_rfl) (by kernel_rfl) (fun _ _ _ h => h) (Or.inl ⟨by rfl, ?yb11⟩) HD1.out ?zb11
    case yb11 => (intro w hSw; (try dsimp only at hSw); go_simp; try with_reducible rfl)
    try simp only [List.getElem_toArray, List.getElem_cons_succ, List.getElem_cons_zero, Act.put, List.setIfInBounds_toArray, List.set_cons_zero, List.set_cons_succ]
    refine wpAnyH_ready (rs := [12]) (by kernel_rfl) (by simp) ?_
    refine AllReadyH.cons rfl (fun K hK => ?_) AllReadyH.nil
    refine step_store_var rfl _ _ rfl (w.heap.size + 1) _ _ _ (.int .i64 (t : Int)) (.int .i64 (c : Int)) (.slice s N d) rfl rfl HV1.out rfl rfl rfl ?_
    intro w2 HV2 HG2
    have HD2 : Hid (w2.cell? ⟨w.heap.size, 1, none⟩ = some (.int .i64 (c : Int)) ∧ w2.cell? ⟨w.heap.size, 2, none⟩ = some (.slice (some x) n k)) := ⟨(HVa1.kept HG2.out (by omega)).c1, (HVa1.kept HG2.out (by omega)).c2⟩
    refine hK.out _ _ HD2.out (fun _ => ?_)
    clear hK K
    try simp only [List.getElem_toArray, List.getElem_cons_succ, List.getElem_cons_zero, Act.put]
    refine wpAnyH_done (by kernel_rfl) ?_ _
    go_wp2
    have d0 := HV2.out.c0
    have d1 := HV2.out.c1
    have d2 := HV2.out.c2
    refine bodyPost_ret (v := mv t c s N d) (by simp [results, Try.results59, go_sem, d0, d1, d2, mv]) rfl ?_
    exact ⟨s, d, rfl, HO.out.kept HG2.out (fun _ x hx e => by have := HOff.out x hx; omega), below_row HB1.out HG2.out (by omega)⟩
end Go.Proofs.Ytblfldjlehjnbaa

namespace Go.Proofs.Ytblfldjlehjnbaa
open Go.RowKit
set_option maxRecDepth 20000 in
set_option maxHeartbeats 2000000 in
theorem rsys_ok (w : World) (r c n k : Nat) (a : Option Addr) (F : Nat → Nat) (ha : Mt w a n k F) (R : Rt r c n) (hcr : c ≤ r) (hk : Rk (m2 F c c) c c) :
    Calls Try.prog 19 #[mv r c a n k] w fun e w' => ∃ g X, e = .returned (.tuple #[mv r c (some ⟨g, 0, none⟩) n n, .int .i64 0]) ∧ RowAt w' g 5 n (prk F X c c c) ∧ (∀ q, q < c * c → X q < 256) ∧ (∀ i j, i < c → j < c → pr (m2 F c c) (m2 X c c) c i j = dl i j) ∧ w.heap.size ≤ g ∧ Below w.heap.size w w' := by
  obtain ⟨wb, HW, HX⟩ : ∃ wb, Hid (wb = (w.alloc (.cells #[.int .i64 (r : Int), .int .i64 (c : Int), .slice a n k] 24)).alloc (.cells #[.int .i64 0, .int .i64 0, .slice none 0 0] 24)) ∧ Hid (Box2 w wb r c n k a) := ⟨_, rfl, box2 w r c n k a⟩
  obtain ⟨N, HN⟩ : ∃ N, Hid (c * c = N) := ⟨_, rfl⟩
  have HA : Hid (Mt w a n k F) := ha
  have HR : Hid (Rt r c n) := R
  have HC : Hid (Rt c c N) := ⟨R.c64, R.c64, HN.out⟩
  have HK : Hid (Rk (m2 F c c) c c) := hk
  have hcl : decide (r < c) = false := by simpa using hcr
  have v0 := HX.out.va.c0
  have v1 := HX.out.va.c1
  have v2 := HX.out.va.c2
  have hwb : w.heap.size + 1 < wb.heap.size := HX.out.vr.lt
  clear ha R hk
  go_enter Try.func19, Try.ntmps19
  go_wp2_with (first
    | (go_at_call 30; rw [← HW.out]; refine (right_yes _ _ _ _ _ _ HR.out.p).mono ?_; rintro e w1 ⟨rfl, hb1⟩; have HB1 : Hid (Below wb.heap.size wb w1) := hb1; have a0 := (HX.out.va.later hb1).c0; have a1 := (HX.out.va.later hb1).c1; have a2 := (HX.out.va.later hb1).c2; clear hb1)
    | (go_at_call 59; refine (rtop_ok _ r c n k c N a F (HA.out.later (two_below HX.out.below HB1.out)) HR.out hcr HN).mono ?_; rintro e w2 ⟨s2, d2, rfl, hm2, hb2⟩; have HM2 : Hid (Mt w2 s2 N d2 F) := hm2; have HB2 : Hid (Below wb.heap.size wb w2) := two_below HB1.out hb2; clear hm2 hb2)
    | (go_at_call 58; refine (rinvm_ok _ c N d2 s2 F HM2.out HC.out HK.out).mono ?_; rintro e w3 ⟨g3, X, rfl, hr3, hg3, hl3, hp3, hb3⟩; have HR3 : Hid (RowAt w3 g3 5 N X) := hr3; have HL3 : Hid (∀ q, q < N → X q < 256) := hl3; have HP3 : Hid (∀ i j, i < c → j < c → pr (m2 F c c) (m2 X c c) c i j = dl i j) := hp3; have HB3 : Hid (Below wb.heap.size wb (w3.alloc (.cells #[.int .i64 (c : Int), .int .i64 (c : Int), .slice (some ⟨g3, 0, none⟩) N N] 24))) := two_below (two_below HB2.out hb3) (alloc_low _ _); have b0 := (HX.out.va.later HB3.out).c0; have b1 := (HX.out.va.later HB3.out).c1; have b2 := (HX.out.va.later HB3.out).c2; clear hr3 hg3 hl3 hp3 hb3)
    | (go_at_call 60; refine (rmmul_ok _ r c c n N n k N a _ F X (HA.out.later (two_below HX.out.below HB3.out)).sl (((HR3.out.later (alloc_low _ _))).sl HL3.out) HR.out HC.out HR.out).mono ?_; rintro e w4 ⟨g4, rfl, hr4, hg4, hb4⟩; have HR4 : Hid (RowAt w4 g4 5 n (prk F X c c c)) := hr4; have hg5 : wb.heap.size ≤ g4 := Nat.le_trans HB3.out.size hg4; have HB4 : Hid (Below wb.heap.size wb w4) := two_below HB3.out hb4; have HV4 : Hid (Vr w4 (w.heap.size + 1) (.int .i64 0) (.int .i64 0) (.slice none 0 0)) := HX.out.vr.later HB4.out; clear hr4 hg4 hb4)
    | (refine wpList_store_var rfl _ _ rfl (w.heap.size + 1) _ _ _ (.int .i64 (r : Int)) (.int .i64 (c : Int)) (.slice (some ⟨g4, 0, none⟩) n n) rfl rfl HV4.out rfl rfl rfl ?_; intro w5 HV5 HG5))
  have d0 := HV5.out.c0
  have d1 := HV5.out.c1
  have d2 := HV5.out.c2
  refine bodyPost_ret (v := .tuple #[mv r c (some ⟨g4, 0, none⟩) n n, .int .i64 0]) (by simp [results, Try.results19, go_sem, d0, d1, d2, mv]) rfl ?_
  refine ⟨g4, X, rfl, HR4.out.kept HG5.out (by omega), by rw [HN.out]; exact HL3.out, HP3.out, by omega, below_row (two_below HX.out.below HB4.out) HG5.out (by omega)⟩
set_option maxRecDepth 20000 in
set_option maxHeartbeats 2000000 in
theorem rsys_sing (w : World) (r c n k q : Nat) (a : Option Addr) (F : Nat → Nat) (ha : Mt w a n k F) (R : Rt r c n) (hcr : c ≤ r) (hk : Rk (m2 F c c) c q) (hq : q < c) :
    Calls Try.prog 19 #[mv r c a n k] w fun e w' => e = .returned (.tuple #[mv 0 0 none 0 0, .int .i64 6]) ∧ Below w.heap.size w w' := by
  obtain ⟨wb, HW, HX⟩ : ∃ wb, Hid (wb = (w.alloc (.cells #[.int .i64 (r : Int), .int .i64 (c : Int), .slice a n k] 24)).alloc (.cells #[.int .i64 0, .int .i64 0, .slice none 0 0] 24)) ∧ Hid (Box2 w wb r c n k a) := ⟨_, rfl, box2 w r c n k a⟩
  obtain ⟨N, HN⟩ : ∃ N, Hid (c * c = N) := ⟨_, rfl⟩
  have HA : Hid (Mt w a n k F) := ha
  have HR : Hid (Rt r c n) := R
  have HC : Hid (Rt c c N) := ⟨R.c64, R.c64, HN.out⟩
  have HK : Hid (Rk (m2 F c c) c q) := hk
  have hcl : decide (r < c) = false := by simpa using hcr
  have v0 := HX.out.va.c0
  have v1 := HX.out.va.c1
  have v2 := HX.out.va.c2
  have hwb : w.heap.size + 1 < wb.heap.size := HX.out.vr.lt
  clear ha R hk
  go_enter Try.func19, Try.ntmps19
  go_wp2_with (first
    | (go_at_call 30; rw [← HW.out]; refine (right_yes _ _ _ _ _ _ HR.out.p).mono ?_; rintro e w1 ⟨rfl, hb1⟩; have HB1 : Hid (Below wb.heap.size wb w1) := hb1; have a0 := (HX.out.va.later hb1).c0; have a1 := (HX.out.va.later hb1).c1; have a2 := (HX.out.va.later hb1).c2; clear hb1)
    | (go_at_call 59; refine (rtop_ok _ r c n k c N a F (HA.out.later (two_below HX.out.below HB1.out)) HR.out hcr HN).mono ?_; rintro e w2 ⟨s2, d2, rfl, hm2, hb2⟩; have HM2 : Hid (Mt w2 s2 N d2 F) := hm2; have HB2 : Hid (Below wb.heap.size wb w2) := two_below HB1.out hb2; clear hm2 hb2)
    | (go_at_call 58; refine (rinvm_sing _ c N d2 q s2 F HM2.out HC.out HK.out hq).mono ?_; rintro e w3 ⟨rfl, hb3⟩; have HB3 : Hid (Below wb.heap.size wb (w3.alloc (.cells #[.int .i64 0, .int .i64 0, .slice none 0 0] 24))) := two_below (two_below HB2.out hb3) (alloc_low _ _); have HVz : Hid (Vr (w3.alloc (.cells #[.int .i64 0, .int .i64 0, .slice none 0 0] 24)) (w.heap.size + 1) (.int .i64 0) (.int .i64 0) (.slice none 0 0)) := HX.out.vr.later HB3.out; clear hb3)
    | (refine wpList_store_var rfl _ _ rfl (w.heap.size + 1) _ _ _ (.int .i64 0) (.int .i64 0) (.slice none 0 0) rfl rfl HVz.out rfl rfl rfl ?_; intro w5 HV5 HG5))
  have d0 := HV5.out.c0
  have d1 := HV5.out.c1
  have d2 := HV5.out.c2
  refine bodyPost_ret (v := .tuple #[mv 0 0 none 0 0, .int .i64 6]) (by simp [results, Try.results19, go_sem, d0, d1, d2, mv]) rfl ?_
  exact ⟨rfl, below_row (two_below HX.out.below HB3.out) HG5.out (by omega)⟩
set_option maxRecDepth 20000 in
set_option maxHeartbeats 2000000 in
theorem rsys_bad (w : World) (r c : Int) (n k : Nat) (a : Option Addr) (h : ¬ (RightP r c n ∧ c ≤ r)) :
    Calls Try.prog 19 #[mv r c a n k] w fun e w' => e = .returned (.tuple #[mv 0 0 none 0 0, .int .i64 3]) ∧ Below w.heap.size w w' := by
  obtain ⟨wb, HW, HX⟩ : ∃ wb, Hid (wb = (w.alloc (.cells #[.int .i64 r, .int .i64 c, .slice a n k] 24)).alloc (.cells #[.int .i64 0, .int .i64 0, .slice none 0 0] 24)) ∧ Hid (Box2 w wb r c n k a) := ⟨_, rfl, box2 w r c n k a⟩
  have v0 := HX.out.va.c0
  have v1 := HX.out.va.c1
  have v2 := HX.out.va.c2
  have hwb : w.heap.size + 1 < wb.heap.size := HX.out.vr.lt
  by_cases h1 : RightP r c n
  · have HR1 : Hid (RightP r c n) := h1
    have g1 : decide (r < c) = true := by simp; exact Int.not_le.mp (fun x => h ⟨h1, x⟩)
    clear h h1
    go_enter Try.func19, Try.ntmps19
    go_wp2_with (first
      | (go_at_call 30; rw [← HW.out]; refine (right_yes _ _ _ _ _ _ HR1.out).mono ?_; rintro e w1 ⟨rfl, hb1⟩; have HB1 : Hid (Below wb.heap.size wb w1) := hb1; have a0 := (HX.out.va.later hb1).c0; have a1 := (HX.out.va.later hb1).c1; have a2 := (HX.out.va.later hb1).c2; have HVz : Hid (Vr w1 (w.heap.size + 1) (.int .i64 0) (.int .i64 0) (.slice none 0 0)) := HX.out.vr.later HB1.out; clear hb1)
      | (refine wpList_store_var rfl _ _ rfl (w.heap.size + 1) _ _ _ (.int .i64 0) (.int .i64 0) (.slice none 0 0) rfl rfl HVz.out rfl rfl rfl ?_; intro w5 HV5 HG5))
    have d0 := HV5.out.c0
    have d1 := HV5.out.c1
    have d2 := HV5.out.c2
    refine bodyPost_ret (v := .tuple #[mv 0 0 none 0 0, .int .i64 3]) (by simp [results, Try.results19, go_sem, d0, d1, d2, mv]) rfl ?_
    exact ⟨rfl, below_row (two_below HX.out.below HB1.out) HG5.out (by omega)⟩
  · have HR1 : Hid (¬ RightP r c n) := h1
    clear h h1
    go_enter Try.func19, Try.ntmps19
    go_wp2_with (first
      | (go_at_call 30; rw [← HW.out]; refine (right_no _ _ _ _ _ _ HR1.out).mono ?_; rintro e w1 ⟨rfl, hb1⟩; have HB1 : Hid (Below wb.heap.size wb w1) := hb1; have a0 := (HX.out.va.later hb1).c0; have a1 := (HX.out.va.later hb1).c1; have a2 := (HX.out.va.later hb1).c2; have HVz : Hid (Vr w1 (w.heap.size + 1) (.int .i64 0) (.int .i64 0) (.slice none 0 0)) := HX.out.vr.later HB1.out; clear hb1)
      | (refine wpList_store_var rfl _ _ rfl (w.heap.size + 1) _ _ _ (.int .i64 0) (.int .i64 0) (.slice none 0 0) rfl rfl HVz.out rfl rfl rfl ?_; intro w5 HV5 HG5))
    have d0 := HV5.out.c0
    have d1 := HV5.out.c1
    have d2 := HV5.out.c2
    refine bodyPost_ret (v := .tuple #[mv 0 0 none 0 0, .int .i64 3]) (by simp [results, Try.results19, go_sem, d0, d1, d2, mv]) rfl ?_
    exact ⟨rfl, below_row (two_below HX.out.below HB1.out) HG5.out (by omega)⟩
set_option maxRecDepth 20000 in
set_option maxHeartbeats 2000000 in
theorem rchk_bad (w : World) (r c : Int) (n k : Nat) (a : Option Addr) (h : ¬ (RightP r c n ∧ c ≤ r)) :
    Calls Try.prog 21 #[mv r c a n k] w fun e w' => e = .returned (.tuple #[mv 0 0 none 0 0, .int .i64 3]) ∧ Below w.heap.size w w' := by
  obtain ⟨wb, HW, HX⟩ : ∃ wb, Hid (wb = (w.alloc (.cells #[.int .i64 r, .int .i64 c, .slice a n k] 24)).alloc (.cells #[.int .i64 0, .int .i64 0, .slice none 0 0] 24)) ∧ Hid (Box2 w wb r c n k a) := ⟨_, rfl, box2 w r c n k a⟩
  have v0 := HX.out.va.c0
  have v1 := HX.out.va.c1
  have v2 := HX.out.va.c2
  have hwb : w.heap.size + 1 < wb.heap.size := HX.out.vr.lt
  by_cases h1 : RightP r c n
  · have HR1 : Hid (RightP r c n) := h1
    have g1 : decide (r < c) = true := by simp; exact Int.not_le.mp (fun x => h ⟨h1, x⟩)
    clear h h1
    go_enter Try.func21, Try.ntmps21
    go_wp2_with (first
      | (go_at_call 30; rw [← HW.out]; refine (right_yes _ _ _ _ _ _ HR1.out).mono ?_; rintro e w1 ⟨rfl, hb1⟩; have HB1 : Hid (Below wb.heap.size wb w1) := hb1; have a0 := (HX.out.va.later hb1).c0; have a1 := (HX.out.va.later hb1).c1; have a2 := (HX.out.va.later hb1).c2; have HVz : Hid (Vr w1 (w.heap.size + 1) (.int .i64 0) (.int .i64 0) (.slice none 0 0)) := HX.out.vr.later HB1.out; clear hb1)
      | (refine wpList_store_var rfl _ _ rfl (w.heap.size + 1) _ _ _ (.int .i64 0) (.int .i64 0) (.slice none 0 0) rfl rfl HVz.out rfl rfl rfl ?_; intro w5 HV5 HG5))
    have d0 := HV5.out.c0
    have d1 := HV5.out.c1
    have d2 := HV5.out.c2
    refine bodyPost_ret (v := .tuple #[mv 0 0 none 0 0, .int .i64 3]) (by simp [results, Try.results21, go_sem, d0, d1, d2, mv]) rfl ?_
    exact ⟨rfl, below_row (two_below HX.out.below HB1.out) HG5.out (by omega)⟩
  · have HR1 : Hid (¬ RightP r c n) := h1
    clear h h1
    go_enter Try.func21, Try.ntmps21
    go_wp2_with (first
      | (go_at_call 30; rw [← HW.out]; refine (right_no _ _ _ _ _ _ HR1.out).mono ?_; rintro e w1 ⟨rfl, hb1⟩; have HB1 : Hid (Below wb.heap.size wb w1) := hb1; have a0 := (HX.out.va.later hb1).c0; have a1 := (HX.out.va.later hb1).c1; have a2 := (HX.out.va.later hb1).c2; have HVz : Hid (Vr w1 (w.heap.size + 1) (.int .i64 0) (.int .i64 0) (.slice none 0 0)) := HX.out.vr.later HB1.out; clear hb1)
      | (refine wpList_store_var rfl _ _ rfl (w.heap.size + 1) _ _ _ (.int .i64 0) (.int .i64 0) (.slice none 0 0) rfl rfl HVz.out rfl rfl rfl ?_; intro w5 HV5 HG5))
    have d0 := HV5.out.c0
    have d1 := HV5.out.c1
    have d2 := HV5.out.c2
    refine bodyPost_ret (v := .tuple #[mv 0 0 none 0 0, .int .i64 3]) (by simp [results, Try.results21, go_sem, d0, d1, d2, mv]) rfl ?_
    exact ⟨rfl, below_row (two_below HX.out.below HB1.out) HG5.out (by omega)⟩
set_option maxRecDepth 20000 in
set_option maxHeartbeats 2000000 in
theorem rchk_sing (w : World) (r c n k q : Nat) (a : Option Addr) (F : Nat → Nat) (ha : Mt w a n k F) (R : Rt r c n) (hcr : c ≤ r) (hk : Rk (m2 F r c) r q) (hq : q < c) :
    Calls Try.prog 21 #[mv r c a n k] w fun e w' => e = .returned (.tuple #[mv 0 0 none 0 0, .int .i64 6]) ∧ Below w.heap.size w w' := by
  obtain ⟨wb, HW, HX⟩ : ∃ wb, Hid (wb = (w.alloc (.cells #[.int .i64 (r : Int), .int .i64 (c : Int), .slice a n k] 24)).alloc (.cells #[.int .i64 0, .int .i64 0, .slice none 0 0] 24)) ∧ Hid (Box2 w wb r c n k a) := ⟨_, rfl, box2 w r c n k a⟩
  have HK : Hid (Rk (m2 F r c) r q) := hk
  have hqc : decide (q < c) = true := by simpa using hq
  have HA : Hid (Mt w a n k F) := ha
  have HR : Hid (Rt r c n) := R
  have hcl : decide (r < c) = false := by simpa using hcr
  have v0 := HX.out.va.c0
  have v1 := HX.out.va.c1
  have v2 := HX.out.va.c2
  have hwb : w.heap.size + 1 < wb.heap.size := HX.out.vr.lt
  clear ha R hk
  go_enter Try.func21, Try.ntmps21
  go_wp2_with (first
    | (go_at_call 30; rw [← HW.out]; refine (right_yes _ _ _ _ _ _ HR.out.p).mono ?_; rintro e w1 ⟨rfl, hb1⟩; have HB1 : Hid (Below wb.heap.size wb w1) := hb1; have a0 := (HX.out.va.later hb1).c0; have a1 := (HX.out.va.later hb1).c1; have a2 := (HX.out.va.later hb1).c2; clear hb1)
    | (go_at_call 27; refine (rrank_ok _ r c n k a F (HA.out.later (two_below HX.out.below HB1.out)).sl HA.out.nil HR.out).mono ?_; rintro e w2 ⟨t2, rfl, hk2, hb2⟩; have et : t2 = q := (hk2.unique HK.out (SpEq.refl (m2_el HA.out.sl.1 HR.out) r)); subst et; have HB2 : Hid (Below wb.heap.size wb w2) := two_below HB1.out hb2; have b0 := (HX.out.va.later HB2.out).c0; have b1 := (HX.out.va.later HB2.out).c1; have b2 := (HX.out.va.later HB2.out).c2; have HVz : Hid (Vr w2 (w.heap.size + 1) (.int .i64 0) (.int .i64 0) (.slice none 0 0)) := HX.out.vr.later HB2.out; clear hb2 hk2)
    | (refine wpList_store_var rfl _ _ rfl (w.heap.size + 1) _ _ _ (.int .i64 0) (.int .i64 0) (.slice none 0 0) rfl rfl HVz.out rfl rfl rfl ?_; intro w5 HV5 HG5))
  have d0 := HV5.out.c0
  have d1 := HV5.out.c1
  have d2 := HV5.out.c2
  refine bodyPost_ret (v := .tuple #[mv 0 0 none 0 0, .int .i64 6]) (by simp [results, Try.results21, go_sem, d0, d1, d2, mv]) rfl ?_
  exact ⟨rfl, below_row (two_below HX.out.below HB2.out) HG5.out (by omega)⟩
end Go.Proofs.Ytblfldjlehjnbaa

namespace Go.Proofs.Ytblfldjlehjnbaa
open Go.RowKit
theorem rt_turn6 {r c n : Nat} (h : Rt r c n) : Rt c r n := ⟨h.c64, h.r64, by rw [Nat.mul_comm]; exact h.len⟩
set_option maxRecDepth 20000 in
set_option maxHeartbeats 2000000 in
theorem rchk_ok (w : World) (r c n k : Nat) (a : Option Addr) (F : Nat → Nat) (ha : Mt w a n k F) (R : Rt r c n) (hcr : c ≤ r) (hk : Rk (m2 F r c) r c) :
    Calls Try.prog 21 #[mv r c a n k] w fun e w' => ∃ s d kr top p G H, e = .returned (.tuple #[mv (kr : Nat) r s (kr * r) d, .int .i64 0]) ∧ Mt w' s (kr * r) d H ∧ (∀ q, q < n → G q < 256) ∧ Rdf (m2 G c r) c top p ∧ SpEq (m2 G c r) c (m2 (trf F r c) c r) c ∧ (∀ i, i < top → p i < r) ∧ kr = cnt (fre p top) r ∧ (∀ u l, u < kr → l < r → H (u * r + l) = kv (m2 G c r) p top (nth (fre p top) r u) l) ∧ Below w.heap.size w w' := by
  obtain ⟨wb, HW, HX⟩ : ∃ wb, Hid (wb = (w.alloc (.cells #[.int .i64 (r : Int), .int .i64 (c : Int), .slice a n k] 24)).alloc (.cells #[.int .i64 0, .int .i64 0, .slice none 0 0] 24)) ∧ Hid (Box2 w wb r c n k a) := ⟨_, rfl, box2 w r c n k a⟩
  have HK : Hid (Rk (m2 F r c) r c) := hk
  have HA : Hid (Mt w a n k F) := ha
  have HR : Hid (Rt r c n) := R
  have hcl : decide (r < c) = false := by simpa using hcr
  have v0 := HX.out.va.c0
  have v1 := HX.out.va.c1
  have v2 := HX.out.va.c2
  have hwb : w.heap.size + 1 < wb.heap.size := HX.out.vr.lt
  clear ha R hk
  go_enter Try.func21, Try.ntmps21
  go_wp2_with (first
    | (go_at_call 30; rw [← HW.out]; refine (right_yes _ _ _ _ _ _ HR.out.p).mono ?_; rintro e w1 ⟨rfl, hb1⟩; have HB1 : Hid (Below wb.heap.size wb w1) := hb1; have a0 := (HX.out.va.later hb1).c0; have a1 := (HX.out.va.later hb1).c1; have a2 := (HX.out.va.later hb1).c2; clear hb1)
    | (go_at_call 27; refine (rrank_ok _ r c n k a F (HA.out.later (two_below HX.out.below HB1.out)).sl HA.out.nil HR.out).mono ?_; rintro e w2 ⟨t2, rfl, hk2, hb2⟩; have et : t2 = c := (hk2.unique HK.out (SpEq.refl (m2_el HA.out.sl.1 HR.out) r)); subst et; have HB2 : Hid (Below wb.heap.size wb w2) := two_below HB1.out hb2; have b0 := (HX.out.va.later HB2.out).c0; have b1 := (HX.out.va.later HB2.out).c1; have b2 := (HX.out.va.later HB2.out).c2; clear hb2 hk2)
    | (go_at_call 35; have _x := HB2; refine (rtrans_ok _ r t2 n k a F (HA.out.later (two_below HX.out.below HB2.out)).sl HR.out).mono ?_; rintro e w3 ⟨s3, d3, rfl, ho3, hb3⟩; have HM3 : Hid (Mt (w3.alloc (.cells #[.int .i64 (t2 : Int), .int .i64 (r : Int), .slice s3 n d3] 24)) s3 n d3 (trf F r t2)) := (own_mt4 ho3 (trf_all4 HA.out.sl.1 HR.out)).later (alloc_low _ _); have HB3 : Hid (Below wb.heap.size wb (w3.alloc (.cells #[.int .i64 (t2 : Int), .int .i64 (r : Int), .slice s3 n d3] 24))) := two_below (two_below HB2.out hb3) (alloc_low _ _); clear ho3 hb3)
    | (go_at_call 63; have _x := HB3; refine (rker_ok _ t2 r n d3 s3 _ HM3.out (rt_turn6 HR.out)).mono ?_; rintro e w4 ⟨s4, d4, kr, top, p, G, H, rfl, ho4, hG4, hR4, hS4, hp4, hk4, hH4, hl4, hb4⟩; obtain ⟨M, HMM⟩ : ∃ x, Hid (kr * r = x) := ⟨_, rfl⟩; rw [HMM.out] at ho4 hl4 ⊢; have HO4 : Hid (Ob w4 (wb.heap.size) (.slice s4 M d4) M H) := Ob.mono ho4 HB3.out.size; have HF4 : Hid ((∀ q, q < n → G q < 256) ∧ Rdf (m2 G t2 r) t2 top p ∧ SpEq (m2 G t2 r) t2 (m2 (trf F r t2) t2 r) t2 ∧ (∀ i, i < top → p i < r) ∧ kr = cnt (fre p top) r ∧ (∀ u l, u < kr → l < r → H (u * r + l) = kv (m2 G t2 r) p top (nth (fre p top) r u) l)) := ⟨hG4, hR4, hS4, hp4, hk4, hH4⟩; have HL4 : Hid (∀ q, q < M → H q < 256) := hl4; have HB4 : Hid (Below wb.heap.size wb w4) := two_below HB3.out hb4; have HV4 : Hid (Vr w4 (w.heap.size + 1) (.int .i64 0) (.int .i64 0) (.slice none 0 0)) := HX.out.vr.later HB4.out; clear ho4 hG4 hR4 hS4 hp4 hk4 hH4 hl4 hb4)
    | (refine wpList_store_var rfl _ _ rfl (w.heap.size + 1) _ _ _ (.int .i64 (kr : Int)) (.int .i64 (r : Int)) (.slice s4 M d4) rfl rfl HV4.out rfl rfl rfl ?_; intro w5 HV5 HG5))
  have d0 := HV5.out.c0
  have d1 := HV5.out.c1
  have d2 := HV5.out.c2
  refine bodyPost_ret (v := .tuple #[mv (kr : Nat) r s4 M d4, .int .i64 0]) (by simp [results, Try.results21, go_sem, d0, d1, d2, mv]) rfl ?_
  have HO5 : Ob w5 wb.heap.size (.slice s4 M d4) M H := HO4.out.kept HG5.out (.inr (ob_ne_vr HO4.out HV4.out))
  obtain ⟨f1, f2, f3, f4, f5, f6⟩ := HF4.out
  exact ⟨s4, d4, kr, top, p, G, H, by rw [HMM.out], by rw [HMM.out]; exact own_mt4 HO5 HL4.out, f1, f2, f3, f4, f5, f6, below_row (two_below HX.out.below HB4.out) HG5.out (by omega)⟩
end Go.Proofs.Ytblfldjlehjnbaa

namespace Go.Proofs.Ytblfldjlehjnbaa
open Go.RowKit
/-- All of both lists are unlike. -/
def Dst (X : Nat → Nat) (n : Nat) (Y : Nat → Nat) (m : Nat) : Prop := ∀ i j, i < n + m → j < i → stf X Y n i ≠ stf X Y n j
def cauf (X Y : Nat → Nat) (c p : Nat) : Nat := finv (X (p / c) ^^^ Y (p % c))
theorem cauf_at {X Y : Nat → Nat} {c i j : Nat} (hj : j < c) : cauf X Y c (i * c + j) = finv (X i ^^^ Y j) := by unfold cauf; rw [dm1 hj, dm2 hj]
theorem stf_lt6 {X Y : Nat → Nat} {n m : Nat} (hX : ∀ i, i < n → X i < 256) (hY : ∀ i, i < m → Y i < 256) : ∀ p, p < n + m → stf X Y n p < 256 := fun p hp => by
  unfold stf
  split
  · exact hX _ (by omega)
  · exact hY _ (by omega)
set_option maxRecDepth 20000 in
set_option maxHeartbeats 2000000 in
theorem rcau_ok (w : World) (n m N k d : Nat) (a b : Option Addr) (X Y : Nat → Nat) (ha : Mt w a n k X) (hb : Mt w b m d Y) (hn : n ≤ 64) (hm : m ≤ 64) (HN : Hid (n * m = N)) (hD : Dst X n Y m) :
    Calls Try.prog 17 #[.slice a n k, .slice b m d] w fun e w' => ∃ g, e = .returned (.tuple #[mv n m (some ⟨g, 0, none⟩) N N, .int .i64 0]) ∧ RowAt w' g 5 N (cauf X Y m) ∧ w.heap.size ≤ g ∧ Below w.heap.size w w' := by
  have HRt : Hid (Rt n m N) := ⟨hn, hm, HN.out⟩
  have HA : Hid (Mt w a n k X) := ha
  have HB : Hid (Mt w b m d Y) := hb
  have HD0 : Hid (Dst X n Y m) := hD
  have hnl : decide (64 < n) = false := by simp; omega
  have hml : decide (64 < m) = false := by simp; omega
  have hN4 := HRt.out.le
  clear ha hb hD
  go_enter Try.func17, Try.ntmps17
  go_wp2_with (first
    | (go_at_call 50; refine (rcopy_any _ a n k X (HA.out.later (alloc_low _ _)).sl (by omega) HA.out.nil).mono ?_; rintro e w1 ⟨v1, rfl, ho1, hb1⟩; have HO1 : Hid (w1.ownsRow (w.heap.size + 1) 5 1 v1 n (row n X).toList) := (by { show World.ownsRow _ _ _ _ _ _ _; have := ho1; simpa using this }); have HB1 : Hid (Below w.heap.size w w1) := two_below (alloc_low _ _) hb1; have HV1 : Hid (Vr w1 w.heap.size (.int .i64 0) (.int .i64 0) (.slice none 0 0)) := (Vr.new w _ _ _).later hb1; clear ho1 hb1)
    | (at_builtin; refine wpList_append_list rfl _ _ rfl (w.heap.size + 1) n _ _ rfl HO1.out b m d Y rfl (HB.out.later HB1.out).sl HB.out.nil (by omega) HV1.out.lt ?_; intro v2 w2 ho2 hg2; rw [row_stf] at ho2; obtain ⟨s2, d2, e2, _, _⟩ := own_sl' ho2; subst e2; have HO2 : Hid (Ob w2 (w.heap.size + 1) (.slice s2 (n + m) d2) (n + m) (stf X Y n)) := ho2; have HB2 : Hid (Below w.heap.size w w2) := HB1.out.grown hg2 HB1.out.size (fun q hq => (by have := own_base HO1.out q hq; omega)); have HV2 : Hid (Vr w2 w.heap.size (.int .i64 0) (.int .i64 0) (.slice none 0 0)) := HV1.out.grown hg2 (fun e => (by have := own_base HO1.out _ e; omega)); clear ho2 hg2))
  have HS2 : Hid (∀ p, p < n + m → stf X Y n p < 256) := stf_lt6 HA.out.sl.1 HB.out.sl.1
  go_loopw [7] (fun si wr => ∃ i : Nat, i ≤ n + m ∧ si = .int .i64 (i : Int) ∧ Below w2.heap.size w2 wr) (fun si _ => n + m - (intOf si).toNat)
  case atStart => exact ⟨0, by omega, rfl, Below.refl _ _⟩
  case round =>
    obtain ⟨i, hi, rfl, hbr⟩ := hrel
    have HBr : Hid (Below w2.heap.size w2 wr) := hbr
    clear hbr
    by_cases hlt : i < n + m
    · go_wp2
      go_loopw [8] (fun sj wr => ∃ j : Nat, j ≤ i ∧ sj = .int .i64 (j : Int) ∧ Below w2.heap.size w2 wr) (fun sj _ => i - (intOf sj).toNat)
      case atStart => exact ⟨0, by omega, rfl, HBr.out⟩
      case round =>
        clear HBr
        obtain ⟨j, hj, rfl, hbr⟩ := hrel
        have HBr : Hid (Below w2.heap.size w2 wr) := hbr
        clear hbr
        by_cases hlj : j < i
        · have HO3 := HO2.out.later HBr.out
          obtain ⟨g2, eg⟩ := HO3.some (by omega)
          subst eg
          have hc1 := HO3.cell hlt
          have hc2 := HO3.cell (i := j) (by omega)
          obtain ⟨x, HX⟩ : ∃ x, Hid (stf X Y n i = x) := ⟨_, rfl⟩
          obtain ⟨y, HY⟩ : ∃ x, Hid (stf X Y n j = x) := ⟨_, rfl⟩
          rw [HX.out] at hc1
          rw [HY.out] at hc2
          have hne : ¬ x = y := by rw [← HX.out, ← HY.out]; exact HD0.out i j hlt hlj
          have hne2 : ((x : Int) == (y : Int)) = false := by simp; omega
          have HN3 : Hid (Below w2.heap.size w2 wr.drew) := HBr.out.drew
          have q0 : (0 : Int) ≤ (i : Int) := by omega
          have q1 : (i : Int) < ((n + m : Nat) : Int) := by omega
          have q2 : (0 : Int) ≤ (j : Int) := by omega
          have q3 : (j : Int) < ((n + m : Nat) : Int) := by omega
          clear HO3
          go_wp2
          go_region
          go_wp2
          exact ⟨⟨j + 1, by omega, by go_num, HN3.out⟩, by simp [intOf]; omega⟩
        · obtain rfl : j = i := by omega
          go_wp2
          exact ⟨⟨j + 1, by omega, by go_num, HBr.out⟩, by simp [intOf]; omega⟩
    · obtain rfl : i = n + m := by omega
      have HBw : Hid (Below w.heap.size w wr) := two_below HB2.out HBr.out
      go_wp2_with (go_at_call 51; refine (zero_any _ n m N hn hm HN).mono ?_; rintro e w4 ⟨g, rfl, hr4, hg4, hb4⟩; have HR4 : Hid (RowAt w4 g 5 N (fun _ => 0)) := hr4; have hg5 : w.heap.size < g := Nat.lt_of_lt_of_le (HV2.out.later HBr.out).lt hg4; have HB4 : Hid (Below w.heap.size w w4) := two_below HBw.out hb4; have HV4 : Hid (Vr w4 w.heap.size (.int .i64 0) (.int .i64 0) (.slice none 0 0)) := (HV2.out.later HBr.out).later hb4; clear hr4 hg4 hb4)
      have HI0 : Hid (ZInv w w4 (w4.alloc (.cells #[.int .i64 (n : Int), .int .i64 (m : Int), .slice (some ⟨g, 0, none⟩) N N] 24)) g n m N (upt (cauf X Y m) 0)) := ⟨(HR4.out.later (alloc_low _ _)).congr (fun i _ => (if_neg (by omega)).symm), Vr.new w4 _ _ _, HV4.out.later (alloc_low _ _), two_below HB4.out (alloc_low _ _), hg5, HR4.out.lt⟩
      clear HR4 HB4 HV4 HBw HBr HB1 HO1 HV1 HO2 HV2
      go_loopw [10] (fun si wr => ∃ i : Nat, i ≤ n ∧ si = .int .i64 (i : Int) ∧ ZInv w w4 wr g n m N (upt (cauf X Y m) (i * m))) (fun si _ => n - (intOf si).toNat)
      case atStart => exact ⟨0, by omega, rfl, HI0.out.congr (fun _ _ => by rw [Nat.zero_mul])⟩
      case round =>
        clear HI0
        obtain ⟨i, hi, rfl, I⟩ := hrel
        have HI : Hid (ZInv w w4 wr g n m N (upt (cauf X Y m) (i * m))) := I
        have c0 := I.vm.c0
        have c1 := I.vm.c1
        have c2 := I.vm.c2
        clear I
        by_cases hlt : i < n
        · go_wp2
          go_loopw [11] (fun sj wr => ∃ j : Nat, j ≤ m ∧ sj = .int .i64 (j : Int) ∧ ZInv w w4 wr g n m N (upt (cauf X Y m) (i * m + j))) (fun sj _ => m - (intOf sj).toNat)
          case atStart => exact ⟨0, by omega, rfl, HI.out⟩
          case round =>
            clear HI c0 c1 c2
            obtain ⟨j, hj, rfl, I⟩ := hrel
            have HI : Hid (ZInv w w4 wr g n m N (upt (cauf X Y m) (i * m + j))) := I
            have c0 := I.vm.c0
            have c1 := I.vm.c1
            have c2 := I.vm.c2
            by_cases hlj : j < m
            · obtain ⟨P, HP⟩ : ∃ x, Hid (i * m + j = x) := ⟨_, rfl⟩
              have hpn : P < N := by rw [← HP.out]; exact HRt.out.at hlt hlj
              have hd := I.row.cell P hpn
              have hf := I.row.free P
              obtain ⟨ba, oa, ea, hca⟩ := (HA.out.later I.below).sl.2 i hlt
              obtain ⟨bb, ob, eb, hcb⟩ := (HB.out.later I.below).sl.2 j hlj
              subst ea
              subst eb
              obtain ⟨x, HX⟩ : ∃ x, Hid (X i = x) := ⟨_, rfl⟩
              obtain ⟨y, HY⟩ : ∃ x, Hid (Y j = x) := ⟨_, rfl⟩
              have hx : x < 256 := by rw [← HX.out]; exact HA.out.sl.1 i hlt
              have hy : y < 256 := by rw [← HY.out]; exact HB.out.sl.1 j hlj
              rw [HX.out] at hca
              rw [HY.out] at hcb
              obtain ⟨u, HU⟩ : ∃ u, Hid (x ^^^ y = u) := ⟨_, rfl⟩
              have hxo : bits .xor .u8 (x : Int) (y : Int) = (u : Int) := by rw [u8_xor_nat _ _ hx hy, HU.out]
              have hu : u < 256 := by rw [← HU.out]; exact xor_lt _ _ hx hy
              obtain ⟨z, HZ⟩ : ∃ z, Hid (finv u = z) := ⟨_, rfl⟩
              obtain ⟨E, HE⟩ : ∃ z, Hid (ive u = z) := ⟨_, rfl⟩
              have HInv : Hid (∀ w, Calls Try.prog 52 #[.int .u8 (u : Int)] w fun e w' => e = .returned (.tuple #[.int .u8 (z : Int), .int .i64 E]) ∧ w = w') := by rw [← HZ.out, ← HE.out]; exact fun w => (rinv_any u w hu).mono fun _ _ h => ⟨h.1, h.2.symm⟩
              have e1 : ((i : Int) * (m : Int)) = ((i * m : Nat) : Int) := by simp
              have hmp : i * m ≤ P := by rw [← HP.out]; omega
              have w1' : IntKind.i64.wrap ((i : Int) * (m : Int)) = (i : Int) * (m : Int) := by rw [e1, IntKind.wrap_i64]; omega
              have w2' : IntKind.i64.wrap ((i : Int) * (m : Int) + (j : Int)) = (P : Int) := by rw [e1, IntKind.wrap_i64]; have := HP.out; omega
              have p0 : (0 : Int) ≤ (P : Int) := by omega
              have p1 : (P : Int) < (N : Int) := by omega
              have p2 : (0 : Int) ≤ (i : Int) := by omega
              have p3 : (i : Int) < (n : Int) := by omega
              have p4 : (0 : Int) ≤ (j : Int) := by omega
              have p5 : (j : Int) < (m : Int) := by omega
              have hga : ba ≠ g := fun e => by have h1 := HA.out.sl.2 i hlt; obtain ⟨b', o', e', h'⟩ := h1; cases e'; have := cell_lt h'; have := I.lo; simp at *; omega
              have hgb : bb ≠ g := fun e => by have h1 := HB.out.sl.2 j hlj; obtain ⟨b', o', e', h'⟩ := h1; cases e'; have := cell_lt h'; have := I.lo; simp at *; omega
              have HN1 : Hid (ZInv w w4 (wr.drew.setCell ⟨g, P, none⟩ (.int .u8 (z : Int))) g n m N (upt (cauf X Y m) (i * m + (j + 1)))) := ((I.later (Below.refl _ _).drew).set (p := P) (x := z)).congr (fun t _ => by
                rw [← HZ.out, ← HU.out, ← HX.out, ← HY.out, ← HP.out, ← cauf_at hlj]
                exact upt_step (cauf X Y m) (i * m + j) t)
              have HD : Hid (wr.drew.cell? ⟨w4.heap.size, 1, none⟩ = some (.int .i64 (m : Int)) ∧ wr.drew.cell? ⟨w4.heap.size, 2, none⟩ = some (.slice (some ⟨g, 0, none⟩) N N) ∧ wr.drew.cell? ⟨ba, oa + i, none⟩ = some (.int .u8 (x : Int)) ∧ wr.drew.cell? ⟨bb, ob + j, none⟩ = some (.int .u8 (y : Int))) := ⟨c1, c2, hca, hcb⟩
              have HD2 : Hid ((wr.drew.setCell ⟨g, P, none⟩ (.int .u8 (z : Int))).cell? ⟨w4.heap.size, 1, none⟩ = some (.int .i64 (m : Int)) ∧ (wr.drew.setCell ⟨g, P, none⟩ (.int .u8 (z : Int))).cell? ⟨w4.heap.size, 2, none⟩ = some (.slice (some ⟨g, 0, none⟩) N N) ∧ (wr.drew.setCell ⟨g, P, none⟩ (.int .u8 (z : Int))).cell? ⟨ba, oa + i, none⟩ = some (.int .u8 (x : Int)) ∧ (wr.drew.setCell ⟨g, P, none⟩ (.int .u8 (z : Int))).cell? ⟨bb, ob + j, none⟩ = some (.int .u8 (y : Int))) := ⟨HN1.out.vm.c1, HN1.out.vm.c2, keepg (grown_setCell _ _ _ _) hca (fun e => hga (by simpa using e.symm)), keepg (grown_setCell _ _ _ _) hcb (fun e => hgb (by simpa using e.symm))⟩
              clear I e1
              go_wp2
              refine wp_region_held (S := fun w' => w'.cell? ⟨w4.heap.size, 1, none⟩ = some (.int .i64 (m : Int)) ∧ w'.cell? ⟨w4.heap.size, 2, none⟩ = some (.slice (some ⟨g, 0, none⟩) N N) ∧ w'.cell? ⟨ba, oa + i, none⟩ = some (.int .u8 (x : Int)) ∧ w'.cell? ⟨bb, ob + j, none⟩ = some (.int .u8 (y : Int))) (by kernel_rfl) ?_
              change wpAnyH _ _ _ _ _ _ _ _ wr.drew
              refine wpAnyH_take (i := 0) (v := ?va0) rfl (by kernel_rfl) (by kernel_rfl) (by kernel_rfl) (fun _ _ _ h => h) (Or.inl ⟨by rfl, ?ya0⟩) HD.out ?za0
              case ya0 => (intro w hSw; (try dsimp only at hSw); go_simp; try with_reducible rfl)
              try simp only [List.getElem_toArray, List.getElem_cons_zero, Act.put, List.setIfInBounds_toArray, List.set_cons_zero, List.set_cons_succ]
              refine wpAnyH_take (i := 1) (v := ?va1) rfl (by kernel_rfl) (by kernel_rfl) (by kernel_rfl) (fun _ _ _ h => h) (Or.inl ⟨by rfl, ?ya1⟩) HD.out ?za1
              case ya1 => (intro w hSw; (try dsimp only at hSw); go_simp; try with_reducible rfl)
              try simp only [List.getElem_toArray, List.getElem_cons_succ, List.getElem_cons_zero, Act.put, List.setIfInBounds_toArray, List.set_cons_zero, List.set_cons_succ]
              refine wpAnyH_take (i := 2) (v := ?va2) rfl (by kernel_rfl) (by kernel_rfl) (by kernel_rfl) (fun _ _ _ h => h) (Or.inl ⟨by rfl, ?ya2⟩) HD.out ?za2
              case ya2 => (intro w hSw; (try dsimp only at hSw); go_simp; try with_reducible rfl)
              try simp only [List.getElem_toArray, List.getElem_cons_succ, List.getElem_cons_zero, Act.put, List.setIfInBounds_toArray, List.set_cons_zero, List.set_cons_succ]
              refine wpAnyH_take (i := 3) (v := ?va3) rfl (by kernel_rfl) (by kernel_rfl) (by kernel_rfl) (fun _ _ _ h => h) (Or.inl ⟨by rfl, ?ya3⟩) HD.out ?za3
              case ya3 => (intro w hSw; (try dsimp only at hSw); go_simp; try with_reducible rfl)
              try simp only [List.getElem_toArray, List.getElem_cons_succ, List.getElem_cons_zero, Act.put, List.setIfInBounds_toArray, List.set_cons_zero, List.set_cons_succ]
              refine wpAnyH_take (i := 4) (v := ?va4) rfl (by kernel_rfl) (by kernel_rfl) (by kernel_rfl) (fun _ _ _ h => h) (Or.inl ⟨by rfl, ?ya4⟩) HD.out ?za4
              case ya4 => (intro w hSw; (try dsimp only at hSw); go_simp; try with_reducible rfl)
              try simp only [List.getElem_toArray, List.getElem_cons_succ, List.getElem_cons_zero, Act.put, List.setIfInBounds_toArray, List.set_cons_zero, List.set_cons_succ]
              refine wpAnyH_take (i := 5) (v := ?va5) rfl (by kernel_rfl) (by kernel_rfl) (by kernel_rfl) (fun _ _ _ h => h) (Or.inl ⟨by rfl, ?ya5⟩) HD.out ?za5
              case ya5 => (intro w hSw; (try dsimp only at hSw); go_simp; try with_reducible rfl)
              try simp only [List.getElem_toArray, List.getElem_cons_succ, List.getElem_cons_zero, Act.put, List.setIfInBounds_toArray, List.set_cons_zero, List.set_cons_succ]
              refine wpAnyH_take (i := 6) (v := ?va6) rfl (by kernel_rfl) (by kernel_rfl) (by kernel_rfl) (fun _ _ _ h => h) (Or.inl ⟨by rfl, ?ya6⟩) HD.out ?za6
              case ya6 => (intro w hSw; (try dsimp only at hSw); go_simp; try with_reducible rfl)
              try simp only [List.getElem_toArray, List.getElem_cons_succ, List.getElem_cons_zero, Act.put, List.setIfInBounds_toArray, List.set_cons_zero, List.set_cons_succ]
              refine wpAnyH_take (i := 7) (v := ?va7) rfl (by kernel_rfl) (by kernel_rfl) (by kernel_rfl) (fun _ _ _ h => h) (Or.inl ⟨by rfl, ?ya7⟩) HD.out ?za7
              case ya7 => (intro w hSw; (try dsimp only at hSw); go_simp; try with_reducible rfl)
              try simp only [List.getElem_toArray, List.getElem_cons_succ, List.getElem_cons_zero, Act.put, List.setIfInBounds_toArray, List.set_cons_zero, List.set_cons_succ]
              refine wpAnyH_take (i := 8) (v := ?va8) rfl (by kernel_rfl) (by kernel_rfl) (by kernel_rfl) (fun _ _ _ h => h) (Or.inl ⟨by rfl, ?ya8⟩) HD.out ?za8
              case ya8 => (intro w hSw; (try dsimp only at hSw); go_simp; try with_reducible rfl)
              try simp only [List.getElem_toArray, List.getElem_cons_succ, List.getElem_cons_zero, Act.put, List.setIfInBounds_toArray, List.set_cons_zero, List.set_cons_succ]
              refine wpAnyH_take (i := 9) (v := ?va9) rfl (by kernel_rfl) (by kernel_rfl) (by kernel_rfl) (fun _ _ _ h => h) (Or.inl ⟨by rfl, ?ya9⟩) HD.out ?za9
              case ya9 => (intro w hSw; (try dsimp only at hSw); go_simp; try with_reducible rfl)
              try simp only [List.getElem_toArray, List.getElem_cons_succ, List.getElem_cons_zero, Act.put, List.setIfInBounds_toArray, List.set_cons_zero, List.set_cons_succ]
              refine wpAnyH_take (i := 10) (v := ?va10) rfl (by kernel_rfl) (by kernel_rfl) (by kernel_rfl) (fun _ _ _ h => h) (Or.inl ⟨by rfl, ?ya10⟩) HD.out ?za10
              case ya10 => (intro w hSw; (try dsimp only at hSw); go_simp; try with_reducible rfl)
              try simp only [List.getElem_toArray, List.getElem_cons_succ, List.getElem_cons_zero, Act.put, List.setIfInBounds_toArray, List.set_cons_zero, List.set_cons_succ]
              refine wpAnyH_take (i := 11) (v := ?va11) rfl (by kernel_rfl) (by kernel_rfl) (by kernel_rfl) (fun _ _ _ h => h) (Or.inl ⟨by rfl, ?ya11⟩) HD.out ?za11
              case ya11 => (intro w hSw; (try dsimp only at hSw); go_simp; try with_reducible rfl)
              try simp only [List.getElem_toArray, List.getElem_cons_succ, List.getElem_cons_zero, Act.put, List.setIfInBounds_toArray, List.set_cons_zero, List.set_cons_succ]
              refine wpAnyH_take (i := 12) (v := ?va12) rfl (by kernel_rfl) (by kernel_rfl) (by kernel_rfl) (fun _ _ _ h => h) (Or.inl ⟨by rfl, ?ya12⟩) HD.out ?za12
              case ya12 => (intro w hSw; (try dsimp only at hSw); go_simp; try with_reducible rfl)
              try simp only [List.getElem_toArray, List.getElem_cons_succ, List.getElem_cons_zero, Act.put, List.setIfInBounds_toArray, List.set_cons_zero, List.set_cons_succ]
              refine wpAnyH_take (i := 13) (v := ?va13) rfl (by kernel_rfl) (by kernel_rfl) (by kernel_rfl) (fun _ _ _ h => h) (Or.inl ⟨by rfl, ?ya13⟩) HD.out ?za13
              case ya13 => (intro w hSw; (try dsimp only at hSw); go_simp; try with_reducible rfl)
              try simp only [List.getElem_toArray, List.getElem_cons_succ, List.getElem_cons_zero, Act.put, List.setIfInBounds_toArray, List.set_cons_zero, List.set_cons_succ]
              refine wpAnyH_take (i := 14) (v := ?va14) rfl (by kernel_rfl) (by kernel_rfl) (by kernel_rfl) (fun _ _ _ h => h) (Or.inl ⟨by rfl, ?ya14⟩) HD.out ?za14
              case ya14 => (intro w hSw; (try dsimp only at hSw); go_simp; try with_reducible rfl)
              try simp only [List.getElem_toArray, List.getElem_cons_succ, List.getElem_cons_zero, Act.put, List.setIfInBounds_toArray, List.set_cons_zero, List.set_cons_succ]
              refine wpAnyH_take (i := 15) (v := ?va15) rfl (by kernel_rfl) (by kernel_rfl) (by kernel_rfl) (fun _ _ _ h => h) (Or.inl ⟨by rfl, ?ya15⟩) HD.out ?za15
              case ya15 => (intro w hSw; (try dsimp only at hSw); go_simp; try with_reducible rfl)
              try simp only [List.getElem_toArray, List.getElem_cons_succ, List.getElem_cons_zero, Act.put, List.setIfInBounds_toArray, List.set_cons_zero, List.set_cons_succ]
              refine wpAnyH_take (i := 16) (v := ?va16) rfl (by kernel_rfl) (by kernel_rfl) (by kernel_rfl) (fun _ _ _ h => h) (Or.inl ⟨by rfl, ?ya16⟩) HD.out ?za16
              case ya16 => (intro w hSw; (try dsimp only at hSw); go_simp; try with_reducible rfl)
              try simp only [List.getElem_toArray, List.getElem_cons_succ, List.getElem_cons_zero, Act.put, List.setIfInBounds_toArray, List.set_cons_zero, List.set_cons_succ]
              refine wpAnyH_ready (rs := [17]) (by kernel_rfl) (by simp) ?_
              refine AllReadyH.cons rfl (fun K hK => ?_) AllReadyH.nil
              go_simp
              refine (HInv.out _).mono ?_; rintro e w' ⟨rfl, rfl⟩
              refine hK.out _ _ HD.out (fun _ => ?_)
              clear hK K
              try simp only [List.getElem_toArray, List.getElem_cons_succ, List.getElem_cons_zero, Act.put, List.setIfInBounds_toArray, List.set_cons_zero, List.set_cons_succ]
              refine wpAnyH_take (i := 18) (v := ?va18) rfl (by kernel_rfl) (by kernel_rfl) (by kernel_rfl) (fun _ _ _ h => h) (Or.inl ⟨by rfl, ?ya18⟩) HD.out ?za18
              case ya18 => (intro w hSw; (try dsimp only at hSw); go_simp; try with_reducible rfl)
              try simp only [List.getElem_toArray, List.getElem_cons_succ, List.getElem_cons_zero, Act.put, List.setIfInBounds_toArray, List.set_cons_zero, List.set_cons_succ]
              refine wpAnyH_take (i := 19) (v := ?va19) rfl (by kernel_rfl) (by kernel_rfl) (by kernel_rfl) (fun _ _ _ h => h) (Or.inl ⟨by rfl, ?ya19⟩) HD.out ?za19
              case ya19 => (intro w hSw; (try dsimp only at hSw); go_simp; try with_reducible rfl)
              try simp only [List.getElem_toArray, List.getElem_cons_succ, List.getElem_cons_zero, Act.put, List.setIfInBounds_toArray, List.set_cons_zero, List.set_cons_succ]
              refine wpAnyH_take (i := 20) (v := ?va20) rfl (by kernel_rfl) (by kernel_rfl) (by kernel_rfl) (fun _ _ _ h => h) (Or.inl ⟨by rfl, ?ya20⟩) HD.out ?za20
              case ya20 => (intro w hSw; (try dsimp only at hSw); go_simp; try with_reducible rfl)
              try simp only [List.getElem_toArray, List.getElem_cons_succ, List.getElem_cons_zero, Act.put, List.setIfInBounds_toArray, List.set_cons_zero, List.set_cons_succ]
              refine wpAnyH_take (i := 21) (v := ?va21) rfl (by kernel_rfl) (by kernel_rfl) (by kernel_rfl) (fun _ _ _ h => h) (Or.inl ⟨by rfl, ?ya21⟩) HD.out ?za21
              case ya21 => (intro w hSw; (try dsimp only at hSw); go_simp; try with_reducible rfl)
              try simp only [List.getElem_toArray, List.getElem_cons_succ, List.getElem_cons_zero, Act.put, List.setIfInBounds_toArray, List.set_cons_zero, List.set_cons_succ]
              refine wpAnyH_ready (rs := [22]) (by kernel_rfl) (by simp) ?_
              refine AllReadyH.cons rfl (fun K hK => ?_) AllReadyH.nil
              go_simp
              refine hK.out _ _ HD2.out (fun _ => ?_)
              clear hK K
              try simp only [List.getElem_toArray, List.getElem_cons_succ, List.getElem_cons_zero, Act.put]
              refine wpAnyH_done (by kernel_rfl) ?_ _
              go_wp2
              exact ⟨⟨j + 1, by omega, by go_num, HN1.out⟩, by simp [intOf]; omega⟩
            · obtain rfl : j = m := by omega
              clear I
              go_wp2
              exact ⟨⟨i + 1, by omega, by go_num, HI.out.congr (fun t _ => by rw [Nat.add_mul, Nat.one_mul])⟩, by simp [intOf]; omega⟩
        · obtain rfl : i = n := by omega
          go_wp2_with (refine wpList_store_var rfl _ _ rfl w.heap.size _ _ _ (.int .i64 (i : Int)) (.int .i64 (m : Int)) (.slice (some ⟨g, 0, none⟩) N N) rfl rfl HI.out.vr rfl rfl rfl ?_; intro w5 HV5 HG5)
          have d0 := HV5.out.c0
          have d1 := HV5.out.c1
          have d2 := HV5.out.c2
          refine bodyPost_ret (v := .tuple #[mv i m (some ⟨g, 0, none⟩) N N, .int .i64 0]) (by simp [results, Try.results17, go_sem, d0, d1, d2, mv]) rfl ?_
          exact ⟨g, rfl, (HI.out.row.kept HG5.out (by have := HI.out.lo; omega)).congr (fun t ht => upt_all _ (by rw [HN.out]; exact ht)), by have := HI.out.lo; omega, below_row HI.out.below HG5.out (Nat.le_refl _)⟩
end Go.Proofs.Ytblfldjlehjnbaa

namespace Go.Proofs.Ytblfldjlehjnbaa
open Go.RowKit
set_option maxRecDepth 20000 in
set_option maxHeartbeats 2000000 in
theorem rcau_dup (w : World) (n m k d : Nat) (a b : Option Addr) (X Y : Nat → Nat) (ha : Mt w a n k X) (hb : Mt w b m d Y) (hn : n ≤ 64) (hm : m ≤ 64) (hD : ¬ Dst X n Y m) :
    Calls Try.prog 17 #[.slice a n k, .slice b m d] w fun e w' => e = .returned (.tuple #[mv 0 0 none 0 0, .int .i64 2]) ∧ Below w.heap.size w w' := by
  have HA : Hid (Mt w a n k X) := ha
  have HB : Hid (Mt w b m d Y) := hb
  have HD0 : Hid (¬ Dst X n Y m) := hD
  have hnl : decide (64 < n) = false := by simp; omega
  have hml : decide (64 < m) = false := by simp; omega
  clear ha hb hD
  go_enter Try.func17, Try.ntmps17
  go_wp2_with (first
    | (go_at_call 50; refine (rcopy_any _ a n k X (HA.out.later (alloc_low _ _)).sl (by omega) HA.out.nil).mono ?_; rintro e w1 ⟨v1, rfl, ho1, hb1⟩; have HO1 : Hid (w1.ownsRow (w.heap.size + 1) 5 1 v1 n (row n X).toList) := (by { show World.ownsRow _ _ _ _ _ _ _; have := ho1; simpa using this }); have HB1 : Hid (Below w.heap.size w w1) := two_below (alloc_low _ _) hb1; have HV1 : Hid (Vr w1 w.heap.size (.int .i64 0) (.int .i64 0) (.slice none 0 0)) := (Vr.new w _ _ _).later hb1; clear ho1 hb1)
    | (at_builtin; refine wpList_append_list rfl _ _ rfl (w.heap.size + 1) n _ _ rfl HO1.out b m d Y rfl (HB.out.later HB1.out).sl HB.out.nil (by omega) HV1.out.lt ?_; intro v2 w2 ho2 hg2; rw [row_stf] at ho2; obtain ⟨s2, d2, e2, _, _⟩ := own_sl' ho2; subst e2; have HO2 : Hid (Ob w2 (w.heap.size + 1) (.slice s2 (n + m) d2) (n + m) (stf X Y n)) := ho2; have HB2 : Hid (Below w.heap.size w w2) := HB1.out.grown hg2 HB1.out.size (fun q hq => (by have := own_base HO1.out q hq; omega)); have HV2 : Hid (Vr w2 w.heap.size (.int .i64 0) (.int .i64 0) (.slice none 0 0)) := HV1.out.grown hg2 (fun e => (by have := own_base HO1.out _ e; omega)); clear ho2 hg2))
  go_loopw [7] (fun si wr => ∃ i : Nat, i ≤ n + m ∧ si = .int .i64 (i : Int) ∧ (∀ i' j', i' < i → j' < i' → stf X Y n i' ≠ stf X Y n j') ∧ Below w2.heap.size w2 wr) (fun si _ => n + m - (intOf si).toNat)
  case atStart => exact ⟨0, by omega, rfl, fun _ _ h => by omega, Below.refl _ _⟩
  case round =>
    obtain ⟨i, hi, rfl, hp, hbr⟩ := hrel
    have HBr : Hid (Below w2.heap.size w2 wr) := hbr
    have HP : Hid (∀ i' j', i' < i → j' < i' → stf X Y n i' ≠ stf X Y n j') := hp
    clear hbr hp
    by_cases hlt : i < n + m
    · go_wp2
      go_loopw [8] (fun sj wr => ∃ j : Nat, j ≤ i ∧ sj = .int .i64 (j : Int) ∧ (∀ j', j' < j → stf X Y n i ≠ stf X Y n j') ∧ Below w2.heap.size w2 wr) (fun sj _ => i - (intOf sj).toNat)
      case atStart => exact ⟨0, by omega, rfl, fun _ h => by omega, HBr.out⟩
      case round =>
        clear HBr
        obtain ⟨j, hj, rfl, hp, hbr⟩ := hrel
        have HBr : Hid (Below w2.heap.size w2 wr) := hbr
        have HQ : Hid (∀ j', j' < j → stf X Y n i ≠ stf X Y n j') := hp
        clear hbr hp
        by_cases hlj : j < i
        · have HO3 := HO2.out.later HBr.out
          obtain ⟨g2, eg⟩ := HO3.some (by omega)
          subst eg
          have hc1 := HO3.cell hlt
          have hc2 := HO3.cell (i := j) (by omega)
          obtain ⟨x, HX⟩ : ∃ x, Hid (stf X Y n i = x) := ⟨_, rfl⟩
          obtain ⟨y, HY⟩ : ∃ x, Hid (stf X Y n j = x) := ⟨_, rfl⟩
          rw [HX.out] at hc1
          rw [HY.out] at hc2
          have HN3 : Hid (Below w2.heap.size w2 wr.drew) := HBr.out.drew
          have HV3 : Hid (Vr wr.drew w.heap.size (.int .i64 0) (.int .i64 0) (.slice none 0 0)) := HV2.out.later HN3.out
          have q0 : (0 : Int) ≤ (i : Int) := by omega
          have q1 : (i : Int) < ((n + m : Nat) : Int) := by omega
          have q2 : (0 : Int) ≤ (j : Int) := by omega
          have q3 : (j : Int) < ((n + m : Nat) : Int) := by omega
          clear HO3
          by_cases hne : x = y
          · have hne2 : ((x : Int) == (y : Int)) = true := by simp; omega
            clear hne
            go_wp2
            go_region
            go_wp2_with (refine wpList_store_var rfl _ _ rfl w.heap.size _ _ _ (.int .i64 0) (.int .i64 0) (.slice none 0 0) rfl rfl HV3.out rfl rfl rfl ?_; intro w5 HV5 HG5)
            have d0 := HV5.out.c0
            have d1 := HV5.out.c1
            have d2 := HV5.out.c2
            refine bodyPost_ret (v := .tuple #[mv 0 0 none 0 0, .int .i64 2]) (by simp [results, Try.results17, go_sem, d0, d1, d2, mv]) rfl ?_
            exact ⟨rfl, below_row (two_below HB2.out HN3.out) HG5.out (Nat.le_refl _)⟩
          · have hne2 : ((x : Int) == (y : Int)) = false := by simp; omega
            have HNE : Hid (x ≠ y) := hne
            clear hne
            go_wp2
            go_region
            go_wp2
            exact ⟨⟨j + 1, by omega, by go_num, fun j' hj' => by
              by_cases e : j' = j
              · rw [e, HX.out, HY.out]; exact HNE.out
              · exact HQ.out j' (by omega), HN3.out⟩, by simp [intOf]; omega⟩
        · obtain rfl : j = i := by omega
          go_wp2
          exact ⟨⟨j + 1, by omega, by go_num, fun i' j' hi' hj' => by
            by_cases e : i' = j
            · subst e; exact HQ.out j' hj'
            · exact HP.out i' j' (by omega) hj', HBr.out⟩, by simp [intOf]; omega⟩
    · obtain rfl : i = n + m := by omega
      exact absurd HP.out HD0.out
set_option maxRecDepth 20000 in
set_option maxHeartbeats 2000000 in
theorem rcau_limit (w : World) (n m k d : Nat) (a b : Option Addr) (h : 64 < n ∨ 64 < m) :
    Calls Try.prog 17 #[.slice a n k, .slice b m d] w fun e w' => e = .returned (.tuple #[mv 0 0 none 0 0, .int .i64 4]) ∧ Below w.heap.size w w' := by
  have HV1 : Hid (Vr (w.alloc (.cells #[.int .i64 0, .int .i64 0, .slice none 0 0] 24)) w.heap.size (.int .i64 0) (.int .i64 0) (.slice none 0 0)) := Vr.new w _ _ _
  by_cases h1 : 64 < n
  · have hnl : decide ((64 : Int) < (n : Int)) = true := by simp; omega
    clear h h1
    go_enter Try.func17, Try.ntmps17
    go_wp2_with (refine wpList_store_var rfl _ _ rfl w.heap.size _ _ _ (.int .i64 0) (.int .i64 0) (.slice none 0 0) rfl rfl HV1.out rfl rfl rfl ?_; intro w5 HV5 HG5)
    have d0 := HV5.out.c0
    have d1 := HV5.out.c1
    have d2 := HV5.out.c2
    refine bodyPost_ret (v := .tuple #[mv 0 0 none 0 0, .int .i64 4]) (by simp [results, Try.results17, go_sem, d0, d1, d2, mv]) rfl ?_
    exact ⟨rfl, below_row (alloc_low _ _) HG5.out (Nat.le_refl _)⟩
  · have hnl : decide ((64 : Int) < (n : Int)) = false := by simp; omega
    have hml : decide ((64 : Int) < (m : Int)) = true := by simp; omega
    clear h h1
    go_enter Try.func17, Try.ntmps17
    go_wp2_with (refine wpList_store_var rfl _ _ rfl w.heap.size _ _ _ (.int .i64 0) (.int .i64 0) (.slice none 0 0) rfl rfl HV1.out rfl rfl rfl ?_; intro w5 HV5 HG5)
    have d0 := HV5.out.c0
    have d1 := HV5.out.c1
    have d2 := HV5.out.c2
    refine bodyPost_ret (v := .tuple #[mv 0 0 none 0 0, .int .i64 4]) (by simp [results, Try.results17, go_sem, d0, d1, d2, mv]) rfl ?_
    exact ⟨rfl, below_row (alloc_low _ _) HG5.out (Nat.le_refl _)⟩
end Go.Proofs.Ytblfldjlehjnbaa

namespace Go.Proofs.Ytblfldjlehjnbaa
open Go.RowKit
def FitsP (k m : Int) : Prop := 1 ≤ k ∧ 0 ≤ m ∧ k ≤ 64 ∧ m ≤ 64 ∧ k + m ≤ 64
set_option maxRecDepth 20000 in
theorem rfits_yes (w : World) (k m : Nat) (hk : 1 ≤ k) (h : k + m ≤ 64) : Calls Try.prog 42 #[.int .i64 (k : Int), .int .i64 (m : Int)] w fun e w' => e = .returned (.bool true) ∧ w = w' := by
  have g1 : decide (1 ≤ k) = true := by simpa using hk
  have g2 : decide (k ≤ 64) = true := by simp; omega
  have g3 : decide (m ≤ 64) = true := by simp; omega
  have e1 : IntKind.i64.wrap ((k : Int) + (m : Int)) = (k : Int) + (m : Int) := by rw [IntKind.wrap_i64]; omega
  have g4 : decide ((k : Int) + (m : Int) ≤ 64) = true := by simp; omega
  go_enter Try.func42, Try.ntmps42
  go_wp2
  go_ret
  exact ⟨rfl, rfl⟩
set_option maxRecDepth 20000 in
theorem rfits_no (w : World) (k m : Int) (h : ¬ FitsP k m) : Calls Try.prog 42 #[.int .i64 k, .int .i64 m] w fun e w' => e = .returned (.bool false) ∧ w = w' := by
  by_cases h1 : 1 ≤ k
  · have g1 : decide (1 ≤ k) = true := by simpa using h1
    by_cases h2 : 0 ≤ m
    · have g2 : decide (0 ≤ m) = true := by simpa using h2
      by_cases h3 : k ≤ 64
      · have g3 : decide (k ≤ 64) = true := by simpa using h3
        by_cases h4 : m ≤ 64
        · have g4 : decide (m ≤ 64) = true := by simpa using h4
          have e1 : IntKind.i64.wrap (k + m) = k + m := by rw [IntKind.wrap_i64]; omega
          have g5 : decide (k + m ≤ 64) = false := by
            have : ¬ (k + m ≤ 64) := fun x => h ⟨h1, h2, h3, h4, x⟩
            simp; omega
          clear h h1 h2 h3 h4
          go_enter Try.func42, Try.ntmps42
          go_wp2
          go_ret
          exact ⟨rfl, rfl⟩
        · have g4 : decide (m ≤ 64) = false := by simp; omega
          clear h h1 h2 h3 h4
          go_enter Try.func42, Try.ntmps42
          go_wp2
          go_ret
          exact ⟨rfl, rfl⟩
      · have g3 : decide (k ≤ 64) = false := by simp; omega
        clear h h1 h2 h3
        go_enter Try.func42, Try.ntmps42
        go_wp2
        go_ret
        exact ⟨rfl, rfl⟩
    · have g2 : decide (0 ≤ m) = false := by simp; omega
      clear h h1 h2
      go_enter Try.func42, Try.ntmps42
      go_wp2
      go_ret
      exact ⟨rfl, rfl⟩
  · have g1 : decide (1 ≤ k) = false := by simp; omega
    clear h h1
    go_enter Try.func42, Try.ntmps42
    go_wp2
    go_ret
    exact ⟨rfl, rfl⟩
theorem vdf_m2 {r k i : Nat} (hi : i < r) {x : Nat → Nat} : dt (m2 (vdf k) r k i) x k = dt (fpow i) x k := dt_congr (fun j hj => by rw [m2_at _ hi hj, vdf_at hj])
/-- The first k rows of Vandermonde's matrix have an inverse. -/
theorem vdf_top {k : Nat} (hk : k ≤ 64) : Rk (m2 (vdf k) k k) k k :=
  rk_of_ker (m2_el (n := k * k) (fun p _ => vdf_lt k p) ⟨hk, hk, rfl⟩) (fun i j _ hj => m2_cut _ hj) (fun x hx h => vdm_ker (q := fun i => i) (fun i hi => by show i < 256; omega) (fun i j _ _ e => e) hx (fun i hi => by rw [← h i hi]; exact (vdf_m2 hi).symm))
set_option maxRecDepth 20000 in
set_option maxHeartbeats 2000000 in
theorem rreed_ok (w : World) (k m n : Nat) (hk : 1 ≤ k) (h : k + m ≤ 64) (HN : Hid ((k + m) * k = n)) :
    Calls Try.prog 12 #[.int .i64 (k : Int), .int .i64 (m : Int)] w fun e w' => ∃ g X, e = .returned (.tuple #[mv ((k + m : Nat) : Int) k (some ⟨g, 0, none⟩) n n, .int .i64 0]) ∧ RowAt w' g 5 n (prk (vdf k) X k k k) ∧ (∀ q, q < k * k → X q < 256) ∧ (∀ i j, i < k → j < k → pr (m2 (vdf k) k k) (m2 X k k) k i j = dl i j) ∧ w.heap.size ≤ g ∧ Below w.heap.size w w' := by
  obtain ⟨r, HRR⟩ : ∃ r, Hid (k + m = r) := ⟨_, rfl⟩
  have hrr := HRR.out
  rw [hrr] at h HN ⊢
  have HRt : Hid (Rt r k n) := ⟨h, by omega, HN.out⟩
  have e1 : IntKind.i64.wrap ((k : Int) + (m : Int)) = (r : Int) := by rw [IntKind.wrap_i64]; omega
  have HV0 : Hid (Vr (w.alloc (.cells #[.int .i64 0, .int .i64 0, .slice none 0 0] 24)) w.heap.size (.int .i64 0) (.int .i64 0) (.slice none 0 0)) := Vr.new w _ _ _
  have hkr : k ≤ r := by omega
  have hk64 : k ≤ 64 := by omega
  have hkm : k + m ≤ 64 := by omega
  have HKm : Hid (k + m ≤ 64) := hkm
  clear hrr hkm
  go_enter Try.func12, Try.ntmps12
  go_wp2_with (first
    | (go_at_call 42; refine (rfits_yes _ k m hk HKm.out).mono ?_; rintro e w' ⟨rfl, rfl⟩)
    | (go_at_call 10; refine (rvdm_ok _ r k n h hk64 HN).mono ?_; rintro e w1 ⟨g1, rfl, hr1, hg1, hb1⟩; have HM1 : Hid (Mt (w1.alloc (.cells #[.int .i64 (r : Int), .int .i64 (k : Int), .slice (some ⟨g1, 0, none⟩) n n] 24)) (some ⟨g1, 0, none⟩) n n (vdf k)) := (hr1.mt (fun p _ => vdf_lt k p)).later (alloc_low _ _); have HB1 : Hid (Below w.heap.size w (w1.alloc (.cells #[.int .i64 (r : Int), .int .i64 (k : Int), .slice (some ⟨g1, 0, none⟩) n n] 24))) := two_below (two_below (alloc_low _ _) hb1) (alloc_low _ _); have HV1 : Hid (Vr (w1.alloc (.cells #[.int .i64 (r : Int), .int .i64 (k : Int), .slice (some ⟨g1, 0, none⟩) n n] 24)) w.heap.size (.int .i64 0) (.int .i64 0) (.slice none 0 0)) := (HV0.out.later hb1).later (alloc_low _ _); clear hr1 hg1 hb1)
    | (go_at_call 19; refine (rsys_ok _ r k n n _ (vdf k) HM1.out HRt.out hkr (vdf_top hk64)).mono ?_; rintro e w2 ⟨g2, X, rfl, hr2, hX2, hp2, hg2, hb2⟩; have HR2 : Hid (RowAt w2 g2 5 n (prk (vdf k) X k k k)) := hr2; have HX2 : Hid ((∀ q, q < k * k → X q < 256) ∧ (∀ i j, i < k → j < k → pr (m2 (vdf k) k k) (m2 X k k) k i j = dl i j)) := ⟨hX2, hp2⟩; have hg3 : w.heap.size < g2 := Nat.lt_of_lt_of_le HV1.out.lt hg2; have HB2 : Hid (Below w.heap.size w w2) := two_below HB1.out hb2; have HV2 : Hid (Vr w2 w.heap.size (.int .i64 0) (.int .i64 0) (.slice none 0 0)) := HV1.out.later hb2; clear hr2 hX2 hp2 hg2 hb2)
    | (refine wpList_store_var rfl _ _ rfl w.heap.size _ _ _ (.int .i64 (r : Int)) (.int .i64 (k : Int)) (.slice (some ⟨g2, 0, none⟩) n n) rfl rfl HV2.out rfl rfl rfl ?_; intro w5 HV5 HG5))
  have d0 := HV5.out.c0
  have d1 := HV5.out.c1
  have d2 := HV5.out.c2
  refine bodyPost_ret (v := .tuple #[mv r k (some ⟨g2, 0, none⟩) n n, .int .i64 0]) (by simp [results, Try.results12, go_sem, d0, d1, d2, mv]) rfl ?_
  exact ⟨g2, X, rfl, HR2.out.kept HG5.out (by omega), HX2.out.1, HX2.out.2, by omega, below_row HB2.out HG5.out (Nat.le_refl _)⟩
set_option maxRecDepth 20000 in
set_option maxHeartbeats 2000000 in
theorem rreed_bad (w : World) (k m : Int) (h : ¬ FitsP k m) :
    Calls Try.prog 12 #[.int .i64 k, .int .i64 m] w fun e w' => e = .returned (.tuple #[mv 0 0 none 0 0, .int .i64 2]) ∧ Below w.heap.size w w' := by
  have HF : Hid (¬ FitsP k m) := h
  have HV0 : Hid (Vr (w.alloc (.cells #[.int .i64 0, .int .i64 0, .slice none 0 0] 24)) w.heap.size (.int .i64 0) (.int .i64 0) (.slice none 0 0)) := Vr.new w _ _ _
  clear h
  go_enter Try.func12, Try.ntmps12
  go_wp2_with (first
    | (go_at_call 42; refine (rfits_no _ k m HF.out).mono ?_; rintro e w' ⟨rfl, rfl⟩)
    | (refine wpList_store_var rfl _ _ rfl w.heap.size _ _ _ (.int .i64 0) (.int .i64 0) (.slice none 0 0) rfl rfl HV0.out rfl rfl rfl ?_; intro w5 HV5 HG5))
  have d0 := HV5.out.c0
  have d1 := HV5.out.c1
  have d2 := HV5.out.c2
  refine bodyPost_ret (v := .tuple #[mv 0 0 none 0 0, .int .i64 2]) (by simp [results, Try.results12, go_sem, d0, d1, d2, mv]) rfl ?_
  exact ⟨rfl, below_row (alloc_low _ _) HG5.out (Nat.le_refl _)⟩
end Go.Proofs.Ytblfldjlehjnbaa

namespace Go.Proofs.Ytblfldjlehjnbaa
open Go.RowKit
theorem ob_nil (w : World) (B : Nat) (f : Nat → Nat) : Ob w B (.slice none 0 0) 0 f := by show World.ownsRow _ _ _ _ _ _ _; rw [row_empty]; exact World.ownsRow_nil _ _ _ _
/-- Cross's entries. -/
def crf (k : Nat) : Nat → Nat := stf (idf k) (cauf (fun p => k + p) (fun p => p) k) (k * k)
theorem dst_crs (k m : Nat) : Dst (fun p => k + p) m (fun p => p) k := fun i j hi hj => by
  unfold stf
  by_cases h1 : i < m
  · rw [if_pos h1, if_pos (by omega)]; intro e; dsimp only at e; omega
  · rw [if_neg h1]
    by_cases h2 : j < m
    · rw [if_pos h2]; intro e; dsimp only at e; omega
    · rw [if_neg h2]; intro e; dsimp only at e; omega
set_option maxRecDepth 20000 in
set_option maxHeartbeats 2000000 in
theorem rcross_ok (w : World) (k m A B : Nat) (hk : 1 ≤ k) (h : k + m ≤ 64) (HA : Hid (k * k = A)) (HB : Hid (m * k = B)) :
    Calls Try.prog 14 #[.int .i64 (k : Int), .int .i64 (m : Int)] w fun e w' => ∃ s d, e = .returned (.tuple #[mv ((k + m : Nat) : Int) k s (A + B) d, .int .i64 0]) ∧ Mt w' s (A + B) d (crf k) ∧ Below w.heap.size w w' := by
  obtain ⟨i0, hi0, hz0, hz1, hz2⟩ := info_parts info8
  have HRA : Hid (Rt k k A) := ⟨by omega, by omega, HA.out⟩
  have HRB : Hid (Rt m k B) := ⟨by omega, by omega, HB.out⟩
  have hA4 := HRA.out.le
  have hB4 := HRB.out.le
  have HKm : Hid (k + m ≤ 64) := h
  obtain ⟨w0, HW⟩ : ∃ x, Hid (x = w.alloc (.cells #[.int .i64 0, .int .i64 0, .slice none 0 0] 24)) := ⟨_, rfl⟩
  have HV0 : Hid (Vr w0 w.heap.size (.int .i64 0) (.int .i64 0) (.slice none 0 0)) := by rw [HW.out]; exact Vr.new w _ _ _
  have HB0 : Hid (Below w.heap.size w w0) := by rw [HW.out]; exact alloc_low _ _
  go_enter Try.func14, Try.ntmps14
  go_wp2_with (go_at_call 42; refine (rfits_yes _ k m hk HKm.out).mono ?_; rintro e w' ⟨rfl, rfl⟩)
  rw [← HW.out]
  go_loopw [7, 8] (fun sy si wr => ∃ (i d : Nat) (s : Option Addr), i ≤ k ∧ si = .int .i64 (i : Int) ∧ sy = .slice s i d ∧ Ob wr w0.heap.size (.slice s i d) i (fun p => p) ∧ Below w0.heap.size w0 wr) (fun _ si _ => k - (intOf si).toNat)
  case atStart => exact ⟨0, 0, none, by omega, rfl, rfl, ob_nil _ _ _, Below.refl _ _⟩
  case round =>
    obtain ⟨i, d, s, hi, rfl, rfl, ho, hb⟩ := hrel
    have HO : Hid (Ob wr w0.heap.size (.slice s i d) i (fun p => p)) := ho
    have HBr : Hid (Below w0.heap.size w0 wr) := hb
    have hsz := hb.size
    clear ho hb
    by_cases hlt : i < k
    · have hml : i + 1 ≤ maxLen := by unfold maxLen; omega
      have w3' : IntKind.u8.wrap (i : Int) = (i : Int) := by rw [IntKind.wrap_u8]; omega
      go_wp2_with (at_builtin; refine wpList_append_lies _ rfl _ _ 22 rfl w0.heap.size 5 i0 (.int .u8 0) 1 1 Try.underlying22 hi0 hz0 hz1 hz2 rfl (by decide) _ i (row i (fun p => p)).toList rfl (World.ownsRow.alloc HO.out _) ⟨wr.heap.size, 0, none⟩ 1 1 [.int .u8 (i : Int)] rfl rfl (one_new _ _ i) (one_one i) (by omega) hml (by omega) (by simp; omega) (wr.heap.size + 1) (by simp) ?_; intro gg cap w3 hown3 hgrow3 hat3 hlt3; have HO3 : Hid (Ob w3 w0.heap.size (.slice (some ⟨gg, 0, none⟩) (i + 1) cap) (i + 1) (fun p => p)) := (by { show World.ownsRow _ _ _ _ _ _ _; rw [← row_snoc]; exact hown3 }); have HB3 : Hid (Below w0.heap.size w0 w3) := grow_step (base := 0) HBr.out HO.out hgrow3 rfl; clear hown3 hgrow3 hat3 hlt3)
      exact ⟨⟨i + 1, cap, some ⟨gg, 0, none⟩, by omega, by go_num, rfl, HO3.out, HB3.out⟩, by simp [intOf]; omega⟩
    · obtain rfl : i = k := by omega
      obtain ⟨w6, HW6⟩ : ∃ x, Hid (x = wr) := ⟨_, rfl⟩
      have HO6 : Hid (Ob w6 w0.heap.size (.slice s i d) i (fun p => p)) := by rw [HW6.out]; exact HO.out
      have HB6 : Hid (Below w0.heap.size w0 w6) := by rw [HW6.out]; exact HBr.out
      have hs6 : w6 = wr := HW6.out
      subst hs6
      clear HO HBr hsz HW6
      go_wp2
      go_loopw [6, 9] (fun sx si wr => ∃ (j e : Nat) (q : Option Addr), j ≤ m ∧ si = .int .i64 (j : Int) ∧ sx = .slice q j e ∧ Ob wr w6.heap.size (.slice q j e) j (fun p => i + p) ∧ Below w6.heap.size w6 wr) (fun _ si _ => m - (intOf si).toNat)
      case atStart => exact ⟨0, 0, none, by omega, rfl, rfl, ob_nil _ _ _, Below.refl _ _⟩
      case round =>
        obtain ⟨j, e, q, hj, rfl, rfl, ho, hb⟩ := hrel
        have HO : Hid (Ob wr w6.heap.size (.slice q j e) j (fun p => i + p)) := ho
        have HBr : Hid (Below w6.heap.size w6 wr) := hb
        have hsz := hb.size
        clear ho hb
        by_cases hlj : j < m
        · have hml : j + 1 ≤ maxLen := by unfold maxLen; omega
          obtain ⟨x, HX⟩ : ∃ x, Hid (i + j = x) := ⟨_, rfl⟩
          have hx := HX.out
          have w4' : IntKind.i64.wrap ((i : Int) + (j : Int)) = (x : Int) := by rw [IntKind.wrap_i64]; omega
          have w3' : IntKind.u8.wrap (x : Int) = (x : Int) := by rw [IntKind.wrap_u8]; omega
          clear hx
          go_wp2_with (at_builtin; refine wpList_append_lies _ rfl _ _ 22 rfl w6.heap.size 5 i0 (.int .u8 0) 1 1 Try.underlying22 hi0 hz0 hz1 hz2 rfl (by decide) _ j (row j (fun p => i + p)).toList rfl (World.ownsRow.alloc HO.out _) ⟨wr.heap.size, 0, none⟩ 1 1 [.int .u8 (x : Int)] rfl rfl (one_new _ _ x) (one_one x) (by omega) hml (by omega) (by simp; omega) (wr.heap.size + 1) (by simp) ?_; intro gg cap w3 hown3 hgrow3 hat3 hlt3; have HO3 : Hid (Ob w3 w6.heap.size (.slice (some ⟨gg, 0, none⟩) (j + 1) cap) (j + 1) (fun p => i + p)) := (by { show World.ownsRow _ _ _ _ _ _ _; rw [← row_snoc]; rw [← HX.out] at hown3; exact hown3 }); have HB3 : Hid (Below w6.heap.size w6 w3) := grow_step (base := 0) HBr.out HO.out hgrow3 rfl; clear hown3 hgrow3 hat3 hlt3)
          exact ⟨⟨j + 1, cap, some ⟨gg, 0, none⟩, by omega, by go_num, rfl, HO3.out, HB3.out⟩, by simp [intOf]; omega⟩
        · obtain rfl : j = m := by omega
          have HMx : Hid (Mt wr q j e (fun p => i + p)) := own_mt4 HO.out (fun p hp => by show i + p < 256; omega)
          have HMy : Hid (Mt wr s i d (fun p => p)) := own_mt4 (HO6.out.later HBr.out) (fun p hp => by show p < 256; omega)
          have HVr : Hid (Vr wr w.heap.size (.int .i64 0) (.int .i64 0) (.slice none 0 0)) := HV0.out.later (two_below HB6.out HBr.out)
          have HBw : Hid (Below w.heap.size w wr) := two_below HB0.out (two_below HB6.out HBr.out)
          have hj64 : j ≤ 64 := by omega
          have hi64 : i ≤ 64 := by omega
          go_wp2_with (first
            | (go_at_call 17; refine (rcau_ok _ j i B e d q s _ _ HMx.out HMy.out hj64 hi64 HB (dst_crs i j)).mono ?_; rintro e1 x1 ⟨g1, rfl, hr1, hg1, hb1⟩; have HR1 : Hid (RowAt (x1.alloc (.cells #[.int .i64 (j : Int), .int .i64 (i : Int), .slice (some ⟨g1, 0, none⟩) B B] 24)) g1 5 B (cauf (fun p => i + p) (fun p => p) i)) := hr1.later (alloc_low _ _); have HB1 : Hid (Below w.heap.size w (x1.alloc (.cells #[.int .i64 (j : Int), .int .i64 (i : Int), .slice (some ⟨g1, 0, none⟩) B B] 24))) := two_below (two_below HBw.out hb1) (alloc_low _ _); have HV1 : Hid (Vr (x1.alloc (.cells #[.int .i64 (j : Int), .int .i64 (i : Int), .slice (some ⟨g1, 0, none⟩) B B] 24)) w.heap.size (.int .i64 0) (.int .i64 0) (.slice none 0 0)) := (HVr.out.later hb1).later (alloc_low _ _); have HC1 : Hid (Vr (x1.alloc (.cells #[.int .i64 (j : Int), .int .i64 (i : Int), .slice (some ⟨g1, 0, none⟩) B B] 24)) x1.heap.size (.int .i64 (j : Int)) (.int .i64 (i : Int)) (.slice (some ⟨g1, 0, none⟩) B B)) := Vr.new x1 _ _ _; clear hr1 hg1 hb1)
            | (go_at_call 28; have _x := HB1; refine (rident_ok _ i A hi64 HA).mono ?_; rintro e1 x2 ⟨g2, rfl, hr2, hg2, hb2⟩; have HR2 : Hid (RowAt (x2.alloc (.cells #[.int .i64 (i : Int), .int .i64 (i : Int), .slice (some ⟨g2, 0, none⟩) A A] 24)) g2 5 A (idf i)) := hr2.later (alloc_low _ _); have HR1' : Hid (RowAt (x2.alloc (.cells #[.int .i64 (i : Int), .int .i64 (i : Int), .slice (some ⟨g2, 0, none⟩) A A] 24)) g1 5 B (cauf (fun p => i + p) (fun p => p) i)) := (HR1.out.later hb2).later (alloc_low _ _); have HB2 : Hid (Below w.heap.size w (x2.alloc (.cells #[.int .i64 (i : Int), .int .i64 (i : Int), .slice (some ⟨g2, 0, none⟩) A A] 24))) := two_below (two_below HB1.out hb2) (alloc_low _ _); have HV2 : Hid (Vr (x2.alloc (.cells #[.int .i64 (i : Int), .int .i64 (i : Int), .slice (some ⟨g2, 0, none⟩) A A] 24)) w.heap.size (.int .i64 0) (.int .i64 0) (.slice none 0 0)) := (HV1.out.later hb2).later (alloc_low _ _); have HC2 := (HC1.out.later hb2).later (alloc_low x2 (.cells #[.int .i64 (i : Int), .int .i64 (i : Int), .slice (some ⟨g2, 0, none⟩) A A] 24)); have y0 := HC2.c0; have y1 := HC2.c1; have y2 := HC2.c2; clear hr2 hg2 hb2 HC2)
            | (go_at_call 46; have _x := HB2; refine (rstack_ok _ i j i A B (i + j) A B _ _ _ _ (HR2.out.sl (fun p _ => idf_lt i p)) (by omega) (fun e => by cases e) (HR1'.out.sl (fun p _ => finv_lt _)) (fun e => by cases e) HRA.out HRB.out rfl HKm.out).mono ?_; rintro e1 x3 ⟨s3, d3, rfl, ho3, hb3⟩; have HO3 : Hid (Ob x3 (w.heap.size + 1) (.slice s3 (A + B) d3) (A + B) (stf (idf i) (cauf (fun p => i + p) (fun p => p) i) A)) := Ob.mono (B' := w.heap.size + 1) ho3 HV2.out.lt; have HB3 : Hid (Below w.heap.size w x3) := two_below HB2.out hb3; have HV3 : Hid (Vr x3 w.heap.size (.int .i64 0) (.int .i64 0) (.slice none 0 0)) := HV2.out.later hb3; clear ho3 hb3)
            | (refine wpList_store_var rfl _ _ rfl w.heap.size _ _ _ (.int .i64 ((i + j : Nat) : Int)) (.int .i64 (i : Int)) (.slice s3 (A + B) d3) rfl rfl HV3.out rfl rfl rfl ?_; intro x5 HV5 HG5))
          have d0 := HV5.out.c0
          have d1 := HV5.out.c1
          have d2 := HV5.out.c2
          refine bodyPost_ret (v := .tuple #[mv ((i + j : Nat) : Int) i s3 (A + B) d3, .int .i64 0]) (by simp [results, Try.results14, go_sem, d0, d1, d2, mv]) rfl ?_
          have HO5 := HO3.out.kept HG5.out (.inr (ob_ne_vr HO3.out HV3.out))
          refine ⟨s3, d3, rfl, ?_, below_row HB3.out HG5.out (Nat.le_refl _)⟩
          unfold crf
          rw [HA.out]
          exact own_mt4 HO5 (stf_lt6 (fun p _ => idf_lt i p) (fun p _ => finv_lt _))
set_option maxRecDepth 20000 in
set_option maxHeartbeats 2000000 in
theorem rcross_bad (w : World) (k m : Int) (h : ¬ FitsP k m) :
    Calls Try.prog 14 #[.int .i64 k, .int .i64 m] w fun e w' => e = .returned (.tuple #[mv 0 0 none 0 0, .int .i64 2]) ∧ Below w.heap.size w w' := by
  have HF : Hid (¬ FitsP k m) := h
  have HV0 : Hid (Vr (w.alloc (.cells #[.int .i64 0, .int .i64 0, .slice none 0 0] 24)) w.heap.size (.int .i64 0) (.int .i64 0) (.slice none 0 0)) := Vr.new w _ _ _
  clear h
  go_enter Try.func14, Try.ntmps14
  go_wp2_with (first
    | (go_at_call 42; refine (rfits_no _ k m HF.out).mono ?_; rintro e w' ⟨rfl, rfl⟩)
    | (refine wpList_store_var rfl _ _ rfl w.heap.size _ _ _ (.int .i64 0) (.int .i64 0) (.slice none 0 0) rfl rfl HV0.out rfl rfl rfl ?_; intro w5 HV5 HG5))
  have d0 := HV5.out.c0
  have d1 := HV5.out.c1
  have d2 := HV5.out.c2
  refine bodyPost_ret (v := .tuple #[mv 0 0 none 0 0, .int .i64 2]) (by simp [results, Try.results14, go_sem, d0, d1, d2, mv]) rfl ?_
  exact ⟨rfl, below_row (alloc_low _ _) HG5.out (Nat.le_refl _)⟩
end Go.Proofs.Ytblfldjlehjnbaa
