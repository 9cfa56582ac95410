/-
  Proved: for every list of chunks l the program's All of their forms, one behind the other, is l (P8.5); condition: what comes in is of bulk at most 1048576.
-/
import Derived.Test.YtlfmekjkgegclabHu
import Derived.Deep.RegionHeld
import Derived.WalkKit
import Derived.SizedLaws
import Derived.ProofKit
import Derived.OpenShut
import Derived.ShutString
import Derived.ChangeOld
import Derived.Below
import Derived.Lib.SmallJoins
import Derived.Deep.Matrix
import Derived.JoinedCond
import Derived.Deep.SlicePairs
namespace Go.Proofs.Ytlfmekjkgegclab.wireLines
open Go.ChangeShapes Go.WideShapes Go.ChangeAt Go.RowKit Go.Joins
set_option linter.unusedVariables false
theorem own : ownKnob Try.prog.godebug = none := by kernel_rfl
theorem laidOut : laidOutB Try.prog = true := by kernel_rfl
/-- A slice of integers that came in. -/
def IsRow (k : IntKind) (w : World) (a : Option Addr) (len cap : Nat) (zs : List Int) : Prop :=
  (a = none ∧ len = 0 ∧ cap = 0 ∧ zs = []) ∨
  ∃ x, a = some x ∧ len ≤ cap ∧ cap ≤ 1048576 ∧ zs.length = cap ∧ (∀ i, i < zs.length → w.cell? (x.add i) = some (.int k (zs.getD i 0))) ∧ ∀ n ∈ zs, (Lit.int k n).wf = true
/-- A slice of slices of bytes that came in. -/
def IsRows (w : World) (a : Option Addr) (len cap : Nat) : Prop :=
  (a = none ∧ len = 0 ∧ cap = 0) ∨
  ∃ x, a = some x ∧ len ≤ cap ∧ cap ≤ 1048576 ∧ ∀ r, r < cap → ∃ b l c zs, w.cell? (x.add r) = some (.slice b l c) ∧ IsRow .u8 w b l c zs
theorem sized_in {H : Type} {P : Program} {ts : List TypeId} {ds : List (DataW H)} (h : (DataW.weightsEach P ts ds).all (· ≤ reachBytes) = true) {j : Nat} {t : TypeId} {d : DataW H} (ht : ts[j]? = some t) (hd : ds[j]? = some d) : (d.weights P t).all (· ≤ reachBytes) = true :=
  List.all_eq_true.2 fun n hn => List.all_eq_true.1 h n (DataW.weights_mem_each ht hd n hn)
theorem sized_all {H : Type} {P : Program} {e : TypeId} : ∀ {ds : List (DataW H)}, (DataW.weightsAll P e ds).all (· ≤ reachBytes) = true → ∀ d ∈ ds, (d.weights P e).all (· ≤ reachBytes) = true
  | [], _, d, hd => by simp at hd
  | d0 :: r, h, d, hd => by
    simp only [DataW.weightsAll, List.all_append, Bool.and_eq_true] at h
    rcases List.mem_cons.1 hd with rfl | hd
    · exact h.1
    · exact sized_all h.2 d hd
theorem bulk_one {H : Type} (d : DataW H) : 1 ≤ Rows.uptoBulk d := by
  cases d with
  | lit l => cases l <;> simp [Rows.uptoBulk]
  | nil => simp [Rows.uptoBulk]
  | ptr _ => simp [Rows.uptoBulk]
  | slice _ _ => simp [Rows.uptoBulk]
  | agg _ => simp [Rows.uptoBulk]
  | iface _ _ => simp [Rows.uptoBulk]
  | map _ => simp [Rows.uptoBulk]
  | held _ => simp [Rows.uptoBulk]
theorem bulk_len {H : Type} : ∀ l : List (DataW H), l.length ≤ Rows.uptoBulkAll l
  | [] => Nat.zero_le _
  | d :: r => by
    have h1 := bulk_one d
    have h2 := bulk_len r
    simp only [Rows.uptoBulkAll, List.length_cons]
    omega
theorem bulk_at {H : Type} : ∀ (l : List (DataW H)) (j : Nat) (d : DataW H), l[j]? = some d → Rows.uptoBulk d ≤ Rows.uptoBulkAll l
  | [], j, d, h => by simp at h
  | x :: r, 0, d, h => by
    simp only [List.getElem?_cons_zero, Option.some.injEq] at h
    subst h
    simp only [Rows.uptoBulkAll]
    omega
  | x :: r, j + 1, d, h => by
    have := bulk_at r j d (by simpa using h)
    simp only [Rows.uptoBulkAll]
    omega
theorem bulk_le {H : Type} {l : List (DataW H)} (h : Rows.uptoSmall H l = true) : Rows.uptoBulkAll l ≤ 1048576 := of_decide_eq_true h
theorem bulk_pick {H : Type} {l : List (DataW H)} (hk : Rows.uptoSmall H l = true) {j : Nat} {d : DataW H} (h : l[j]? = some d) : Rows.uptoBulk d ≤ 1048576 := Nat.le_trans (bulk_at l j d h) (bulk_le hk)
theorem bulk_slice {H : Type} {l : List (DataW H)} (hk : Rows.uptoSmall H l = true) {j : Nat} {x y : List (DataW H)} (h : l[j]? = some (.slice x y)) : x.length + y.length ≤ 1048576 := by
  have h1 := bulk_at l j _ h
  have h2 := bulk_le hk
  have h3 := bulk_len x
  have h4 := bulk_len y
  simp only [Rows.uptoBulk] at h1
  omega
theorem bulk_in {H : Type} {l : List (DataW H)} (hk : Rows.uptoSmall H l = true) {j : Nat} {x : List (DataW H)} (h : l[j]? = some (.agg x)) : Rows.uptoSmall H x = true := by
  have h1 := bulk_at l j _ h
  have h2 := bulk_le hk
  simp only [Rows.uptoBulk] at h1
  exact decide_eq_true (by omega)
/-- A slice of chunks that came in. -/
def IsChs (w : World) (a : Option Addr) (len cap : Nat) : Prop :=
  (a = none ∧ len = 0 ∧ cap = 0) ∨
  ∃ x, a = some x ∧ len ≤ cap ∧ cap ≤ 1048576 ∧ ∀ i, i < cap → ∃ (t : Int) (b : Option Addr) (l c : Nat) (zs : List Int), w.cell? (x.add (i * 2)) = some (.int .u8 t) ∧ (Lit.int .u8 t).wf = true ∧ w.cell? (x.add (i * 2 + 1)) = some (.slice b l c) ∧ IsRow .u8 w b l c zs

set_option maxRecDepth 20000 in
set_option maxHeartbeats 8000000 in
theorem walk (a0 : Option Addr) (len0 cap0 : Nat) (w : World) (w0 : IsChs w a0 len0 cap0) :
    Calls Try.prog 4 #[.slice a0 len0 cap0] w fun e w' => e = .returned (.bool true) ∧ Below w.heap.size w w' := by
  obtain ⟨tag, ln, F, hc0, hK, htag, hln, hF⟩ := cks_of w a0 len0 cap0 w0
  obtain ⟨L, hL⟩ := pick_lt 0 (n := len0) (P := fun i x => NF (ln i) x) (fun i _ => nf_ex (ln i))
  have hL9 : ∀ i, i < len0 → L i ≤ 9 := fun i hi => nf_nine (hL i hi) (by have := hln i hi; omega)
  have hpb := psf_big hln hL9
  have hb8 := bsf_lt (L := L) htag hF
  obtain ⟨pp, HPP⟩ : ∃ P : Nat → Nat, Hid (psf ln L = P) := ⟨_, rfl⟩
  obtain ⟨gg, HGG⟩ : ∃ P : Nat → Nat → Nat, Hid (bsf tag ln L F = P) := ⟨_, rfl⟩
  have hpp : ∀ i, i ≤ len0 → pp i ≤ 1099530000000 := fun i hi => by
    have h1 := hpb i hi
    rw [HPP.out] at h1
    omega
  have hgg : ∀ i, i ≤ len0 → ∀ q, q < pp i → gg i q < 256 := by rw [← HPP.out, ← HGG.out]; exact hb8
  have hp1 : ∀ i, pp (i + 1) = pp i + (1 + (L i + ln i) + 4) := fun i => by rw [← HPP.out]; rfl
  have hg1 : ∀ i, gg (i + 1) = cat (gg i) (chf (tag i) (F i) (ln i) (L i)) (pp i) := fun i => by rw [← HPP.out, ← HGG.out]; rfl
  have hp0 : pp 0 = 0 := by rw [← HPP.out]; rfl
  have HC0 : Hid (∀ w' : World, Below w.heap.size w w' → Cks w' a0 len0 tag ln F) := fun w' hb => hc0.later hb
  have HAll : Hid (∀ (w' : World) (x : Option Addr) (d : Nat), Bt w' x (pp len0) d (gg len0) → Calls Try.prog 14 #[.slice x (pp len0) d] w' fun e w'' => ∃ x2 d2, e = .returned (.tuple #[.slice x2 len0 d2, .int .i64 (pp len0 : Nat), .int .i64 0]) ∧ Cks w'' x2 len0 tag ln F ∧ Below w'.heap.size w' w'') := fun w' x d hx => by
    obtain ⟨k1, k2, k3⟩ := bsf_all (tag := tag) (F := F) hln hL
    rw [HPP.out, HGG.out] at k1 k2 k3
    refine (wall w' x (pp len0) d len0 0 (gg len0) pp ln L hx (by have := hpp len0 (Nat.le_refl _); omega) k1).mono ?_
    rintro e w'' ⟨x2, q, d2, rfl, h1, _, h3⟩
    obtain ⟨rfl, h2⟩ := h1 rfl
    exact ⟨x2, d2, rfl, h2.congr k2 k3, h3⟩
  have HWr : Hid (∀ (i : Nat) (w' : World) (s : Option Addr) (d : Nat), i < len0 → Bt w' s (ln i) d (F i) → Calls Try.prog 12 #[.agg #[.int .u8 (tag i : Nat), .slice s (ln i) d]] w' fun e w'' => LsP w' w'' e (1 + (L i + ln i) + 4) (chf (tag i) (F i) (ln i) (L i)) 0) := fun i w' s d hi hs => wwrite_ok w' (tag i) (ln i) d (L i) s (F i) (htag i hi) hs (by have := hln i hi; omega) (hL i hi)
  have HO : Hid (Jo w w.heap.size 5 .u8 (.slice none 0 0) (pp 0) (gg 0)) := by rw [hp0]; exact Jo.nil _ _ _ _ _
  have HPb := jhid8 hpp
  have HGb := jhid8 hgg
  have HP1 := jhid8 hp1
  have HG1 := jhid8 hg1
  have HLn := jhid8 hln
  clear hc0 htag hF hL hL9 hpb hb8 hpp hgg hp1 hg1 hp0 HPP HGG hln w0
  go_enter Try.func4, Try.ntmps4
  go_wp2
  go_loopw [3, 4] (fun vl vi wr => ∃ i : Nat, i ≤ len0 ∧ vi = .int .i64 (i : Int) ∧ Jo wr w.heap.size 5 .u8 vl (pp i) (gg i) ∧ Below w.heap.size w wr) (fun _ vi _ => len0 - (intOf vi).toNat)
  case atStart => exact ⟨0, by omega, rfl, HO.out, Below.refl _ _⟩
  case round =>
    clear HO
    obtain ⟨i, hi, rfl, hj, hb⟩ := hrel
    obtain ⟨sl, dl, rfl, _⟩ := hj.form
    have HJ := jhid8 hj
    have HB := jhid8 hb
    by_cases hlt : i < len0
    · obtain ⟨b1, o1, s1, e1, ex1, cp, cq, hba⟩ := (HC0.out wr hb).get hlt
      subst ex1
      have HW1 := jhid8 (HWr.out i wr s1 e1 hlt hba)
      have hln := HLn.out i hlt
      have hp1 := HP1.out i
      have hg1 := HG1.out i
      have hpb := HPb.out (i + 1) hlt
      have HJ1 : Hid (∀ v' (w' : World), Jo w' w.heap.size 5 .u8 v' (pp i + (1 + (L i + ln i) + 4)) (cat (gg i) (chf (tag i) (F i) (ln i) (L i)) (pp i)) → Jo w' w.heap.size 5 .u8 v' (pp (i + 1)) (gg (i + 1))) := fun v' w' h => by rw [hp1, hg1]; exact h
      obtain ⟨p1, Ep1⟩ : ∃ p, Hid (pp (i + 1) = p) := ⟨_, rfl⟩
      obtain ⟨g1, Eg1⟩ : ∃ p : Nat → Nat, Hid (gg (i + 1) = p) := ⟨_, rfl⟩
      obtain ⟨p0, Ep0⟩ : ∃ p, Hid (pp i = p) := ⟨_, rfl⟩
      obtain ⟨g0, Eg0⟩ : ∃ p : Nat → Nat, Hid (gg i = p) := ⟨_, rfl⟩
      obtain ⟨m1, Em1⟩ : ∃ p, Hid (1 + (L i + ln i) + 4 = p) := ⟨_, rfl⟩
      obtain ⟨H, EH⟩ : ∃ P : Nat → Nat, Hid (chf (tag i) (F i) (ln i) (L i) = P) := ⟨_, rfl⟩
      obtain ⟨y, HY⟩ : ∃ y, Hid (tag i = y) := ⟨_, rfl⟩
      obtain ⟨q, HQ⟩ : ∃ q, Hid (ln i = q) := ⟨_, rfl⟩
      have hbd : p0 + m1 ≤ 1099530000000 := by rw [hp1, Em1.out, Ep0.out] at hpb; exact hpb
      rw [Ep0.out, Eg0.out] at hj HJ
      rw [Ep1.out, Eg1.out, Ep0.out, Eg0.out, Em1.out, EH.out] at HJ1
      rw [Em1.out, EH.out, HY.out, HQ.out] at HW1
      rw [HY.out] at cp
      rw [HQ.out] at cq hln
      have z0 : (0 : Int) ≤ (i : Int) := by omega
      have z1 : (i : Int) < (len0 : Int) := by omega
      have z2 : decide ((4194304 : Int) < (q : Int)) = false := decide_eq_false (by omega)
      clear hj hb hba hp1 hg1 hpb HAll HWr HLn HP1 HG1 HGb HPb
      rw [Ep0.out]
      go_wp2_with (first
        | (at_builtin; refine wpList_append_sl rfl _ _ rfl w.heap.size p0 (.slice sl p0 dl) g0 rfl HJ5.out s5 m1 d5 H rfl HK5.out.sl HK5.out.nil (by omega) HB5.out.size ?_; intro v7 w7 hj _ hb; have HJ7 := jhid8 (HJ1.out _ _ hj); have HB7 : Hid (Below w.heap.size w w7) := jhid8 (HB5.out.trans hb); clear hj hb)
        | (go_at_call 12; refine HW1.out.mono ?_; rintro e w5 ⟨s5, d5, rfl, hk, hb⟩; have HB5 : Hid (Below w.heap.size w w5) := jtwo HB.out hb; have HK5 := jhid8 hk; have HJ5 := jhid8 (HJ.out.later hb); clear hk hb))
      refine ⟨⟨i + 1, by omega, by go_num, ?_, HB7.out⟩, by simp [intOf]; omega⟩
      rw [Ep1.out, Eg1.out]
      exact HJ7.out
    · obtain rfl : len0 = i := by omega
      obtain ⟨P, EP⟩ : ∃ p, Hid (pp len0 = p) := ⟨_, rfl⟩
      obtain ⟨G, EG⟩ : ∃ p : Nat → Nat, Hid (gg len0 = p) := ⟨_, rfl⟩
      have hg := HGb.out len0 (Nat.le_refl _)
      rw [EP.out, EG.out] at hg hj HAll
      obtain ⟨s5, d5, e5, hk5⟩ := hj.bt hg
      cases e5
      have HK5 := jhid8 hk5
      clear hj hb hg HWr HLn HP1 HG1 HGb HPb HJ hk5
      rw [EP.out]
      go_wp2_with (go_at_call 14; refine (HAll.out _ _ _ HK5.out).mono ?_; rintro e w6 ⟨x2, d2, rfl, hk, hb⟩; have HB6 : Hid (Below w.heap.size w w6) := jtwo HB.out hb; have HK6 := jhid8 hk; clear hk hb)
      clear HAll HK5 HB
      go_loopw [10] (fun vi wr => ∃ i : Nat, i ≤ len0 ∧ vi = .int .i64 (i : Int) ∧ Cks wr x2 len0 tag ln F ∧ Below w.heap.size w wr) (fun vi _ => len0 - (intOf vi).toNat)
      case atStart => exact ⟨0, by omega, rfl, HK6.out, HB6.out⟩
      case round =>
        clear HK6 HB6 hi hlt
        obtain ⟨i, hi, rfl, hk, hb⟩ := hrel
        have HK := jhid8 hk
        have HB := jhid8 hb
        have hl := HC0.out _ hb
        have HL := jhid8 hl
        by_cases hlt : i < len0
        · obtain ⟨b1, o1, s1, e1, ex1, cp, cq, hba⟩ := hl.get hlt
          obtain ⟨b2, o2, s2, e2, ex2, cu, cv, hbb⟩ := hk.get hlt
          subst ex1
          subst ex2
          obtain ⟨y, HY⟩ : ∃ y, Hid (tag i = y) := ⟨_, rfl⟩
          obtain ⟨q, HQ⟩ : ∃ q, Hid (ln i = q) := ⟨_, rfl⟩
          rw [HY.out] at cp cu
          rw [HQ.out] at cq cv hba hbb
          have HBa := jhid8 hba
          have HBb := jhid8 hbb
          have z0 : (0 : Int) ≤ (i : Int) := by omega
          have z1 : (i : Int) < (len0 : Int) := by omega
          clear hl hk hb hba hbb
          go_wp2
          refine wp_region_held (S := fun w' => w'.cell? ⟨b1, o1 + i * 2, none⟩ = some (.int .u8 (y : Int)) ∧ w'.cell? ⟨b1, o1 + i * 2 + 1, none⟩ = some (.slice s1 q e1) ∧ w'.cell? ⟨b2, o2 + i * 2, none⟩ = some (.int .u8 (y : Int)) ∧ w'.cell? ⟨b2, o2 + i * 2 + 1, none⟩ = some (.slice s2 q e2)) (by kernel_rfl) ?_
          change wpAnyH _ _ _ _ _ _ _ _ (World.drew _)
          obtain ⟨W0, HW0⟩ : ∃ W0, Hid (wr.drew = W0) := ⟨_, rfl⟩
          rw [HW0.out]
          have hbW : Below wr.heap.size wr W0 := by rw [← HW0.out]; exact (Below.refl _ _).drew
          have HB0 : Hid (Below w.heap.size w W0) := jtwo HB.out hbW
          have HL0 := jhid8 (HL.out.later hbW)
          have HK0 := jhid8 (HK.out.later hbW)
          have p0 := cell_aft8 cp hbW
          have q0 := cell_aft8 cq hbW
          have u0 := cell_aft8 cu hbW
          have v0 := cell_aft8 cv hbW
          have HLi : Hid (∀ w' : World, Below w.heap.size w W0 → Calls Try.prog 15 #[.agg #[.int .u8 (y : Int), .slice s1 q e1], .agg #[.int .u8 (y : Int), .slice s2 q e2]] W0 fun e w'' => e = .returned (.bool true) ∧ Below W0.heap.size W0 w'') := fun _ _ => like8 W0 y q e1 e2 s1 s2 _ (HBa.out.later hbW) (HBb.out.later hbW)
          clear hbW
          refine wpAnyH_take (i := 0) (v := ?v0) rfl (by kernel_rfl) (by kernel_rfl) (by kernel_rfl) (fun _ _ _ h => h) (Or.inl ⟨by rfl, ?y0⟩) ⟨p0, q0, u0, v0⟩ ?z0
          case y0 => (intro w hSw; (try dsimp only at hSw); go_simp; try with_reducible rfl)
          try simp only [List.getElem_toArray, List.getElem_cons_zero, Act.put, List.setIfInBounds_toArray, List.set_cons_zero, List.set_cons_succ]
          refine wpAnyH_take (i := 1) (v := ?v1) rfl (by kernel_rfl) (by kernel_rfl) (by kernel_rfl) (fun _ _ _ h => h) (Or.inl ⟨by rfl, ?y1⟩) ⟨p0, q0, u0, v0⟩ ?z1
          case y1 => (intro w hSw; (try dsimp only at hSw); go_simp; try with_reducible rfl)
          try simp only [List.getElem_toArray, List.getElem_cons_succ, List.getElem_cons_zero, Act.put, List.setIfInBounds_toArray, List.set_cons_zero, List.set_cons_succ]
          refine wpAnyH_take (i := 2) (v := ?v2) rfl (by kernel_rfl) (by kernel_rfl) (by kernel_rfl) (fun _ _ _ h => h) (Or.inl ⟨by rfl, ?y2⟩) ⟨p0, q0, u0, v0⟩ ?z2
          case y2 => (intro w hSw; (try dsimp only at hSw); go_simp; try with_reducible rfl)
          try simp only [List.getElem_toArray, List.getElem_cons_succ, List.getElem_cons_zero, Act.put, List.setIfInBounds_toArray, List.set_cons_zero, List.set_cons_succ]
          refine wpAnyH_take (i := 3) (v := ?v3) rfl (by kernel_rfl) (by kernel_rfl) (by kernel_rfl) (fun _ _ _ h => h) (Or.inl ⟨by rfl, ?y3⟩) ⟨p0, q0, u0, v0⟩ ?z3
          case y3 => (intro w hSw; (try dsimp only at hSw); go_simp; try with_reducible rfl)
          try simp only [List.getElem_toArray, List.getElem_cons_succ, List.getElem_cons_zero, Act.put, List.setIfInBounds_toArray, List.set_cons_zero, List.set_cons_succ]
          refine wpAnyH_take (i := 4) (v := ?v4) rfl (by kernel_rfl) (by kernel_rfl) (by kernel_rfl) (fun _ _ _ h => h) (Or.inl ⟨by rfl, ?y4⟩) ⟨p0, q0, u0, v0⟩ ?z4
          case y4 => (intro w hSw; (try dsimp only at hSw); go_simp; try with_reducible rfl)
          try simp only [List.getElem_toArray, List.getElem_cons_succ, List.getElem_cons_zero, Act.put, List.setIfInBounds_toArray, List.set_cons_zero, List.set_cons_succ]
          refine wpAnyH_take (i := 5) (v := ?v5) rfl (by kernel_rfl) (by kernel_rfl) (by kernel_rfl) (fun _ _ _ h => h) (Or.inl ⟨by rfl, ?y5⟩) ⟨p0, q0, u0, v0⟩ ?z5
          case y5 => (intro w hSw; (try dsimp only at hSw); go_simp; try with_reducible rfl)
          try simp only [List.getElem_toArray, List.getElem_cons_succ, List.getElem_cons_zero, Act.put, List.setIfInBounds_toArray, List.set_cons_zero, List.set_cons_succ]
          refine wpAnyH_take (i := 6) (v := ?v6) rfl (by kernel_rfl) (by kernel_rfl) (by kernel_rfl) (fun _ _ _ h => h) (Or.inl ⟨by rfl, ?y6⟩) ⟨p0, q0, u0, v0⟩ ?z6
          case y6 => (intro w hSw; (try dsimp only at hSw); go_simp; try with_reducible rfl)
          try simp only [List.getElem_toArray, List.getElem_cons_succ, List.getElem_cons_zero, Act.put, List.setIfInBounds_toArray, List.set_cons_zero, List.set_cons_succ]
          refine wpAnyH_take (i := 7) (v := ?v7) rfl (by kernel_rfl) (by kernel_rfl) (by kernel_rfl) (fun _ _ _ h => h) (Or.inl ⟨by rfl, ?y7⟩) ⟨p0, q0, u0, v0⟩ ?z7
          case y7 => (intro w hSw; (try dsimp only at hSw); go_simp; try with_reducible rfl)
          try simp only [List.getElem_toArray, List.getElem_cons_succ, List.getElem_cons_zero, Act.put, List.setIfInBounds_toArray, List.set_cons_zero, List.set_cons_succ]
          refine wpAnyH_ready (rs := [8]) (by kernel_rfl) (by simp) ?_
          refine AllReadyH.cons rfl (fun KK hKK => ?_) AllReadyH.nil
          go_simp
          refine (HLi.out W0 HB0.out).mono ?_
          rintro e w9 ⟨rfl, hb9⟩
          have HB9 : Hid (Below w.heap.size w w9) := jtwo HB0.out hb9
          have HL9 := jhid8 (HL0.out.later hb9)
          have HK9 := jhid8 (HK0.out.later hb9)
          have p9 := cell_aft8 p0 hb9
          have q9 := cell_aft8 q0 hb9
          have u9 := cell_aft8 u0 hb9
          have v9 := cell_aft8 v0 hb9
          clear hb9
          refine hKK.out _ _ ⟨p9, q9, u9, v9⟩ (fun _ => ?_)
          clear hKK KK
          try simp only [List.getElem_toArray, List.getElem_cons_succ, List.getElem_cons_zero, Act.put, List.setIfInBounds_toArray, List.set_cons_zero, List.set_cons_succ]
          refine wpAnyH_take (i := 9) (v := ?v9) rfl (by kernel_rfl) (by kernel_rfl) (by kernel_rfl) (fun _ _ _ h => h) (Or.inl ⟨by rfl, ?y9⟩) ⟨p9, q9, u9, v9⟩ ?z9
          case y9 => (intro w hSw; (try dsimp only at hSw); go_simp; try with_reducible rfl)
          try simp only [List.getElem_toArray, List.getElem_cons_succ, List.getElem_cons_zero, Act.put, List.setIfInBounds_toArray, List.set_cons_zero, List.set_cons_succ]
          refine wpAnyH_done (by kernel_rfl) ?_ _
          go_wp2
          exact ⟨⟨i + 1, by omega, by go_num, HK9.out, HB9.out⟩, by simp [intOf]; omega⟩
        · obtain rfl : i = len0 := by omega
          clear hl hk
          go_wp2_with (go_at_call 13; refine (anch8_any _).mono ?_; rintro e w9 ⟨rfl, hb9⟩; have HB9 : Hid (Below w.heap.size w w9) := jtwo HB.out hb9; clear hb9)
          go_ret
          exact ⟨rfl, HB9.out⟩
set_option maxRecDepth 100000 in
set_option maxHeartbeats 2000000 in
theorem lifted (os : Os) (started : os.Started) (H : Type) (enc : TypeId × Value → H) (F : Stop.Interp) :
    ReturnsInHanded {} Try.checked os 4 .any ((Rows.OpenSpec.upto Rows.wireLinesSpec).pre6 enc Try.prog Try.f4 Rows.wireLinesUptoRow.domain false) (((Rows.OpenSpec.upto Rows.wireLinesSpec).at F).post enc Try.prog Try.f4 false true false false) := by
  refine returnsInHanded_of_cond (C := Try.checked) (s := Rows.OpenSpec.upto Rows.wireLinesSpec) (k := Rows.uptoSmall) rfl own started (by kernel_rfl) Try.func4
    (OpenSpec.witness (enc := enc) (C := Try.checked) (s := Rows.OpenSpec.upto Rows.wireLinesSpec) (k := Rows.uptoSmall) rfl false ⟨#[], #[.slice none 0 0], []⟩ 8 (by kernel_rfl) (by kernel_rfl) (by kernel_rfl)
      (x := ([.nil], [], [])) (by kernel_rfl) rfl (by kernel_rfl)) ?_
  intro W base args ds gs before hval0 hW _ hk _
  have hval : ∀ (j : Nat) t v, Try.f4.params[j]? = some t → args[j]? = some v → Value.okWide Try.prog W .any base t v := hval0
  have hW' := hW
  obtain ⟨p, q, hA0, hV, rfl, hfz, hnd⟩ := hW
  have hA : DataW.TrodAll enc Try.prog W 0 (fun _ => true) true Try.f4.params.toList args.toList ds p := hA0
  rw [Try.params4] at hA hval
  obtain ⟨va0, vs0, d0, ds0, p0, q0, hargs, rfl, rfl, h0, tr0⟩ := trodAll_cons hA
  obtain ⟨rfl, rfl, rfl⟩ := trodAll_nil tr0
  obtain rfl : args = #[va0] := by cases args; simp_all
  obtain ⟨rfl, rfl⟩ := trodVars_none hV
  have k0 := h0
  have lt0 : ∀ x ∈ p0, x.block < W.heap.size := by obtain ⟨m, hm⟩ := k0; exact DataW.trod_lt m _ _ _ hm
  obtain ⟨a0, len0, cap0, rfl⟩ := okWide_slice Try.underlying36 (hval 0 36 va0 rfl rfl)
  have w0 : IsChs W a0 len0 cap0 := by
    obtain ⟨fuel, hf⟩ := h0
    rcases Go.Deep.open_slice_pairs Try.underlying36 Try.underlying30 (by kernel_rfl) rfl rfl (by kernel_rfl) (by kernel_rfl) hf with ⟨hcs, _⟩ | ⟨x, l, c, m, n, V0, V1, D0, D1, P0, P1, hcs, _, hl, hm, hmm, hxx, hall⟩
    · simp [Value.cells] at hcs
      obtain ⟨rfl, rfl, rfl⟩ := hcs
      exact .inl ⟨rfl, rfl, rfl⟩
    · simp [Value.cells] at hcs
      obtain ⟨rfl, rfl, rfl⟩ := hcs
      rw [if_pos rfl] at hmm
      subst hmm
      have hd := congrArg Prod.fst hxx
      have hs := bulk_slice hk (j := 0) (congrArg some hd)
      simp only [List.length_map, List.length_range] at hs
      refine .inr ⟨x, rfl, hl, by omega, fun i hi => ?_⟩
      obtain ⟨c0, c1, t0, t1⟩ := hall i hi
      obtain ⟨tg, et, _, wt⟩ := DataW.trod_int Try.underlying5 t0
      simp only [List.cons.injEq, and_true] at et
      rw [et] at c0
      rcases open_ints Try.underlying22 Try.underlying5 (by kernel_rfl) t1 with ⟨hcs, _⟩ | ⟨y, l2, cc2, zs, hcs, _, hl2, hm2, hz2, hyy, hcell, hwz⟩
      · simp only [List.cons.injEq, and_true] at hcs
        rw [hcs] at c1
        exact ⟨tg, none, 0, 0, [], c0, wt, c1, .inl ⟨rfl, rfl, rfl, rfl⟩⟩
      · simp only [List.cons.injEq, and_true] at hcs
        rw [hcs] at c1
        have hd2 : D1 i = _ := congrArg Prod.fst hyy
        have hk2 : Rows.uptoSmall H [D0 i, D1 i] = true := by
          have hb1 := bulk_pick hk (j := 0) (congrArg some hd)
          have hb3 : Rows.uptoBulk (DataW.agg [D0 i, D1 i]) ≤ Rows.uptoBulk (DataW.slice ((List.range len0).map fun i => DataW.agg [D0 i, D1 i]) ((List.range (m - len0)).map fun j => DataW.agg [D0 (len0 + j), D1 (len0 + j)])) := by
            simp only [Rows.uptoBulk]
            by_cases hil : i < len0
            · have := bulk_at ((List.range len0).map fun i => DataW.agg [D0 i, D1 i]) i (DataW.agg [D0 i, D1 i]) (by simp [hil])
              simp only [Rows.uptoBulk] at this
              omega
            · have := bulk_at ((List.range (m - len0)).map fun j => DataW.agg [D0 (len0 + j), D1 (len0 + j)]) (i - len0) (DataW.agg [D0 i, D1 i]) (by simp [show i - len0 < m - len0 by omega, show len0 + (i - len0) = i by omega])
              simp only [Rows.uptoBulk] at this
              omega
          simp only [Rows.uptoBulk] at hb3
          simp only [Rows.uptoBulk] at hb1
          exact decide_eq_true (by omega)
        have hs2 := bulk_slice hk2 (j := 1) (congrArg some hd2)
        simp only [lits, List.length_map, List.length_take, List.length_drop] at hs2
        have hzl : zs.length = cc2 := by simpa using hz2
        exact ⟨tg, some y, l2, cc2, zs, c0, wt, c1, .inr ⟨y, rfl, hl2, by omega, hzl, hcell, hwz⟩⟩
  clear hA0 hval0
  refine (walk a0 len0 cap0 W w0).mono fun e W' ⟨he, bel⟩ => ?_
  subst he
  exact ⟨_, rfl, _, _, _, [], _, [], hW', trodAll_mk1 (shut_bool Try.underlying4 _), (trodAll_cons_mk (Below.trod laidOut (by kernel_rfl) (of_decide_eq_true (by kernel_rfl)) k0 bel lt0) trodAll_mk0), rfl, bel.frame _, fun h => by cases h⟩
theorem proved : Rows.WireLinesUptoSaid :=
  OpenClaim.holds_of_cond 4 Try.f4 rfl rfl rfl rfl rfl rfl rfl ⟨rfl, rfl, rfl, rfl, rfl⟩ rfl rfl rfl rfl rfl (by kernel_rfl) Try.func4 (by kernel_rfl)
    (of_decide_eq_true (by kernel_rfl)) (by unfold Func.isWrapper; first | (rw [if_pos (by decide +kernel)]; kernel_rfl) | (rw [if_neg (by decide +kernel)]; exact ⟨rfl, rfl⟩))
    (fun os started H enc _ F => lifted os started H enc F)
#print axioms proved
end Go.Proofs.Ytlfmekjkgegclab.wireLines
