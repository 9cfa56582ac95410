/-
  Proved: for every number n, every chunk c and all bytes behind, what the program's Num, Write and Text write is read by ReadNum, Read and ReadText as what was written, and its size as the form's (P8.5); condition: what comes in is of bulk at most 1048576.
-/
import Derived.Test.YtlfmekjkgegclaaHt
import Derived.Deep.RegionHeld
import Derived.WalkKit
import Derived.SizedLaws
import Derived.ProofKit
import Derived.OpenShut
import Derived.ShutString
import Derived.ChangeOld
import Derived.Below
import Derived.Lib.SmallJoins
import Derived.Deep.Matrix
import Derived.JoinedCond
namespace Go.Proofs.Ytlfmekjkgegclaa.wireBack
open Go.ChangeShapes Go.WideShapes Go.ChangeAt Go.RowKit Go.Joins
set_option linter.unusedVariables false
theorem own : ownKnob Try.prog.godebug = none := by kernel_rfl
theorem laidOut : laidOutB Try.prog = true := by kernel_rfl
/-- A slice of integers that came in. -/
def IsRow (k : IntKind) (w : World) (a : Option Addr) (len cap : Nat) (zs : List Int) : Prop :=
  (a = none ∧ len = 0 ∧ cap = 0 ∧ zs = []) ∨
  ∃ x, a = some x ∧ len ≤ cap ∧ cap ≤ 1048576 ∧ zs.length = cap ∧ (∀ i, i < zs.length → w.cell? (x.add i) = some (.int k (zs.getD i 0))) ∧ ∀ n ∈ zs, (Lit.int k n).wf = true
/-- A slice of slices of bytes that came in. -/
def IsRows (w : World) (a : Option Addr) (len cap : Nat) : Prop :=
  (a = none ∧ len = 0 ∧ cap = 0) ∨
  ∃ x, a = some x ∧ len ≤ cap ∧ cap ≤ 1048576 ∧ ∀ r, r < cap → ∃ b l c zs, w.cell? (x.add r) = some (.slice b l c) ∧ IsRow .u8 w b l c zs
theorem sized_in {H : Type} {P : Program} {ts : List TypeId} {ds : List (DataW H)} (h : (DataW.weightsEach P ts ds).all (· ≤ reachBytes) = true) {j : Nat} {t : TypeId} {d : DataW H} (ht : ts[j]? = some t) (hd : ds[j]? = some d) : (d.weights P t).all (· ≤ reachBytes) = true :=
  List.all_eq_true.2 fun n hn => List.all_eq_true.1 h n (DataW.weights_mem_each ht hd n hn)
theorem sized_all {H : Type} {P : Program} {e : TypeId} : ∀ {ds : List (DataW H)}, (DataW.weightsAll P e ds).all (· ≤ reachBytes) = true → ∀ d ∈ ds, (d.weights P e).all (· ≤ reachBytes) = true
  | [], _, d, hd => by simp at hd
  | d0 :: r, h, d, hd => by
    simp only [DataW.weightsAll, List.all_append, Bool.and_eq_true] at h
    rcases List.mem_cons.1 hd with rfl | hd
    · exact h.1
    · exact sized_all h.2 d hd
theorem bulk_one {H : Type} (d : DataW H) : 1 ≤ Rows.uptoBulk d := by
  cases d with
  | lit l => cases l <;> simp [Rows.uptoBulk]
  | nil => simp [Rows.uptoBulk]
  | ptr _ => simp [Rows.uptoBulk]
  | slice _ _ => simp [Rows.uptoBulk]
  | agg _ => simp [Rows.uptoBulk]
  | iface _ _ => simp [Rows.uptoBulk]
  | map _ => simp [Rows.uptoBulk]
  | held _ => simp [Rows.uptoBulk]
theorem bulk_len {H : Type} : ∀ l : List (DataW H), l.length ≤ Rows.uptoBulkAll l
  | [] => Nat.zero_le _
  | d :: r => by
    have h1 := bulk_one d
    have h2 := bulk_len r
    simp only [Rows.uptoBulkAll, List.length_cons]
    omega
theorem bulk_at {H : Type} : ∀ (l : List (DataW H)) (j : Nat) (d : DataW H), l[j]? = some d → Rows.uptoBulk d ≤ Rows.uptoBulkAll l
  | [], j, d, h => by simp at h
  | x :: r, 0, d, h => by
    simp only [List.getElem?_cons_zero, Option.some.injEq] at h
    subst h
    simp only [Rows.uptoBulkAll]
    omega
  | x :: r, j + 1, d, h => by
    have := bulk_at r j d (by simpa using h)
    simp only [Rows.uptoBulkAll]
    omega
theorem bulk_le {H : Type} {l : List (DataW H)} (h : Rows.uptoSmall H l = true) : Rows.uptoBulkAll l ≤ 1048576 := of_decide_eq_true h
theorem bulk_pick {H : Type} {l : List (DataW H)} (hk : Rows.uptoSmall H l = true) {j : Nat} {d : DataW H} (h : l[j]? = some d) : Rows.uptoBulk d ≤ 1048576 := Nat.le_trans (bulk_at l j d h) (bulk_le hk)
theorem bulk_slice {H : Type} {l : List (DataW H)} (hk : Rows.uptoSmall H l = true) {j : Nat} {x y : List (DataW H)} (h : l[j]? = some (.slice x y)) : x.length + y.length ≤ 1048576 := by
  have h1 := bulk_at l j _ h
  have h2 := bulk_le hk
  have h3 := bulk_len x
  have h4 := bulk_len y
  simp only [Rows.uptoBulk] at h1
  omega
theorem bulk_in {H : Type} {l : List (DataW H)} (hk : Rows.uptoSmall H l = true) {j : Nat} {x : List (DataW H)} (h : l[j]? = some (.agg x)) : Rows.uptoSmall H x = true := by
  have h1 := bulk_at l j _ h
  have h2 := bulk_le hk
  simp only [Rows.uptoBulk] at h1
  exact decide_eq_true (by omega)
theorem cellsC : Try.prog.cellsOf 46 = 2 := by kernel_rfl

set_option maxRecDepth 20000 in
set_option maxHeartbeats 8000000 in
theorem walk (n0 : Int) (n1 : Int) (a1 : Option Addr) (len1 cap1 : Nat) (z1 : List Int) (a2 : Option Addr) (len2 cap2 : Nat) (z2 : List Int) (w : World) (w0 : (Lit.int .i64 n0).wf = true) (u1 : (Lit.int .u8 n1).wf = true) (w1 : IsRow .u8 w a1 len1 cap1 z1) (w2 : IsRow .u8 w a2 len2 cap2 z2) :
    Calls Try.prog 8 #[.int .i64 n0, .agg #[.int .u8 n1, .slice a1 len1 cap1], .slice a2 len2 cap2] w fun e w' => e = .returned (.bool true) ∧ Below w.heap.size w w' := by
  have hlen1 : len1 ≤ 1048576 := by
    rcases w1 with ⟨_, rfl, _⟩ | ⟨x, _, h1, h2, _⟩ <;> omega
  have hlen2 : len2 ≤ 1048576 := by
    rcases w2 with ⟨_, rfl, _⟩ | ⟨x, _, h1, h2, _⟩ <;> omega
  obtain ⟨fc, hc0, _⟩ := bt_of_row w a1 len1 cap1 z1 (w1.imp id (fun ⟨x, h1, h2, h3, h4⟩ => ⟨x, h1, h2, by omega, h4⟩))
  obtain ⟨fb, hb0, _⟩ := bt_of_row w a2 len2 cap2 z2 (w2.imp id (fun ⟨x, h1, h2, h3, h4⟩ => ⟨x, h1, h2, by omega, h4⟩))
  obtain ⟨tag, rfl, ht⟩ := u8_of_wf8 u1
  obtain ⟨n0a, n0b⟩ := i64_of_wf8 w0
  have HFb : Hid (∀ w' : World, Below w.heap.size w w' → Bt w' a2 len2 cap2 fb) := fun w' hb => hb0.later hb
  have HFc : Hid (∀ w' : World, Below w.heap.size w w' → Bt w' a1 len1 cap1 fc) := fun w' hb => hc0.later hb
  have hpar := (Vc.new w (.int .u8 (tag : Int)) (.slice a1 len1 cap1)).c1
  obtain ⟨m, hm, em1, em2⟩ : ∃ m : Nat, m < 9223372036854775808 ∧ (0 ≤ n0 → n0 = (m : Int)) ∧ (n0 < 0 → -(n0 + 1) = (m : Int)) := by
    by_cases h : 0 ≤ n0
    · exact ⟨n0.toNat, by omega, fun _ => by omega, fun _ => by omega⟩
    · exact ⟨(-(n0 + 1)).toNat, by omega, fun _ => by omega, fun _ => by omega⟩
  obtain ⟨L0, hL0⟩ := nf_ex m
  have hL09 := nf_nine hL0 hm
  obtain ⟨L, hL⟩ := nf_ex len1
  have hL9 := nf_nine hL (by omega)
  have hcb := hc0.sl.1
  have hbb := hb0.sl.1
  obtain ⟨P, HP⟩ : ∃ P, Hid (1 + (L + len1) + 4 = P) := ⟨_, rfl⟩
  obtain ⟨QQ, HQ⟩ : ∃ P, Hid (L + len1 = P) := ⟨_, rfl⟩
  have hP : P ≤ 1048590 := by have := HP.out; omega
  have hQ : QQ ≤ 1048585 := by have := HQ.out; omega
  obtain ⟨H, HH⟩ : ∃ P : Nat → Nat, Hid (chf tag fc len1 L = P) := ⟨_, rfl⟩
  obtain ⟨T, HT⟩ : ∃ P : Nat → Nat, Hid (txf fc len1 L = P) := ⟨_, rfl⟩
  have hH8 : ∀ i, i < P → H i < 256 := by rw [← HP.out, ← HH.out]; exact chf_lt ht hcb
  have hT8 : ∀ i, i < QQ → T i < 256 := by rw [← HQ.out, ← HT.out]; exact txf_lt hcb
  have HC3b : Hid (∀ i, i < L0 + len2 → cat (nby m) fb L0 i < 256) := cat_lt (fun i _ => nby_lt m i) hbb
  have HC7b : Hid (∀ i, i < P + len2 → cat H fb P i < 256) := cat_lt hH8 hbb
  have HC11b : Hid (∀ i, i < QQ + len2 → cat T fb QQ i < 256) := cat_lt hT8 hbb
  have H1 : Hid (∀ w' : World, Calls Try.prog 12 #[.int .i64 (m : Int)] w' fun e w'' => LsP w' w'' e L0 (nby m) 0) := fun w' => wnum_ok w' m L0 hm hL0
  have HRn : Hid (∀ (w' : World) (x : Option Addr) (d : Nat), Bt w' x (L0 + len2) d (cat (nby m) fb L0) → Calls Try.prog 14 #[.slice x (L0 + len2) d] w' fun e w'' => e = .returned (.tuple #[.int .i64 (m : Int), .int .i64 (L0 : Int), .int .i64 0]) ∧ Below w'.heap.size w' w'') := fun w' x d hx => wrn w' x (L0 + len2) d m L0 0 _ hx (by omega) (.inl ⟨rfl, num_back hm hL0 (fun _ _ => rfl)⟩)
  have H5 : Hid (∀ w' : World, Below w.heap.size w w' → Calls Try.prog 21 #[.agg #[.int .u8 (tag : Int), .slice a1 len1 cap1]] w' fun e w'' => LsP w' w'' e P H 0) := fun w' hb => by
    have := wwrite_ok w' tag len1 cap1 L a1 fc ht (hc0.later hb) (by omega) hL
    rw [HP.out, HH.out] at this
    exact this
  obtain ⟨k1, k2, k3⟩ := chunk_back (tag := tag) (m := len2) (f := fc) (g := fb) (show len1 ≤ 4194304 by omega) hL
  rw [HP.out, HH.out] at k1 k2 k3
  obtain ⟨g2, HG2⟩ : ∃ g : Nat → Nat, Hid ((fun j => cat H fb P (1 + (L + j))) = g) := ⟨_, rfl⟩
  have HRd : Hid (∀ (w' : World) (x : Option Addr) (d : Nat), Bt w' x (P + len2) d (cat H fb P) → Calls Try.prog 23 #[.slice x (P + len2) d] w' fun e w'' => CnP w' w'' e tag len1 g2 (P : Int) 0) := fun w' x d hx => by
    have := wrd_ok w' x (P + len2) d len1 L _ hx (by omega) k1
    rw [k2, HG2.out, HP.out] at this
    exact this
  have HLk : Hid (likeC tag tag len1 len1 g2 fc = true) := by
    show _ = _
    unfold likeC sameB
    rw [← HG2.out]
    simp only [decide_true, Bool.true_and, decide_eq_true_eq, true_and]
    exact k3
  have H9 : Hid (∀ w' : World, Below w.heap.size w w' → Calls Try.prog 17 #[.slice a1 len1 cap1] w' fun e w'' => LsP w' w'' e QQ T 0) := fun w' hb => by
    have := wtext_ok w' a1 len1 cap1 L fc (hc0.later hb) (by omega) hL
    rw [HQ.out, HT.out] at this
    exact this
  obtain ⟨k4, k5⟩ := text_back (m := len2) (f := fc) (g := fb) (show len1 ≤ 4194304 by omega) hL
  rw [HQ.out, HT.out] at k4 k5
  obtain ⟨g3, HG3'⟩ : ∃ g : Nat → Nat, Hid ((fun j => cat T fb QQ (L + j)) = g) := ⟨_, rfl⟩
  have HG3 : Hid (∀ i, i < len1 → g3 i = fc i) := fun i hi => by rw [← HG3'.out]; exact k5 i hi
  have HRt : Hid (∀ (w' : World) (x : Option Addr) (d : Nat), Bt w' x (QQ + len2) d (cat T fb QQ) → Calls Try.prog 19 #[.slice x (QQ + len2) d, .int .i64 (len1 : Int)] w' fun e w'' => LnP w' w'' e len1 g3 (QQ : Int) 0) := fun w' x d hx => by
    have := wrt_ok w' x (QQ + len2) d len1 L len1 _ hx (by omega) (by omega) k4 (Nat.le_refl _) (by have := HQ.out; omega)
    rw [HG3'.out, HQ.out] at this
    exact this
  have e0 : decide ((4194304 : Int) < (len1 : Int)) = false := decide_eq_false (by omega)
  clear hc0 hb0 w0 w1 w2 u1 hL0 hL hcb hbb hH8 hT8 k1 k2 k3 k4 k5 HT HH HQ HG3' HG2
  by_cases hneg : n0 < 0
  · have e1 : decide (n0 < 0) = true := decide_eq_true hneg
    have e2 := em2 hneg
    have e3 : IntKind.i64.wrap (n0 + 1) = n0 + 1 := by rw [IntKind.wrap_i64]; omega
    clear em1 em2
    go_enter Try.func8, Try.ntmps8
    go_wp2_with (first
      | (go_at_call 17; have _x := HK8; refine (H9.out _ HB8.out).mono ?_; rintro e w9 ⟨s9, d9, rfl, hk, hb⟩; have HB9 : Hid (Below w.heap.size w w9) := jtwo HB8.out hb; have HK9 := jhid8 hk; have HE9 := jhid8 (HK8.out.later hb); have HD9 := jhid8 (HD8.out.later hb); have HV9 : Hid (Vc w9 w.heap.size (.int .u8 (tag : Int)) (.slice a1 len1 cap1)) := HV8.out.later hb; have p9 := HV9.out.c0; have q9 := HV9.out.c1; clear hk hb)
      | (go_at_call 23; have _x := HK7; refine (HRd.out _ s7 d7 HK7.out).mono ?_; rintro e w8 ⟨s8, d8, rfl, hk, hb⟩; have hb2 := jtwo hb (jlow w8 (.cells #[.int .u8 (tag : Int), .slice s8 len1 d8] 46)); have HB8 : Hid (Below w.heap.size w (w8.alloc (.cells #[.int .u8 (tag : Int), .slice s8 len1 d8] 46))) := jtwo HB7.out hb2; have HK8 := jhid8 (hk.later (jlow w8 (.cells #[.int .u8 (tag : Int), .slice s8 len1 d8] 46))); have HD8 : Hid (Vc (w8.alloc (.cells #[.int .u8 (tag : Int), .slice s8 len1 d8] 46)) w8.heap.size (.int .u8 (tag : Int)) (.slice s8 len1 d8)) := Vc.new _ _ _; have HV8 : Hid (Vc (w8.alloc (.cells #[.int .u8 (tag : Int), .slice s8 len1 d8] 46)) w.heap.size (.int .u8 (tag : Int)) (.slice a1 len1 cap1)) := HV7.out.later hb2; have p8 := HV8.out.c0; have q8 := HV8.out.c1; clear hk hb hb2)
      | (at_builtin; have _x := HJ6; refine wpList_append_sl rfl _ _ rfl w5.heap.size P (.slice s6 P d6) H rfl HJ6.out a2 len2 cap2 fb rfl (HFb.out _ (jtwo HB5.out HC6.out)).sl (HFb.out _ (jtwo HB5.out HC6.out)).nil (by omega) HC6.out.size ?_; intro v7 w7 hj _ hb; have hb2 : Below w5.heap.size w5 w7 := HC6.out.trans hb; obtain ⟨s7, d7, ee, hk⟩ := hj.bt HC7b.out; subst ee; have HB7 : Hid (Below w.heap.size w w7) := jtwo HB5.out hb2; have HK7 := jhid8 hk; have HV7 : Hid (Vc w7 w.heap.size (.int .u8 (tag : Int)) (.slice a1 len1 cap1)) := HV5.out.later hb2; have p7 := HV7.out.c0; have q7 := HV7.out.c1; clear hj hb hb2 hk)
      | (go_at_call 28; have _x := HK5; refine (copy8 _ s5 P d5 H HK5.out (by omega)).mono ?_; rintro e w6 ⟨s6, d6, rfl, hj, hb⟩; have HJ6 := jhid8 hj; have HC6 := jhid8 hb; clear hj hb)
      | (go_at_call 21; refine (H5.out _ HB4.out).mono ?_; rintro e w5 ⟨s5, d5, rfl, hk, hb⟩; have HB5 : Hid (Below w.heap.size w w5) := jtwo HB4.out hb; have HK5 := jhid8 hk; have HV5 : Hid (Vc w5 w.heap.size (.int .u8 (tag : Int)) (.slice a1 len1 cap1)) := HV4.out.later hb; have p5 := HV5.out.c0; have q5 := HV5.out.c1; clear hk hb)
      | (go_at_call 14; have _x := HK3; refine (HRn.out _ s3 d3 HK3.out).mono ?_; rintro e w4 ⟨rfl, hb⟩; have HB4 : Hid (Below w.heap.size w w4) := jtwo HB3.out hb; have HV4 : Hid (Vc w4 w.heap.size (.int .u8 (tag : Int)) (.slice a1 len1 cap1)) := HV3.out.later hb; have p4 := HV4.out.c0; have q4 := HV4.out.c1; clear hb)
      | (at_builtin; have _x := HJ2; refine wpList_append_sl rfl _ _ rfl w1.heap.size L0 (.slice s2 L0 d2) (nby m) rfl HJ2.out a2 len2 cap2 fb rfl (HFb.out _ (jtwo HB1.out HC2.out)).sl (HFb.out _ (jtwo HB1.out HC2.out)).nil (by omega) HC2.out.size ?_; intro v3 w3 hj _ hb; have hb2 : Below w1.heap.size w1 w3 := HC2.out.trans hb; obtain ⟨s3, d3, ee, hk⟩ := hj.bt HC3b.out; subst ee; have HB3 : Hid (Below w.heap.size w w3) := jtwo HB1.out hb2; have HK3 := jhid8 hk; have HV3 : Hid (Vc w3 w.heap.size (.int .u8 (tag : Int)) (.slice a1 len1 cap1)) := HV1.out.later hb2; have p3 := HV3.out.c0; have q3 := HV3.out.c1; clear hj hb hb2 hk)
      | (go_at_call 28; have _x := HK1; refine (copy8 _ s1 L0 d1 (nby m) HK1.out (by omega)).mono ?_; rintro e w2 ⟨s2, d2, rfl, hj, hb⟩; have HJ2 := jhid8 hj; have HC2 := jhid8 hb; clear hj hb)
      | (go_at_call 12; refine (H1.out _).mono ?_; rintro e w1 ⟨s1, d1, rfl, hk, hb⟩; have HB1 : Hid (Below w.heap.size w w1) := jtwo (jlow _ _) hb; have HK1 := jhid8 hk; have HV1 : Hid (Vc w1 w.heap.size (.int .u8 (tag : Int)) (.slice a1 len1 cap1)) := (Vc.new w _ _).later hb; have p1 := HV1.out.c0; have q1 := HV1.out.c1; clear hk hb))
    refine wp_region_held (S := fun w' => w'.cell? ⟨w.heap.size, 1, none⟩ = some (.slice a1 len1 cap1)) (by kernel_rfl) ?_
    change wpAnyH _ _ _ _ _ _ _ _ (World.drew _)
    obtain ⟨W0, HW0⟩ : ∃ W0, Hid (w9.drew = W0) := ⟨_, rfl⟩
    rw [HW0.out]
    have HBW : Hid (Below w9.heap.size w9 W0) := by rw [← HW0.out]; exact (Below.refl _ _).drew
    have HB10 : Hid (Below w.heap.size w W0) := jtwo HB9.out HBW.out
    have q10 := (HV9.out.later HBW.out).c1
    refine wpAnyH_take (i := 0) (v := ?va0) rfl (by kernel_rfl) (by kernel_rfl) (by kernel_rfl) (fun _ _ _ h => h) (Or.inl ⟨by rfl, ?ya0⟩) q10 ?za0
    case ya0 => (intro w hSw; (try dsimp only at hSw); go_simp; try with_reducible rfl)
    try simp only [List.getElem_toArray, List.getElem_cons_zero, Act.put, List.setIfInBounds_toArray, List.set_cons_zero, List.set_cons_succ]
    refine wpAnyH_take (i := 2) (v := ?va2) rfl (by kernel_rfl) (by kernel_rfl) (by kernel_rfl) (fun _ _ _ h => h) (Or.inl ⟨by rfl, ?ya2⟩) q10 ?za2
    case ya2 => (intro w hSw; (try dsimp only at hSw); go_simp; try with_reducible rfl)
    try simp only [List.getElem_toArray, List.getElem_cons_succ, List.getElem_cons_zero, Act.put, List.setIfInBounds_toArray, List.set_cons_zero, List.set_cons_succ]
    refine wpAnyH_take (i := 4) (v := ?va4) rfl (by kernel_rfl) (by kernel_rfl) (by kernel_rfl) (fun _ _ _ h => h) (Or.inl ⟨by rfl, ?ya4⟩) q10 ?za4
    case ya4 => (intro w hSw; (try dsimp only at hSw); go_simp; try with_reducible rfl)
    try simp only [List.getElem_toArray, List.getElem_cons_succ, List.getElem_cons_zero, Act.put, List.setIfInBounds_toArray, List.set_cons_zero, List.set_cons_succ]
    refine wpAnyH_take (i := 5) (v := ?va5) rfl (by kernel_rfl) (by kernel_rfl) (by kernel_rfl) (fun _ _ _ h => h) (Or.inl ⟨by rfl, ?ya5⟩) q10 ?za5
    case ya5 => (intro w hSw; (try dsimp only at hSw); go_simp; try with_reducible rfl)
    try simp only [List.getElem_toArray, List.getElem_cons_succ, List.getElem_cons_zero, Act.put, List.setIfInBounds_toArray, List.set_cons_zero, List.set_cons_succ]
    refine wpAnyH_take (i := 6) (v := ?va6) rfl (by kernel_rfl) (by kernel_rfl) (by kernel_rfl) (fun _ _ _ h => h) (Or.inl ⟨by rfl, ?ya6⟩) q10 ?za6
    case ya6 => (intro w hSw; (try dsimp only at hSw); go_simp; try with_reducible rfl)
    try simp only [List.getElem_toArray, List.getElem_cons_succ, List.getElem_cons_zero, Act.put, List.setIfInBounds_toArray, List.set_cons_zero, List.set_cons_succ]
    refine wpAnyH_ready (rs := [1]) (by kernel_rfl) (by simp) ?_
    refine AllReadyH.cons rfl (fun KK hKK => ?_) AllReadyH.nil
    go_simp
    refine (copy8 _ s9 QQ d9 T (HK9.out.later HBW.out) (by omega)).mono ?_
    rintro e w10 ⟨s10, d10, rfl, hj, hb⟩
    have HJ10 := jhid8 hj
    have HC10 := jhid8 hb
    have q11 := cell_aft8 q10 hb
    clear hj hb
    refine hKK.out _ _ q11 (fun _ => ?_)
    clear hKK KK
    try simp only [List.getElem_toArray, List.getElem_cons_succ, List.getElem_cons_zero, Act.put, List.setIfInBounds_toArray, List.set_cons_zero, List.set_cons_succ]
    refine wpAnyH_ready (rs := [3]) (by kernel_rfl) (by simp) ?_
    refine AllReadyH.cons rfl (fun KK hKK => ?_) AllReadyH.nil
    refine step_append_sl rfl _ _ rfl W0.heap.size QQ (.slice s10 QQ d10) T rfl HJ10.out a2 len2 cap2 fb rfl (HFb.out _ (jtwo HB10.out HC10.out)).sl (HFb.out _ (jtwo HB10.out HC10.out)).nil (by omega) HC10.out.size ?_
    intro v11 w11 hj hb
    have hb2 : Below W0.heap.size W0 w11 := HC10.out.trans hb
    obtain ⟨s11, d11, ee, hk⟩ := hj.bt HC11b.out
    subst ee
    have HK11 := jhid8 hk
    have HB11 : Hid (Below w.heap.size w w11) := jtwo HB10.out hb2
    have HL11 := jhid8 hb2
    have q12 := cell_aft8 q10 hb2
    clear hj hb hb2 hk
    refine hKK.out _ _ q12 (fun _ => ?_)
    clear hKK KK
    try simp only [List.getElem_toArray, List.getElem_cons_succ, List.getElem_cons_zero, Act.put, List.setIfInBounds_toArray, List.set_cons_zero, List.set_cons_succ]
    refine wpAnyH_ready (rs := [7]) (by kernel_rfl) (by simp) ?_
    refine AllReadyH.cons rfl (fun KK hKK => ?_) AllReadyH.nil
    go_simp
    refine (HRt.out _ s11 d11 HK11.out).mono ?_
    rintro e w12 ⟨s12, d12, rfl, hk, hb⟩
    have hb2 := jtwo (jtwo HBW.out HL11.out) hb
    have HB12 : Hid (Below w.heap.size w w12) := jtwo HB9.out hb2
    have HK12 := jhid8 hk
    have HE12 := jhid8 (HE9.out.later hb2)
    have HD12 := jhid8 (HD9.out.later hb2)
    have HV12 := jhid8 (HV9.out.later hb2)
    have q13 := HV12.out.c1
    clear hk hb hb2
    refine hKK.out _ _ q13 (fun _ => ?_)
    clear hKK KK
    try simp only [List.getElem_toArray, List.getElem_cons_succ, List.getElem_cons_zero, Act.put, List.setIfInBounds_toArray, List.set_cons_zero, List.set_cons_succ]
    refine wpAnyH_take (i := 8) (v := ?va8) rfl (by kernel_rfl) (by kernel_rfl) (by kernel_rfl) (fun _ _ _ h => h) (Or.inl ⟨by rfl, ?ya8⟩) q13 ?za8
    case ya8 => (intro w hSw; (try dsimp only at hSw); go_simp; try with_reducible rfl)
    try simp only [List.getElem_toArray, List.getElem_cons_succ, List.getElem_cons_zero, Act.put, List.setIfInBounds_toArray, List.set_cons_zero, List.set_cons_succ]
    refine wpAnyH_take (i := 9) (v := ?va9) rfl (by kernel_rfl) (by kernel_rfl) (by kernel_rfl) (fun _ _ _ h => h) (Or.inl ⟨by rfl, ?ya9⟩) q13 ?za9
    case ya9 => (intro w hSw; (try dsimp only at hSw); go_simp; try with_reducible rfl)
    try simp only [List.getElem_toArray, List.getElem_cons_succ, List.getElem_cons_zero, Act.put, List.setIfInBounds_toArray, List.set_cons_zero, List.set_cons_succ]
    refine wpAnyH_take (i := 10) (v := ?va10) rfl (by kernel_rfl) (by kernel_rfl) (by kernel_rfl) (fun _ _ _ h => h) (Or.inl ⟨by rfl, ?ya10⟩) q13 ?za10
    case ya10 => (intro w hSw; (try dsimp only at hSw); go_simp; try with_reducible rfl)
    try simp only [List.getElem_toArray, List.getElem_cons_succ, List.getElem_cons_zero, Act.put, List.setIfInBounds_toArray, List.set_cons_zero, List.set_cons_succ]
    refine wpAnyH_take (i := 11) (v := ?va11) rfl (by kernel_rfl) (by kernel_rfl) (by kernel_rfl) (fun _ _ _ h => h) (Or.inl ⟨by rfl, ?ya11⟩) q13 ?za11
    case ya11 => (intro w hSw; (try dsimp only at hSw); go_simp; try with_reducible rfl)
    try simp only [List.getElem_toArray, List.getElem_cons_succ, List.getElem_cons_zero, Act.put, List.setIfInBounds_toArray, List.set_cons_zero, List.set_cons_succ]
    refine wpAnyH_take (i := 12) (v := ?va12) rfl (by kernel_rfl) (by kernel_rfl) (by kernel_rfl) (fun _ _ _ h => h) (Or.inl ⟨by rfl, ?ya12⟩) q13 ?za12
    case ya12 => (intro w hSw; (try dsimp only at hSw); go_simp; try with_reducible rfl)
    try simp only [List.getElem_toArray, List.getElem_cons_succ, List.getElem_cons_zero, Act.put, List.setIfInBounds_toArray, List.set_cons_zero, List.set_cons_succ]
    refine wpAnyH_take (i := 13) (v := ?va13) rfl (by kernel_rfl) (by kernel_rfl) (by kernel_rfl) (fun _ _ _ h => h) (Or.inl ⟨by rfl, ?ya13⟩) q13 ?za13
    case ya13 => (intro w hSw; (try dsimp only at hSw); go_simp; try with_reducible rfl)
    try simp only [List.getElem_toArray, List.getElem_cons_succ, List.getElem_cons_zero, Act.put, List.setIfInBounds_toArray, List.set_cons_zero, List.set_cons_succ]
    refine wpAnyH_take (i := 14) (v := ?va14) rfl (by kernel_rfl) (by kernel_rfl) (by kernel_rfl) (fun _ _ _ h => h) (Or.inl ⟨by rfl, ?ya14⟩) q13 ?za14
    case ya14 => (intro w hSw; (try dsimp only at hSw); go_simp; try with_reducible rfl)
    try simp only [List.getElem_toArray, List.getElem_cons_succ, List.getElem_cons_zero, Act.put, List.setIfInBounds_toArray, List.set_cons_zero, List.set_cons_succ]
    refine wpAnyH_done (by kernel_rfl) ?_ _
    go_wp2_with (first
      | (go_at_call 11; refine (anch8_any _).mono ?_; rintro e w13 ⟨rfl, hb⟩; have HB13 : Hid (Below w.heap.size w w13) := jtwo HB12.out hb; have HV13 := jhid8 (HV12.out.later hb); have HD13 := jhid8 (HD12.out.later hb); have HE13 := jhid8 (HE12.out.later hb); have HK13 := jhid8 (HK12.out.later hb); have r0 := HV13.out.c0; have r1 := HV13.out.c1; have t0 := HD13.out.c0; have t1 := HD13.out.c1; clear hb)
      | (go_at_call 25; refine (rlike8 _ tag tag len1 len1 d8 cap1 s8 a1 g2 fc HE13.out.sl (HFc.out _ HB13.out).sl).mono ?_; rw [HLk.out]; rintro e w14 ⟨rfl, hb⟩; have HB14 : Hid (Below w.heap.size w w14) := jtwo HB13.out hb; have HV14 := jhid8 (HV13.out.later hb); have HK14 := jhid8 (HK13.out.later hb); have v1 := HV14.out.c1; clear hb)
      | (go_at_call 16; refine (same8 _ s12 a1 len1 d12 cap1 g3 fc HK14.out (HFc.out _ HB14.out) HG3.out).mono ?_; rintro e w' ⟨rfl, rfl⟩))
    go_ret
    exact ⟨rfl, HB14.out⟩
  · have e2 := em1 (by omega)
    subst e2
    have e1 : decide ((m : Int) < 0) = false := decide_eq_false (by omega)
    clear em1 em2
    go_enter Try.func8, Try.ntmps8
    go_wp2_with (first
      | (go_at_call 17; have _x := HK8; refine (H9.out _ HB8.out).mono ?_; rintro e w9 ⟨s9, d9, rfl, hk, hb⟩; have HB9 : Hid (Below w.heap.size w w9) := jtwo HB8.out hb; have HK9 := jhid8 hk; have HE9 := jhid8 (HK8.out.later hb); have HD9 := jhid8 (HD8.out.later hb); have HV9 : Hid (Vc w9 w.heap.size (.int .u8 (tag : Int)) (.slice a1 len1 cap1)) := HV8.out.later hb; have p9 := HV9.out.c0; have q9 := HV9.out.c1; clear hk hb)
      | (go_at_call 23; have _x := HK7; refine (HRd.out _ s7 d7 HK7.out).mono ?_; rintro e w8 ⟨s8, d8, rfl, hk, hb⟩; have hb2 := jtwo hb (jlow w8 (.cells #[.int .u8 (tag : Int), .slice s8 len1 d8] 46)); have HB8 : Hid (Below w.heap.size w (w8.alloc (.cells #[.int .u8 (tag : Int), .slice s8 len1 d8] 46))) := jtwo HB7.out hb2; have HK8 := jhid8 (hk.later (jlow w8 (.cells #[.int .u8 (tag : Int), .slice s8 len1 d8] 46))); have HD8 : Hid (Vc (w8.alloc (.cells #[.int .u8 (tag : Int), .slice s8 len1 d8] 46)) w8.heap.size (.int .u8 (tag : Int)) (.slice s8 len1 d8)) := Vc.new _ _ _; have HV8 : Hid (Vc (w8.alloc (.cells #[.int .u8 (tag : Int), .slice s8 len1 d8] 46)) w.heap.size (.int .u8 (tag : Int)) (.slice a1 len1 cap1)) := HV7.out.later hb2; have p8 := HV8.out.c0; have q8 := HV8.out.c1; clear hk hb hb2)
      | (at_builtin; have _x := HJ6; refine wpList_append_sl rfl _ _ rfl w5.heap.size P (.slice s6 P d6) H rfl HJ6.out a2 len2 cap2 fb rfl (HFb.out _ (jtwo HB5.out HC6.out)).sl (HFb.out _ (jtwo HB5.out HC6.out)).nil (by omega) HC6.out.size ?_; intro v7 w7 hj _ hb; have hb2 : Below w5.heap.size w5 w7 := HC6.out.trans hb; obtain ⟨s7, d7, ee, hk⟩ := hj.bt HC7b.out; subst ee; have HB7 : Hid (Below w.heap.size w w7) := jtwo HB5.out hb2; have HK7 := jhid8 hk; have HV7 : Hid (Vc w7 w.heap.size (.int .u8 (tag : Int)) (.slice a1 len1 cap1)) := HV5.out.later hb2; have p7 := HV7.out.c0; have q7 := HV7.out.c1; clear hj hb hb2 hk)
      | (go_at_call 28; have _x := HK5; refine (copy8 _ s5 P d5 H HK5.out (by omega)).mono ?_; rintro e w6 ⟨s6, d6, rfl, hj, hb⟩; have HJ6 := jhid8 hj; have HC6 := jhid8 hb; clear hj hb)
      | (go_at_call 21; refine (H5.out _ HB4.out).mono ?_; rintro e w5 ⟨s5, d5, rfl, hk, hb⟩; have HB5 : Hid (Below w.heap.size w w5) := jtwo HB4.out hb; have HK5 := jhid8 hk; have HV5 : Hid (Vc w5 w.heap.size (.int .u8 (tag : Int)) (.slice a1 len1 cap1)) := HV4.out.later hb; have p5 := HV5.out.c0; have q5 := HV5.out.c1; clear hk hb)
      | (go_at_call 14; have _x := HK3; refine (HRn.out _ s3 d3 HK3.out).mono ?_; rintro e w4 ⟨rfl, hb⟩; have HB4 : Hid (Below w.heap.size w w4) := jtwo HB3.out hb; have HV4 : Hid (Vc w4 w.heap.size (.int .u8 (tag : Int)) (.slice a1 len1 cap1)) := HV3.out.later hb; have p4 := HV4.out.c0; have q4 := HV4.out.c1; clear hb)
      | (at_builtin; have _x := HJ2; refine wpList_append_sl rfl _ _ rfl w1.heap.size L0 (.slice s2 L0 d2) (nby m) rfl HJ2.out a2 len2 cap2 fb rfl (HFb.out _ (jtwo HB1.out HC2.out)).sl (HFb.out _ (jtwo HB1.out HC2.out)).nil (by omega) HC2.out.size ?_; intro v3 w3 hj _ hb; have hb2 : Below w1.heap.size w1 w3 := HC2.out.trans hb; obtain ⟨s3, d3, ee, hk⟩ := hj.bt HC3b.out; subst ee; have HB3 : Hid (Below w.heap.size w w3) := jtwo HB1.out hb2; have HK3 := jhid8 hk; have HV3 : Hid (Vc w3 w.heap.size (.int .u8 (tag : Int)) (.slice a1 len1 cap1)) := HV1.out.later hb2; have p3 := HV3.out.c0; have q3 := HV3.out.c1; clear hj hb hb2 hk)
      | (go_at_call 28; have _x := HK1; refine (copy8 _ s1 L0 d1 (nby m) HK1.out (by omega)).mono ?_; rintro e w2 ⟨s2, d2, rfl, hj, hb⟩; have HJ2 := jhid8 hj; have HC2 := jhid8 hb; clear hj hb)
      | (go_at_call 12; refine (H1.out _).mono ?_; rintro e w1 ⟨s1, d1, rfl, hk, hb⟩; have HB1 : Hid (Below w.heap.size w w1) := jtwo (jlow _ _) hb; have HK1 := jhid8 hk; have HV1 : Hid (Vc w1 w.heap.size (.int .u8 (tag : Int)) (.slice a1 len1 cap1)) := (Vc.new w _ _).later hb; have p1 := HV1.out.c0; have q1 := HV1.out.c1; clear hk hb))
    refine wp_region_held (S := fun w' => w'.cell? ⟨w.heap.size, 1, none⟩ = some (.slice a1 len1 cap1)) (by kernel_rfl) ?_
    change wpAnyH _ _ _ _ _ _ _ _ (World.drew _)
    obtain ⟨W0, HW0⟩ : ∃ W0, Hid (w9.drew = W0) := ⟨_, rfl⟩
    rw [HW0.out]
    have HBW : Hid (Below w9.heap.size w9 W0) := by rw [← HW0.out]; exact (Below.refl _ _).drew
    have HB10 : Hid (Below w.heap.size w W0) := jtwo HB9.out HBW.out
    have q10 := (HV9.out.later HBW.out).c1
    refine wpAnyH_take (i := 0) (v := ?vb0) rfl (by kernel_rfl) (by kernel_rfl) (by kernel_rfl) (fun _ _ _ h => h) (Or.inl ⟨by rfl, ?yb0⟩) q10 ?zb0
    case yb0 => (intro w hSw; (try dsimp only at hSw); go_simp; try with_reducible rfl)
    try simp only [List.getElem_toArray, List.getElem_cons_zero, Act.put, List.setIfInBounds_toArray, List.set_cons_zero, List.set_cons_succ]
    refine wpAnyH_take (i := 2) (v := ?vb2) rfl (by kernel_rfl) (by kernel_rfl) (by kernel_rfl) (fun _ _ _ h => h) (Or.inl ⟨by rfl, ?yb2⟩) q10 ?zb2
    case yb2 => (intro w hSw; (try dsimp only at hSw); go_simp; try with_reducible rfl)
    try simp only [List.getElem_toArray, List.getElem_cons_succ, List.getElem_cons_zero, Act.put, List.setIfInBounds_toArray, List.set_cons_zero, List.set_cons_succ]
    refine wpAnyH_take (i := 4) (v := ?vb4) rfl (by kernel_rfl) (by kernel_rfl) (by kernel_rfl) (fun _ _ _ h => h) (Or.inl ⟨by rfl, ?yb4⟩) q10 ?zb4
    case yb4 => (intro w hSw; (try dsimp only at hSw); go_simp; try with_reducible rfl)
    try simp only [List.getElem_toArray, List.getElem_cons_succ, List.getElem_cons_zero, Act.put, List.setIfInBounds_toArray, List.set_cons_zero, List.set_cons_succ]
    refine wpAnyH_take (i := 5) (v := ?vb5) rfl (by kernel_rfl) (by kernel_rfl) (by kernel_rfl) (fun _ _ _ h => h) (Or.inl ⟨by rfl, ?yb5⟩) q10 ?zb5
    case yb5 => (intro w hSw; (try dsimp only at hSw); go_simp; try with_reducible rfl)
    try simp only [List.getElem_toArray, List.getElem_cons_succ, List.getElem_cons_zero, Act.put, List.setIfInBounds_toArray, List.set_cons_zero, List.set_cons_succ]
    refine wpAnyH_take (i := 6) (v := ?vb6) rfl (by kernel_rfl) (by kernel_rfl) (by kernel_rfl) (fun _ _ _ h => h) (Or.inl ⟨by rfl, ?yb6⟩) q10 ?zb6
    case yb6 => (intro w hSw; (try dsimp only at hSw); go_simp; try with_reducible rfl)
    try simp only [List.getElem_toArray, List.getElem_cons_succ, List.getElem_cons_zero, Act.put, List.setIfInBounds_toArray, List.set_cons_zero, List.set_cons_succ]
    refine wpAnyH_ready (rs := [1]) (by kernel_rfl) (by simp) ?_
    refine AllReadyH.cons rfl (fun KK hKK => ?_) AllReadyH.nil
    go_simp
    refine (copy8 _ s9 QQ d9 T (HK9.out.later HBW.out) (by omega)).mono ?_
    rintro e w10 ⟨s10, d10, rfl, hj, hb⟩
    have HJ10 := jhid8 hj
    have HC10 := jhid8 hb
    have q11 := cell_aft8 q10 hb
    clear hj hb
    refine hKK.out _ _ q11 (fun _ => ?_)
    clear hKK KK
    try simp only [List.getElem_toArray, List.getElem_cons_succ, List.getElem_cons_zero, Act.put, List.setIfInBounds_toArray, List.set_cons_zero, List.set_cons_succ]
    refine wpAnyH_ready (rs := [3]) (by kernel_rfl) (by simp) ?_
    refine AllReadyH.cons rfl (fun KK hKK => ?_) AllReadyH.nil
    refine step_append_sl rfl _ _ rfl W0.heap.size QQ (.slice s10 QQ d10) T rfl HJ10.out a2 len2 cap2 fb rfl (HFb.out _ (jtwo HB10.out HC10.out)).sl (HFb.out _ (jtwo HB10.out HC10.out)).nil (by omega) HC10.out.size ?_
    intro v11 w11 hj hb
    have hb2 : Below W0.heap.size W0 w11 := HC10.out.trans hb
    obtain ⟨s11, d11, ee, hk⟩ := hj.bt HC11b.out
    subst ee
    have HK11 := jhid8 hk
    have HB11 : Hid (Below w.heap.size w w11) := jtwo HB10.out hb2
    have HL11 := jhid8 hb2
    have q12 := cell_aft8 q10 hb2
    clear hj hb hb2 hk
    refine hKK.out _ _ q12 (fun _ => ?_)
    clear hKK KK
    try simp only [List.getElem_toArray, List.getElem_cons_succ, List.getElem_cons_zero, Act.put, List.setIfInBounds_toArray, List.set_cons_zero, List.set_cons_succ]
    refine wpAnyH_ready (rs := [7]) (by kernel_rfl) (by simp) ?_
    refine AllReadyH.cons rfl (fun KK hKK => ?_) AllReadyH.nil
    go_simp
    refine (HRt.out _ s11 d11 HK11.out).mono ?_
    rintro e w12 ⟨s12, d12, rfl, hk, hb⟩
    have hb2 := jtwo (jtwo HBW.out HL11.out) hb
    have HB12 : Hid (Below w.heap.size w w12) := jtwo HB9.out hb2
    have HK12 := jhid8 hk
    have HE12 := jhid8 (HE9.out.later hb2)
    have HD12 := jhid8 (HD9.out.later hb2)
    have HV12 := jhid8 (HV9.out.later hb2)
    have q13 := HV12.out.c1
    clear hk hb hb2
    refine hKK.out _ _ q13 (fun _ => ?_)
    clear hKK KK
    try simp only [List.getElem_toArray, List.getElem_cons_succ, List.getElem_cons_zero, Act.put, List.setIfInBounds_toArray, List.set_cons_zero, List.set_cons_succ]
    refine wpAnyH_take (i := 8) (v := ?vb8) rfl (by kernel_rfl) (by kernel_rfl) (by kernel_rfl) (fun _ _ _ h => h) (Or.inl ⟨by rfl, ?yb8⟩) q13 ?zb8
    case yb8 => (intro w hSw; (try dsimp only at hSw); go_simp; try with_reducible rfl)
    try simp only [List.getElem_toArray, List.getElem_cons_succ, List.getElem_cons_zero, Act.put, List.setIfInBounds_toArray, List.set_cons_zero, List.set_cons_succ]
    refine wpAnyH_take (i := 9) (v := ?vb9) rfl (by kernel_rfl) (by kernel_rfl) (by kernel_rfl) (fun _ _ _ h => h) (Or.inl ⟨by rfl, ?yb9⟩) q13 ?zb9
    case yb9 => (intro w hSw; (try dsimp only at hSw); go_simp; try with_reducible rfl)
    try simp only [List.getElem_toArray, List.getElem_cons_succ, List.getElem_cons_zero, Act.put, List.setIfInBounds_toArray, List.set_cons_zero, List.set_cons_succ]
    refine wpAnyH_take (i := 10) (v := ?vb10) rfl (by kernel_rfl) (by kernel_rfl) (by kernel_rfl) (fun _ _ _ h => h) (Or.inl ⟨by rfl, ?yb10⟩) q13 ?zb10
    case yb10 => (intro w hSw; (try dsimp only at hSw); go_simp; try with_reducible rfl)
    try simp only [List.getElem_toArray, List.getElem_cons_succ, List.getElem_cons_zero, Act.put, List.setIfInBounds_toArray, List.set_cons_zero, List.set_cons_succ]
    refine wpAnyH_take (i := 11) (v := ?vb11) rfl (by kernel_rfl) (by kernel_rfl) (by kernel_rfl) (fun _ _ _ h => h) (Or.inl ⟨by rfl, ?yb11⟩) q13 ?zb11
    case yb11 => (intro w hSw; (try dsimp only at hSw); go_simp; try with_reducible rfl)
    try simp only [List.getElem_toArray, List.getElem_cons_succ, List.getElem_cons_zero, Act.put, List.setIfInBounds_toArray, List.set_cons_zero, List.set_cons_succ]
    refine wpAnyH_take (i := 12) (v := ?vb12) rfl (by kernel_rfl) (by kernel_rfl) (by kernel_rfl) (fun _ _ _ h => h) (Or.inl ⟨by rfl, ?yb12⟩) q13 ?zb12
    case yb12 => (intro w hSw; (try dsimp only at hSw); go_simp; try with_reducible rfl)
    try simp only [List.getElem_toArray, List.getElem_cons_succ, List.getElem_cons_zero, Act.put, List.setIfInBounds_toArray, List.set_cons_zero, List.set_cons_succ]
    refine wpAnyH_take (i := 13) (v := ?vb13) rfl (by kernel_rfl) (by kernel_rfl) (by kernel_rfl) (fun _ _ _ h => h) (Or.inl ⟨by rfl, ?yb13⟩) q13 ?zb13
    case yb13 => (intro w hSw; (try dsimp only at hSw); go_simp; try with_reducible rfl)
    try simp only [List.getElem_toArray, List.getElem_cons_succ, List.getElem_cons_zero, Act.put, List.setIfInBounds_toArray, List.set_cons_zero, List.set_cons_succ]
    refine wpAnyH_take (i := 14) (v := ?vb14) rfl (by kernel_rfl) (by kernel_rfl) (by kernel_rfl) (fun _ _ _ h => h) (Or.inl ⟨by rfl, ?yb14⟩) q13 ?zb14
    case yb14 => (intro w hSw; (try dsimp only at hSw); go_simp; try with_reducible rfl)
    try simp only [List.getElem_toArray, List.getElem_cons_succ, List.getElem_cons_zero, Act.put, List.setIfInBounds_toArray, List.set_cons_zero, List.set_cons_succ]
    refine wpAnyH_done (by kernel_rfl) ?_ _
    go_wp2_with (first
      | (go_at_call 11; refine (anch8_any _).mono ?_; rintro e w13 ⟨rfl, hb⟩; have HB13 : Hid (Below w.heap.size w w13) := jtwo HB12.out hb; have HV13 := jhid8 (HV12.out.later hb); have HD13 := jhid8 (HD12.out.later hb); have HE13 := jhid8 (HE12.out.later hb); have HK13 := jhid8 (HK12.out.later hb); have r0 := HV13.out.c0; have r1 := HV13.out.c1; have t0 := HD13.out.c0; have t1 := HD13.out.c1; clear hb)
      | (go_at_call 25; refine (rlike8 _ tag tag len1 len1 d8 cap1 s8 a1 g2 fc HE13.out.sl (HFc.out _ HB13.out).sl).mono ?_; rw [HLk.out]; rintro e w14 ⟨rfl, hb⟩; have HB14 : Hid (Below w.heap.size w w14) := jtwo HB13.out hb; have HV14 := jhid8 (HV13.out.later hb); have HK14 := jhid8 (HK13.out.later hb); have v1 := HV14.out.c1; clear hb)
      | (go_at_call 16; refine (same8 _ s12 a1 len1 d12 cap1 g3 fc HK14.out (HFc.out _ HB14.out) HG3.out).mono ?_; rintro e w' ⟨rfl, rfl⟩))
    go_ret
    exact ⟨rfl, HB14.out⟩
set_option maxRecDepth 100000 in
set_option maxHeartbeats 2000000 in
theorem lifted (os : Os) (started : os.Started) (H : Type) (enc : TypeId × Value → H) (F : Stop.Interp) :
    ReturnsInHanded {} Try.checked os 8 .any ((Rows.OpenSpec.upto Rows.wireBackSpec).pre6 enc Try.prog Try.f8 Rows.wireBackUptoRow.domain false) (((Rows.OpenSpec.upto Rows.wireBackSpec).at F).post enc Try.prog Try.f8 false true false false) := by
  refine returnsInHanded_of_cond (C := Try.checked) (s := Rows.OpenSpec.upto Rows.wireBackSpec) (k := Rows.uptoSmall) rfl own started (by kernel_rfl) Try.func8
    (OpenSpec.witness (enc := enc) (C := Try.checked) (s := Rows.OpenSpec.upto Rows.wireBackSpec) (k := Rows.uptoSmall) rfl false ⟨#[], #[.int .i64 0, .agg #[.int .u8 0, .slice none 0 0], .slice none 0 0], []⟩ 8 (by kernel_rfl) (by kernel_rfl) (by kernel_rfl)
      (x := ([.lit (.int .i64 0), .agg [.lit (.int .u8 0), .nil], .nil], [], [])) (by kernel_rfl) rfl (by kernel_rfl)) ?_
  intro W base args ds gs before hval0 hW _ hk _
  have hval : ∀ (j : Nat) t v, Try.f8.params[j]? = some t → args[j]? = some v → Value.okWide Try.prog W .any base t v := hval0
  have hW' := hW
  obtain ⟨p, q, hA0, hV, rfl, hfz, hnd⟩ := hW
  have hA : DataW.TrodAll enc Try.prog W 0 (fun _ => true) true Try.f8.params.toList args.toList ds p := hA0
  rw [Try.params8] at hA hval
  obtain ⟨va0, vs0, d0, ds0, p0, q0, hargs, rfl, rfl, h0, tr0⟩ := trodAll_cons hA
  obtain ⟨va1, vs1, d1, ds1, p1, q1, rfl, rfl, rfl, h1, tr1⟩ := trodAll_cons tr0
  obtain ⟨va2, vs2, d2, ds2, p2, q2, rfl, rfl, rfl, h2, tr2⟩ := trodAll_cons tr1
  obtain ⟨rfl, rfl, rfl⟩ := trodAll_nil tr2
  obtain rfl : args = #[va0, va1, va2] := by cases args; simp_all
  obtain ⟨rfl, rfl⟩ := trodVars_none hV
  have k0 := h0
  have lt0 : ∀ x ∈ p0, x.block < W.heap.size := by obtain ⟨m, hm⟩ := k0; exact DataW.trod_lt m _ _ _ hm
  obtain ⟨n0, rfl, w0⟩ : ∃ n, va0 = .int .i64 n ∧ (Lit.int .i64 n).wf = true := by
    obtain ⟨n, rfl, _, _, hw⟩ := open_int Try.underlying3 (hval 0 3 va0 rfl rfl) h0
    exact ⟨n, rfl, hw⟩
  have k1 := h1
  have lt1 : ∀ x ∈ p1, x.block < W.heap.size := by obtain ⟨m, hm⟩ := k1; exact DataW.trod_lt m _ _ _ hm
  obtain ⟨f1, s1, y1, e1, m1, rfl, rfl, rfl, hf1, hs1⟩ := open_agg2 Try.underlying46 (by kernel_rfl) cellsC (hval 1 46 va1 rfl rfl) h1
  obtain ⟨n1, er1, rfl, u1⟩ := DataW.trod_int Try.underlying5 hf1
  simp only [List.cons.injEq, and_true] at er1
  subst er1
  obtain ⟨a1, len1, cap1, rfl⟩ : ∃ a l c, s1 = .slice a l c := by
    rcases open_ints Try.underlying22 Try.underlying5 (by kernel_rfl) hs1 with ⟨hcs, _⟩ | ⟨x, l, c, zs, hcs, _⟩
    · simp only [List.cons.injEq, and_true] at hcs; exact ⟨_, _, _, hcs⟩
    · simp only [List.cons.injEq, and_true] at hcs; exact ⟨_, _, _, hcs⟩
  obtain ⟨z1, w1⟩ : ∃ zs, IsRow .u8 W a1 len1 cap1 zs := by
    obtain ⟨fuel, hf⟩ := (⟨m1, hs1⟩ : ∃ fuel, DataW.trod enc Try.prog W 0 (fun _ => true) true fuel 22 [.slice a1 len1 cap1] = some e1)
    rcases open_ints Try.underlying22 Try.underlying5 (by kernel_rfl) hf with ⟨hcs, _⟩ | ⟨x, l, c, zs, hcs, _, hl, hm, hz, hxx, hcell, hwz⟩
    · simp at hcs
      obtain ⟨rfl, rfl, rfl⟩ := hcs
      exact ⟨[], .inl ⟨rfl, rfl, rfl, rfl⟩⟩
    · simp at hcs
      obtain ⟨rfl, rfl, rfl⟩ := hcs
      have hd := congrArg Prod.fst hxx
      have hs := bulk_slice (bulk_in hk (j := 1) rfl) (j := 1) (congrArg some hd)
      have hzl : zs.length = cap1 := by simpa using hz
      simp only [lits, List.length_map, List.length_take, List.length_drop] at hs
      exact ⟨zs, .inr ⟨_, rfl, hl, by omega, by simpa using hz, hcell, hwz⟩⟩
  have k2 := h2
  have lt2 : ∀ x ∈ p2, x.block < W.heap.size := by obtain ⟨m, hm⟩ := k2; exact DataW.trod_lt m _ _ _ hm
  obtain ⟨a2, len2, cap2, rfl⟩ := okWide_slice Try.underlying22 (hval 2 22 va2 rfl rfl)
  obtain ⟨z2, w2⟩ : ∃ zs, IsRow .u8 W a2 len2 cap2 zs := by
    obtain ⟨fuel, hf⟩ := h2
    rcases open_ints Try.underlying22 Try.underlying5 (by kernel_rfl) hf with ⟨hcs, _⟩ | ⟨x, l, c, zs, hcs, _, hl, hm, hz, hxx, hcell, hwz⟩
    · simp [Value.cells] at hcs
      obtain ⟨rfl, rfl, rfl⟩ := hcs
      exact ⟨[], .inl ⟨rfl, rfl, rfl, rfl⟩⟩
    · simp [Value.cells] at hcs
      obtain ⟨rfl, rfl, rfl⟩ := hcs
      have hd := congrArg Prod.fst hxx
      have hs := bulk_slice hk (j := 2) (congrArg some hd)
      have hzl : zs.length = cap2 := by simpa using hz
      simp only [lits, List.length_map, List.length_take, List.length_drop] at hs
      exact ⟨zs, .inr ⟨_, rfl, hl, by omega, by simpa using hz, hcell, hwz⟩⟩
  clear hA0 hval0
  refine (walk n0 n1 a1 len1 cap1 z1 a2 len2 cap2 z2 W w0 u1 w1 w2).mono fun e W' ⟨he, bel⟩ => ?_
  subst he
  exact ⟨_, rfl, _, _, _, [], _, [], hW', trodAll_mk1 (shut_bool Try.underlying4 _), (trodAll_cons_mk (Below.trod laidOut (by kernel_rfl) (of_decide_eq_true (by kernel_rfl)) k0 bel lt0) (trodAll_cons_mk (Below.trod laidOut (by kernel_rfl) (of_decide_eq_true (by kernel_rfl)) k1 bel lt1) (trodAll_cons_mk (Below.trod laidOut (by kernel_rfl) (of_decide_eq_true (by kernel_rfl)) k2 bel lt2) trodAll_mk0))), rfl, bel.frame _, fun h => by cases h⟩
theorem proved : Rows.WireBackUptoSaid :=
  OpenClaim.holds_of_cond 8 Try.f8 rfl rfl rfl rfl rfl rfl rfl ⟨rfl, rfl, rfl, rfl, rfl⟩ rfl rfl rfl rfl rfl (by kernel_rfl) Try.func8 (by kernel_rfl)
    (of_decide_eq_true (by kernel_rfl)) (by unfold Func.isWrapper; first | (rw [if_pos (by decide +kernel)]; kernel_rfl) | (rw [if_neg (by decide +kernel)]; exact ⟨rfl, rfl⟩))
    (fun os started H enc _ F => lifted os started H enc F)
#print axioms proved
end Go.Proofs.Ytlfmekjkgegclaa.wireBack
