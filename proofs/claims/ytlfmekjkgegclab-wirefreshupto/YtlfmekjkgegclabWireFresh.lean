/-
  Proved: for all bytes b and every tag the program's Text, Write, ReadText, Read and All leave what is handed in, and what they answer is new memory (the rules); condition: what comes in is of bulk at most 1048576.
-/
import Derived.Test.YtlfmekjkgegclabHx
import Derived.WalkKit
import Derived.SizedLaws
import Derived.ProofKit
import Derived.OpenShut
import Derived.ShutString
import Derived.ChangeOld
import Derived.Below
import Derived.Lib.SmallJoins
import Derived.Deep.Matrix
import Derived.JoinedCond
namespace Go.Proofs.Ytlfmekjkgegclab.wireFresh
open Go.ChangeShapes Go.WideShapes Go.ChangeAt Go.RowKit Go.Joins
set_option linter.unusedVariables false
theorem own : ownKnob Try.prog.godebug = none := by kernel_rfl
theorem laidOut : laidOutB Try.prog = true := by kernel_rfl
/-- A slice of integers that came in. -/
def IsRow (k : IntKind) (w : World) (a : Option Addr) (len cap : Nat) (zs : List Int) : Prop :=
  (a = none ∧ len = 0 ∧ cap = 0 ∧ zs = []) ∨
  ∃ x, a = some x ∧ len ≤ cap ∧ cap ≤ 1048576 ∧ zs.length = cap ∧ (∀ i, i < zs.length → w.cell? (x.add i) = some (.int k (zs.getD i 0))) ∧ ∀ n ∈ zs, (Lit.int k n).wf = true
/-- A slice of slices of bytes that came in. -/
def IsRows (w : World) (a : Option Addr) (len cap : Nat) : Prop :=
  (a = none ∧ len = 0 ∧ cap = 0) ∨
  ∃ x, a = some x ∧ len ≤ cap ∧ cap ≤ 1048576 ∧ ∀ r, r < cap → ∃ b l c zs, w.cell? (x.add r) = some (.slice b l c) ∧ IsRow .u8 w b l c zs
theorem sized_in {H : Type} {P : Program} {ts : List TypeId} {ds : List (DataW H)} (h : (DataW.weightsEach P ts ds).all (· ≤ reachBytes) = true) {j : Nat} {t : TypeId} {d : DataW H} (ht : ts[j]? = some t) (hd : ds[j]? = some d) : (d.weights P t).all (· ≤ reachBytes) = true :=
  List.all_eq_true.2 fun n hn => List.all_eq_true.1 h n (DataW.weights_mem_each ht hd n hn)
theorem sized_all {H : Type} {P : Program} {e : TypeId} : ∀ {ds : List (DataW H)}, (DataW.weightsAll P e ds).all (· ≤ reachBytes) = true → ∀ d ∈ ds, (d.weights P e).all (· ≤ reachBytes) = true
  | [], _, d, hd => by simp at hd
  | d0 :: r, h, d, hd => by
    simp only [DataW.weightsAll, List.all_append, Bool.and_eq_true] at h
    rcases List.mem_cons.1 hd with rfl | hd
    · exact h.1
    · exact sized_all h.2 d hd
theorem bulk_one {H : Type} (d : DataW H) : 1 ≤ Rows.uptoBulk d := by
  cases d with
  | lit l => cases l <;> simp [Rows.uptoBulk]
  | nil => simp [Rows.uptoBulk]
  | ptr _ => simp [Rows.uptoBulk]
  | slice _ _ => simp [Rows.uptoBulk]
  | agg _ => simp [Rows.uptoBulk]
  | iface _ _ => simp [Rows.uptoBulk]
  | map _ => simp [Rows.uptoBulk]
  | held _ => simp [Rows.uptoBulk]
theorem bulk_len {H : Type} : ∀ l : List (DataW H), l.length ≤ Rows.uptoBulkAll l
  | [] => Nat.zero_le _
  | d :: r => by
    have h1 := bulk_one d
    have h2 := bulk_len r
    simp only [Rows.uptoBulkAll, List.length_cons]
    omega
theorem bulk_at {H : Type} : ∀ (l : List (DataW H)) (j : Nat) (d : DataW H), l[j]? = some d → Rows.uptoBulk d ≤ Rows.uptoBulkAll l
  | [], j, d, h => by simp at h
  | x :: r, 0, d, h => by
    simp only [List.getElem?_cons_zero, Option.some.injEq] at h
    subst h
    simp only [Rows.uptoBulkAll]
    omega
  | x :: r, j + 1, d, h => by
    have := bulk_at r j d (by simpa using h)
    simp only [Rows.uptoBulkAll]
    omega
theorem bulk_le {H : Type} {l : List (DataW H)} (h : Rows.uptoSmall H l = true) : Rows.uptoBulkAll l ≤ 1048576 := of_decide_eq_true h
theorem bulk_pick {H : Type} {l : List (DataW H)} (hk : Rows.uptoSmall H l = true) {j : Nat} {d : DataW H} (h : l[j]? = some d) : Rows.uptoBulk d ≤ 1048576 := Nat.le_trans (bulk_at l j d h) (bulk_le hk)
theorem bulk_slice {H : Type} {l : List (DataW H)} (hk : Rows.uptoSmall H l = true) {j : Nat} {x y : List (DataW H)} (h : l[j]? = some (.slice x y)) : x.length + y.length ≤ 1048576 := by
  have h1 := bulk_at l j _ h
  have h2 := bulk_le hk
  have h3 := bulk_len x
  have h4 := bulk_len y
  simp only [Rows.uptoBulk] at h1
  omega
theorem bulk_in {H : Type} {l : List (DataW H)} (hk : Rows.uptoSmall H l = true) {j : Nat} {x : List (DataW H)} (h : l[j]? = some (.agg x)) : Rows.uptoSmall H x = true := by
  have h1 := bulk_at l j _ h
  have h2 := bulk_le hk
  simp only [Rows.uptoBulk] at h1
  exact decide_eq_true (by omega)
theorem bt_own8 {w : World} {B n d : Nat} {s : Option Addr} {f : Nat → Nat} (h : Jo w B 5 .u8 (.slice s n d) n f) (hf : ∀ i, i < n → f i < 256) : Bt w s n d f := by
  obtain ⟨s', d', e, hb⟩ := h.bt hf
  cases e
  exact hb
theorem old8 {w : World} {n d : Nat} {s : Option Addr} {f : Nat → Nat} (h : Bt w s n d f) : ∀ x, s = some x → n ≠ 0 → x.block < w.heap.size := fun x hx hn => by
  obtain ⟨b, o, e, hc⟩ := h.sl.2 0 (by omega)
  rw [hx] at e
  cases e
  exact jcell_lt hc
theorem new8 {w w1 : World} {n d : Nat} {s : Option Addr} {f : Nat → Nat} (h : Bt w1 s n d f) (hf : Frs8 w1 w.heap.size s d) : ∀ x, s = some x → n ≠ 0 → Nw w w1 x.block := fun x hx hn => by
  obtain ⟨g, o, e, h1, _⟩ := hf x hx
  exact ⟨by rw [e]; exact h1, old8 h x hx hn⟩
theorem nw_alloc8 {w w1 : World} {o : Obj} {g : Nat} (h : Nw (w.alloc o) w1 g) : w.heap.size < g := by
  have := h.1
  simp only [size_alloc8] at this
  omega

set_option maxRecDepth 20000 in
set_option maxHeartbeats 8000000 in
theorem walk (a0 : Option Addr) (len0 cap0 : Nat) (z0 : List Int) (n1 : Int) (w : World) (w0 : IsRow .u8 w a0 len0 cap0 z0) (w1 : (Lit.int .u8 n1).wf = true) :
    Calls Try.prog 7 #[.slice a0 len0 cap0, .int .u8 n1] w fun e w' => e = .returned (.bool true) ∧ Below w.heap.size w w' := by
  have hlen : len0 ≤ 1048576 := by
    rcases w0 with ⟨_, rfl, _⟩ | ⟨x, _, h1, h2, _⟩ <;> omega
  obtain ⟨f, hb0, _⟩ := bt_of_row w a0 len0 cap0 z0 (w0.imp id (fun ⟨x, h1, h2, h3, h4⟩ => ⟨x, h1, h2, by omega, h4⟩))
  obtain ⟨tag, rfl, ht⟩ := u8_of_wf8 w1
  obtain ⟨L, hL⟩ := nf_ex len0
  have HF : Hid (∀ w' : World, Below w.heap.size w w' → Bt w' a0 len0 cap0 f) := fun w' hb => hb0.later hb
  have HFb : Hid (∀ i, i < len0 → f i < 256) := hb0.sl.1
  obtain ⟨N, EN⟩ : ∃ P, Hid (1 + (L + len0) + 4 = P) := ⟨_, rfl⟩
  obtain ⟨H, EH⟩ : ∃ P : Nat → Nat, Hid (chf tag f len0 L = P) := ⟨_, rfl⟩
  have HWr : Hid (∀ (w' : World) (s : Option Addr) (d : Nat), Bt w' s len0 d f → Calls Try.prog 12 #[.agg #[.int .u8 (tag : Int), .slice s len0 d]] w' fun e w'' => LsF w' w'' e N H 0) := fun w' s d hs => by
    have := wwrite_f w' tag len0 d L s f ht hs (by omega) hL
    rw [EN.out, EH.out] at this
    exact this
  have HRf : Hid (∀ w' : World, Below w.heap.size w w' → Calls Try.prog 21 #[.agg #[.int .u8 (tag : Int), .slice a0 len0 cap0]] w' fun e w'' => LsP w' w'' e N H 0) := fun w' hb => (rwrite8_ok w' tag len0 cap0 L a0 f ht (hb0.sl.later hb) hb0.nil (by omega) hL).mono (fun e w'' h => by
    obtain ⟨v, he, ho, hb⟩ := h
    obtain ⟨s, d, rfl, hbt⟩ := ho.bt (chf_lt ht hb0.sl.1)
    rw [EN.out, EH.out] at hbt
    rw [EN.out] at he
    exact ⟨s, d, he, hbt, hb⟩)
  clear hb0 w0 w1 hL EN EH
  go_enter Try.func7, Try.ntmps7
  go_wp2_with (first
    | (go_at_call 20; have _x := HL8; refine (spoil_fd w8 _ s5 m5 d5 _ HD8.out).mono ?_; rintro e w9 ⟨rfl, row, hr, hk⟩; have HB9 : Hid (Below w.heap.size w w9) := below_kp HB8.out HB8.out.size hk (fun g hg => by have h1 := hr g hg; have z := HZ.out; unfold Nw at *; omega); have HP9 := jhid8 (HP8.out.kp hk (fun x hx hn e => by have h1 := hr _ e; have h2 := HPb.out x hx hn; have z := HZ.out; unfold Nw at *; omega)); have HW9 := jhid8 (HW8.out.kp hk (fun x hx hn e => by have h1 := hr _ e; have h2 := HWb.out x hx hn; have z := HZ.out; unfold Nw at *; omega)); have HL9 := jhid8 (HL8.out.kp hk (fun b o _ hP e => by have h1 := hr _ e; have z := HZ.out; unfold Nw at *; omega)); clear hk hr)
    | (go_at_call 20; have _x := HL7; refine (spoil_fd w7 _ s4 m4 d4 _ HX7.out).mono ?_; rintro e w8 ⟨rfl, row, hr, hk⟩; have HB8 : Hid (Below w.heap.size w w8) := below_kp HB7.out HB7.out.size hk (fun g hg => by have h1 := hr g hg; have z := HZ.out; unfold Nw at *; omega); have HP8 := jhid8 (HP7.out.kp hk (fun x hx hn e => by have h1 := hr _ e; have h2 := HPb.out x hx hn; have z := HZ.out; unfold Nw at *; omega)); have HW8 := jhid8 (HW7.out.kp hk (fun x hx hn e => by have h1 := hr _ e; have h2 := HWb.out x hx hn; have z := HZ.out; unfold Nw at *; omega)); have HL8 := jhid8 (HL7.out.kp hk (fun b o _ hP e => by have h1 := hr _ e; have z := HZ.out; unfold Nw at *; omega)); have HD8 := jhid8 (HD7.out.kp hk); have q8c := cell_kp q7c hk (fun e => by have h1 := hr _ e; have z := HZ.out; unfold Nw at *; omega); clear hk hr)
    | (go_at_call 20; have _x := HL6; have HPb : Hid (∀ x, sp = some x → len0 ≠ 0 → x.block < w1.heap.size) := old8 HP1.out; refine (spoil_fd w6 _ s2 m2 d2 _ HT6.out).mono ?_; rintro e w7 ⟨rfl, row, hr, hk⟩; have HB7 : Hid (Below w.heap.size w w7) := below_kp HB6.out HB6.out.size hk (fun g hg => by have h1 := hr g hg; have z := HZ.out; unfold Nw at *; omega); have HP7 := jhid8 (HP6.out.kp hk (fun x hx hn e => by have h1 := hr _ e; have h2 := HPb.out x hx hn; have z := HZ.out; unfold Nw at *; omega)); have HW7 := jhid8 (HW6.out.kp hk (fun x hx hn e => by have h1 := hr _ e; have h2 := HWb.out x hx hn; have z := HZ.out; unfold Nw at *; omega)); have HL7 := jhid8 (HL6.out.kp hk (fun b o _ hP e => by have h1 := hr _ e; have z := HZ.out; unfold Nw at *; omega)); have HX7 := jhid8 (HX6.out.kp hk); have HD7 := jhid8 (HD6.out.kp hk); have q7c := cell_kp q6c hk (fun e => by have h1 := hr _ e; have z := HZ.out; unfold Nw at *; omega); clear hk hr)
    | (go_at_call 14; refine (wall_w _ sp len0 dp f HP5.out (by omega)).mono ?_; rintro e w6 ⟨xl, kl, dl, q6, E6, rfl, hk, hb⟩; have HB6 : Hid (Below w.heap.size w w6) := jtwo HB5.out hb; have HP6 := jhid8 (HP5.out.later hb); have HT6 := jhid8 (HT5.out.later hb); have HW6 := jhid8 (HW5.out.later hb); have HX6 := jhid8 (HX5.out.later hb); have HD6 := jhid8 (HD5.out.later hb); have HL6 : Hid (Cf w6 (fun g => w5.heap.size < g) xl kl) := hk.mono (fun g h => nw_alloc8 h); have V6 := HV5.out.later hb; have q6c := V6.c1; have HZ : Hid (w.heap.size ≤ w1.heap.size ∧ w1.heap.size ≤ w2.heap.size ∧ w2.heap.size ≤ w3.heap.size ∧ w3.heap.size ≤ w4.heap.size ∧ w4.heap.size ≤ w5.heap.size) := ⟨HB1.out.size, HZ2.out, HZ3.out, HZ4.out, HZ5.out⟩; clear hk hb V6)
    | (go_at_call 11; refine (wrd_w w4 sp len0 dp f HP4.out (by omega)).mono ?_; rintro e w5 ⟨t5, s5, m5, d5, q5, E5, rfl, hk, hb⟩; have hb2 := jtwo hb (jlow w5 (.cells #[.int .u8 t5, .slice s5 m5 d5] 30)); have HB5 : Hid (Below w.heap.size w (w5.alloc (.cells #[.int .u8 t5, .slice s5 m5 d5] 30))) := jtwo HB4.out hb2; have HZ5 := jhid8 hb.size; have HP5 := jhid8 (HP4.out.later hb2); have HT5 := jhid8 (HT4.out.later hb2); have HW5 := jhid8 (HW4.out.later hb2); have HX5 := jhid8 (HX4.out.later hb2); have HD5 := jhid8 (hk.later (jlow w5 (.cells #[.int .u8 t5, .slice s5 m5 d5] 30))); have HV5 : Hid (Vc (w5.alloc (.cells #[.int .u8 t5, .slice s5 m5 d5] 30)) w5.heap.size (.int .u8 t5) (.slice s5 m5 d5)) := Vc.new _ _ _; clear hk hb hb2)
    | (go_at_call 19; refine (wrt_w w3 sp len0 dp f HP3.out (by omega)).mono ?_; rintro e w4 ⟨s4, m4, d4, q4, E4, rfl, hk, hb⟩; have HB4 : Hid (Below w.heap.size w w4) := jtwo HB3.out hb; have HZ4 := jhid8 hb.size; have HP4 := jhid8 (HP3.out.later hb); have HT4 := jhid8 (HT3.out.later hb); have HW4 := jhid8 (HW3.out.later hb); have HX4 := jhid8 hk; clear hk hb)
    | (go_at_call 12; refine (HWr.out w2 sp dp HP2.out).mono ?_; rintro e w3 ⟨s3, d3, rfl, hk, hf, hb⟩; have HB3 : Hid (Below w.heap.size w w3) := jtwo HB2.out hb; have HZ3 := jhid8 hb.size; have HP3 := jhid8 (HP2.out.later hb); have HT3 := jhid8 (HT2.out.later hb); have HWb : Hid (∀ x, s3 = some x → N ≠ 0 → Nw w2 w3 x.block) := new8 hk hf; have HW3 := jhid8 hk; clear hk hf hb)
    | (go_at_call 18; refine (wtext_w w1 sp len0 dp f HP1.out (by omega)).mono ?_; rintro e w2 ⟨s2, m2, d2, E2, rfl, hk, hb⟩; have HB2 : Hid (Below w.heap.size w w2) := jtwo HB1.out hb; have HZ2 := jhid8 hb.size; have HP2 := jhid8 (HP1.out.later hb); have HT2 := jhid8 hk; clear hk hb)
    | (go_at_call 17; refine (copy8 _ a0 len0 cap0 f (HF.out _ (Below.refl _ _)) (by omega)).mono ?_; rintro e w1 ⟨sp, dp, rfl, hj, hb⟩; have HB1 : Hid (Below w.heap.size w w1) := hb; have HP1 : Hid (Bt w1 sp len0 dp f) := bt_own8 hj HFb.out; clear hj hb))
  clear HB1 HB2 HB3 HB4 HB5 HB6 HB7 HB8 HP1 HP2 HP3 HP4 HP5 HP6 HP7 HP8 HT2 HT3 HT4 HT5 HT6 HW3 HW4 HW5 HW6 HW7 HW8 HX4 HX5 HX6 HX7 HD5 HD6 HD7 HD8 HL6 HL7 HL8 HV5 HZ2 HZ3 HZ4 HZ5 HWr q6c q7c q8c
  go_loopw [19] (fun vi wr => ∃ i : Nat, i ≤ kl ∧ vi = .int .i64 (i : Int) ∧ Cf wr (fun g => w5.heap.size < g) xl kl ∧ Bt wr sp len0 dp f ∧ Bt wr s3 N d3 H ∧ Below w.heap.size w wr) (fun vi _ => kl - (intOf vi).toNat)
  case atStart => exact ⟨0, by omega, rfl, HL9.out, HP9.out, HW9.out, HB9.out⟩
  case round =>
    obtain ⟨i, hi, rfl, hl, hp, hw, hb⟩ := hrel
    have hbig := hl.big
    clear HL9 HP9 HW9 HB9
    have HL := jhid8 hl
    have HP := jhid8 hp
    have HW := jhid8 hw
    have HB := jhid8 hb
    by_cases hlt : i < kl
    · obtain ⟨b1, o1, s1, n1, e1, ex1, hPb1, cq, hfd⟩ := hl.all i hlt
      subst ex1
      have HFd := jhid8 hfd
      have HPb1 := jhid8 hPb1
      have z0 : (0 : Int) ≤ (i : Int) := by omega
      have z1 : (i : Int) < (kl : Int) := by omega
      clear hl hp hw hb hfd hPb1
      go_wp2_with (go_at_call 20; refine (spoil_fd wr _ s1 n1 e1 _ HFd.out).mono ?_; rintro e w10 ⟨rfl, row, hr, hk⟩; have HR := jhid8 hr; have HK := jhid8 hk; clear hr hk)
      refine ⟨⟨i + 1, by omega, by go_num, HL.out.kp HK.out (fun b o e _ e2 => by cases e; exact (HR.out _ e2).2 rfl), HP.out.kp HK.out (fun x hx hn e => by have h1 := (HR.out _ e).1; have h2 := HPb.out x hx hn; have z := HZ.out; omega), HW.out.kp HK.out (fun x hx hn e => by have h1 := (HR.out _ e).1; have h2 := HWb.out x hx hn; have z := HZ.out; unfold Nw at *; omega), below_kp HB.out HB.out.size HK.out (fun g hg => by have h1 := (HR.out _ hg).1; have z := HZ.out; omega)⟩, by simp [intOf]; omega⟩
    · obtain rfl : i = kl := by omega
      clear hl hp hw hb
      go_wp2_with (first
        | (go_at_call 10; have _x := HB12; refine (same8 _ sp a0 len0 dp cap0 f f HP12.out (HF.out _ HB12.out) (fun _ _ => rfl)).mono ?_; rintro e w' ⟨rfl, rfl⟩)
        | (go_at_call 10; have _x := HB12; refine (same8 _ s3 sy N d3 dy H H HW12.out HY12.out (fun _ _ => rfl)).mono ?_; rintro e w' ⟨rfl, rfl⟩)
        | (go_at_call 13; refine (anch8_any _).mono ?_; rintro e w12 ⟨rfl, hb⟩; have HB12 : Hid (Below w.heap.size w w12) := jtwo HB11.out hb; have HP12 := jhid8 (HP11.out.later hb); have HW12 := jhid8 (HW11.out.later hb); have HY12 := jhid8 (HY11.out.later hb); clear hb)
        | (go_at_call 21; refine (HRf.out _ HB.out).mono ?_; rintro e w11 ⟨sy, dy, rfl, hk, hb⟩; have HB11 : Hid (Below w.heap.size w w11) := jtwo HB.out hb; have HP11 := jhid8 (HP.out.later hb); have HW11 := jhid8 (HW.out.later hb); have HY11 := jhid8 hk; clear hk hb))
      go_ret
      exact ⟨rfl, HB12.out⟩
set_option maxRecDepth 100000 in
set_option maxHeartbeats 2000000 in
theorem lifted (os : Os) (started : os.Started) (H : Type) (enc : TypeId × Value → H) (F : Stop.Interp) :
    ReturnsInHanded {} Try.checked os 7 .any ((Rows.OpenSpec.upto Rows.wireFreshSpec).pre6 enc Try.prog Try.f7 Rows.wireFreshUptoRow.domain false) (((Rows.OpenSpec.upto Rows.wireFreshSpec).at F).post enc Try.prog Try.f7 false true false false) := by
  refine returnsInHanded_of_cond (C := Try.checked) (s := Rows.OpenSpec.upto Rows.wireFreshSpec) (k := Rows.uptoSmall) rfl own started (by kernel_rfl) Try.func7
    (OpenSpec.witness (enc := enc) (C := Try.checked) (s := Rows.OpenSpec.upto Rows.wireFreshSpec) (k := Rows.uptoSmall) rfl false ⟨#[], #[.slice none 0 0, .int .u8 0], []⟩ 8 (by kernel_rfl) (by kernel_rfl) (by kernel_rfl)
      (x := ([.nil, .lit (.int .u8 0)], [], [])) (by kernel_rfl) rfl (by kernel_rfl)) ?_
  intro W base args ds gs before hval0 hW _ hk _
  have hval : ∀ (j : Nat) t v, Try.f7.params[j]? = some t → args[j]? = some v → Value.okWide Try.prog W .any base t v := hval0
  have hW' := hW
  obtain ⟨p, q, hA0, hV, rfl, hfz, hnd⟩ := hW
  have hA : DataW.TrodAll enc Try.prog W 0 (fun _ => true) true Try.f7.params.toList args.toList ds p := hA0
  rw [Try.params7] at hA hval
  obtain ⟨va0, vs0, d0, ds0, p0, q0, hargs, rfl, rfl, h0, tr0⟩ := trodAll_cons hA
  obtain ⟨va1, vs1, d1, ds1, p1, q1, rfl, rfl, rfl, h1, tr1⟩ := trodAll_cons tr0
  obtain ⟨rfl, rfl, rfl⟩ := trodAll_nil tr1
  obtain rfl : args = #[va0, va1] := by cases args; simp_all
  obtain ⟨rfl, rfl⟩ := trodVars_none hV
  have k0 := h0
  have lt0 : ∀ x ∈ p0, x.block < W.heap.size := by obtain ⟨m, hm⟩ := k0; exact DataW.trod_lt m _ _ _ hm
  obtain ⟨a0, len0, cap0, rfl⟩ := okWide_slice Try.underlying22 (hval 0 22 va0 rfl rfl)
  obtain ⟨z0, w0⟩ : ∃ zs, IsRow .u8 W a0 len0 cap0 zs := by
    obtain ⟨fuel, hf⟩ := h0
    rcases open_ints Try.underlying22 Try.underlying5 (by kernel_rfl) hf with ⟨hcs, _⟩ | ⟨x, l, c, zs, hcs, _, hl, hm, hz, hxx, hcell, hwz⟩
    · simp [Value.cells] at hcs
      obtain ⟨rfl, rfl, rfl⟩ := hcs
      exact ⟨[], .inl ⟨rfl, rfl, rfl, rfl⟩⟩
    · simp [Value.cells] at hcs
      obtain ⟨rfl, rfl, rfl⟩ := hcs
      have hd := congrArg Prod.fst hxx
      have hs := bulk_slice hk (j := 0) (congrArg some hd)
      have hzl : zs.length = cap0 := by simpa using hz
      simp only [lits, List.length_map, List.length_take, List.length_drop] at hs
      exact ⟨zs, .inr ⟨_, rfl, hl, by omega, by simpa using hz, hcell, hwz⟩⟩
  have k1 := h1
  have lt1 : ∀ x ∈ p1, x.block < W.heap.size := by obtain ⟨m, hm⟩ := k1; exact DataW.trod_lt m _ _ _ hm
  obtain ⟨n1, rfl, w1⟩ : ∃ n, va1 = .int .u8 n ∧ (Lit.int .u8 n).wf = true := by
    obtain ⟨n, rfl, _, _, hw⟩ := open_int Try.underlying5 (hval 1 5 va1 rfl rfl) h1
    exact ⟨n, rfl, hw⟩
  clear hA0 hval0
  refine (walk a0 len0 cap0 z0 n1 W w0 w1).mono fun e W' ⟨he, bel⟩ => ?_
  subst he
  exact ⟨_, rfl, _, _, _, [], _, [], hW', trodAll_mk1 (shut_bool Try.underlying4 _), (trodAll_cons_mk (Below.trod laidOut (by kernel_rfl) (of_decide_eq_true (by kernel_rfl)) k0 bel lt0) (trodAll_cons_mk (Below.trod laidOut (by kernel_rfl) (of_decide_eq_true (by kernel_rfl)) k1 bel lt1) trodAll_mk0)), rfl, bel.frame _, fun h => by cases h⟩
theorem proved : Rows.WireFreshUptoSaid :=
  OpenClaim.holds_of_cond 7 Try.f7 rfl rfl rfl rfl rfl rfl rfl ⟨rfl, rfl, rfl, rfl, rfl⟩ rfl rfl rfl rfl rfl (by kernel_rfl) Try.func7 (by kernel_rfl)
    (of_decide_eq_true (by kernel_rfl)) (by unfold Func.isWrapper; first | (rw [if_pos (by decide +kernel)]; kernel_rfl) | (rw [if_neg (by decide +kernel)]; exact ⟨rfl, rfl⟩))
    (fun os started H enc _ F => lifted os started H enc F)
#print axioms proved
end Go.Proofs.Ytlfmekjkgegclab.wireFresh
