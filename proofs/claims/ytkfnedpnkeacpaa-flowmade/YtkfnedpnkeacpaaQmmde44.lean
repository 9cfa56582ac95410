/-
  Stage 21: the reference's Matrix.
-/
import Derived.Test.YtkfnedpnkeacpaaQmmde43
import Derived.Test.YtkfnedpnkeacpaaQmmde00
import Derived.Laws.AppendOwnNone
set_option maxRecDepth 100000
set_option maxHeartbeats 16000000
namespace Go.Proofs.Ytkfnedpnkeacpaa
open Go.RowKit
theorem row_cat (f g : Nat → Nat) (n m : Nat) : (row n f).toList ++ (row m g).toList = (row (n + m) (fun i => if i < n then f i else g (i - n))).toList := by
 apply List.ext_getElem?
 intro i
 by_cases h : i < n
 ·rw [List.getElem?_append_left (by simp [qa3]; exact h)]
  simp [row, h, show i < n + m by omega]
 ·rw [List.getElem?_append_right (by simp [qa3]; omega)]
  by_cases h2 : i < n + m
  ·simp [row, h, h2, show i - n < m by omega]
  ·simp [row, h2, show ¬ i - n < m by omega]
/-- A list of the call's own, and any other one behind it, in a drawn region. -/
theorem qav {ops : Array Oper} {op : Oper} {a : Act} {w : World} {K : Act → World → Prop} {Q : Exit → Act → World → Prop} {E : Prop} (hgd : op.guard = none) (s x : Operand)
  (ho : op.op = .call { callee := .builtin .append, args := #[s, x], argTypes := #[22, 22] })
  (B n m c : Nat) (v : Value) (f g : Nat → Nat) (ad : Option Addr) (hs : a.eval s = v) (hown : w.ownsRow B 5 1 v n (row n f).toList) (hx : a.eval x = .slice ad m c) (hg : Sl w ad m g) (h0 : ad = none → m = 0 ∧ c = 0) (hlim : n + m ≤ 140737488351232) (hB : B ≤ w.heap.size)
  (h : ∀ v' w', w'.ownsRow B 5 1 v' (n + m) (row (n + m) (fun i => if i < n then f i else g (i - n))).toList → w.grownBy w' v.ownBlock → K (a.put op.dst v') w') : if Region.wanted op (yielded ops a.tmps) = true then Oper.wp Try.prog op a w K Q else E := by
 obtain ⟨i0, hi, hz0, hz1, hz2⟩ := info_parts qbu
 cases ad with
 | none =>
  obtain ⟨rfl, rfl⟩ := h0 rfl
  have hw : Region.wanted op (yielded ops a.tmps) = true := by simp [Region.wanted, hgd]
  rw [if_pos hw]
  have hrun := run_append_owned_none (P := Try.prog) (w := w) B 22 op.type 5 i0 1 Try.underlying22 hi v n _ hown
  unfold Oper.wp
  simp [execOp, ho, resolve, invoke, builtin, hs, hx, hrun, Result.andThen]
  exact h v w (by rw [Nat.add_zero, qax n _ f (fun i hi => if_pos hi)]; exact hown) (World.grownBy.refl _ _)
 | some y =>
  refine qbe hgd s x 22 ho B 5 i0 (.int .u8 0) 1 1 Try.underlying22 hi hz0 hz1 hz2 rfl (by decide) v n _ hs hown y m c (row m g).toList hx (by simp [qa3]) ?_ (qaz m g) (by unfold maxLen; omega) (by omega) hB ?_
  ·intro j u hj
   have hjm : j < m := by
    have := (List.getElem?_eq_some_iff.1 hj).1
    simpa [qa3] using this
   obtain ⟨b, o, e, hc⟩ := hg.2 j hjm
   cases e
   rw [add_plain, hc]
   simpa [row, hjm] using hj
  ·intro v' w' ho' hg'
   rw [row_cat] at ho'
   exact h v' w' ho' hg'
theorem Bo.bw2 {w : World} {B : Nat} {a : Option Addr} {n d L : Nat} {x : Nat → Nat → Nat} (h : Bo w B (.slice a n d) n L x) (hx : ∀ i j, i < n → j < L → x i j < 256) (hL : L ≤ 140737488351232) : ∃ (A : Nat → Option Addr) (C : Nat → Nat), Bw w a n A (fun _ => L) C x := by
 have key : ∀ i, ∃ t : Option Addr × Nat, i < n → (∃ g, a = some ⟨g, 0, none⟩ ∧ w.cell? ⟨g, i, none⟩ = some (.slice t.1 L t.2)) ∧ Sl w t.1 L (x i) ∧ (t.1 = none → L = 0 ∧ t.2 = 0) ∧ L ≤ t.2 := by
  intro i
  by_cases hi : i < n
  ·obtain ⟨g, u, ea, hc, ho⟩ := h.cell i hi
   obtain ⟨s, c, rfl, hs, _⟩ := qb6 ho (fun j hj => hx i j hi hj)
   refine ⟨(s, c), fun _ => ⟨⟨g, ea, hc⟩, hs, ?_⟩⟩
   rcases ho.2 with ⟨e1, e2⟩ | ⟨g2, cap, cur, e1, _, _, hcp, _⟩
   ·simp at e1; exact ⟨fun _ => ⟨e2, e1.2.2⟩, by omega⟩
   ·simp only [Value.slice.injEq] at e1
    exact ⟨fun e => (by rw [e1.1] at e; cases e), by rw [e1.2.2]; exact hcp⟩
  ·exact ⟨(none, 0), fun h => absurd h hi⟩
 obtain ⟨T, hT⟩ := Classical.axiomOfChoice key
 exact ⟨fun i => (T i).1, fun i => (T i).2, ⟨⟨fun i hi => by
  obtain ⟨g, e, hc⟩ := (hT i hi).1
  exact ⟨g, 0, e, by rw [Nat.zero_add]; exact hc⟩, fun i hi => (hT i hi).2.1, fun i hi => (hT i hi).2.2.1⟩, fun i hi => (hT i hi).2.2.2, fun _ _ => hL⟩⟩
theorem rmat_b1 (w : World) (a b c : Option Addr) (p q r : Nat) (n : Int) (F : Fl) (h : FlR w a b c F) (hM : ¬ MayP F) :
  Calls Try.prog 12 #[flv a F.ni p b F.nn q c F.no r, .int .i64 n] w fun e w' => e = .returned (.tuple #[mv 0 0 none 0 0, .int .i64 2]) ∧ Below w.heap.size w w' := by
 obtain ⟨wb, HW⟩ : ∃ wb, Hid ((w.alloc (.cells #[.slice a F.ni p, .slice b F.nn q, .slice c F.no r] 28)).alloc (.cells #[.int .i64 0, .int .i64 0, .slice none 0 0] 24) = wb) := ⟨_, rfl⟩
 have HB0 : Hid (Below w.heap.size w wb) := by rw [← HW.out]; exact jtwo (jlow _ _) (jlow _ _)
 have HV0 : Hid (Vf wb w.heap.size 28 #[.slice a F.ni p, .slice b F.nn q, .slice c F.no r]) := by rw [← HW.out]; exact (Vf.new w _ _).later (jlow _ _)
 have HR0 : Hid (Vf wb (w.heap.size + 1) 24 #[.int .i64 0, .int .i64 0, .slice none 0 0]) := by rw [← HW.out]; exact Vf.new1 _ _ _ _
 have HMy := qa0 (fun w2 (hb : Below w.heap.size w w2) => qb1 (qam w2 a b c p q r F (h.later hb)) hM)
 obtain ⟨ni, HNi⟩ : ∃ x, Hid (F.ni = x) := ⟨_, rfl⟩
 obtain ⟨nn, HNn⟩ : ∃ x, Hid (F.nn = x) := ⟨_, rfl⟩
 obtain ⟨no, HNo⟩ : ∃ x, Hid (F.no = x) := ⟨_, rfl⟩
 rw [HNi.out, HNn.out, HNo.out] at HMy HV0
 rw [HNi.out, HNn.out, HNo.out] at HW
 rw [HNi.out, HNn.out, HNo.out]
 clear h hM
 go_enter Try.func12, Try.ntmps12
 have f0 := HV0.out.cell 0 (.slice a ni p) rfl
 have f1 := HV0.out.cell 1 (.slice b nn q) rfl
 have f2 := HV0.out.cell 2 (.slice c no r) rfl
 rw [← HW.out] at f0 f1 f2
 go_wp2_with (first
  | (go_at_call 21; rw [HW.out]; refine (HMy.out _ HB0.out).mono ?_; rintro e w1 ⟨rfl, hb1⟩; have HB1 := qa0 (jtwo HB0.out hb1); have HV1 := qa0 (HV0.out.later hb1); have HR1 := qa0 (HR0.out.later hb1); have f0 := HV1.out.cell 0 (.slice a ni p) rfl; have f1 := HV1.out.cell 1 (.slice b nn q) rfl; have f2 := HV1.out.cell 2 (.slice c no r) rfl; have r00 := HR1.out.cell 0 (.int .i64 0) rfl; have r01 := HR1.out.free 0; have HP1 := qa0 (HR1.out.put 0 (.int .i64 0)); have r10 := HP1.out.cell 1 (.int .i64 0) rfl; have r11 := HP1.out.free 1; have HP2 := qa0 (HP1.out.put 1 (.int .i64 0)); have r20 := HP2.out.cell 2 (.slice none 0 0) rfl; have r21 := HP2.out.free 2; have HP3 := qa0 (HP2.out.put 2 (.slice none 0 0)); clear hb1))
 have d0 := HP3.out.cell 0 (.int .i64 0) rfl
 have d1 := HP3.out.cell 1 (.int .i64 0) rfl
 have d2 := HP3.out.cell 2 (.slice none 0 0) rfl
 refine bodyPost_ret (v := .tuple #[mv 0 0 none 0 0, .int .i64 2]) (by simp [results, Try.results12, go_sem, d0, d1, d2, mv]) rfl ?_
 exact ⟨rfl, ((HB1.out.setCell (by show w.heap.size ≤ w.heap.size + 1; omega) _).setCell (by show w.heap.size ≤ w.heap.size + 1; omega) _).setCell (by show w.heap.size ≤ w.heap.size + 1; omega) _⟩
theorem rmat_b2 (w : World) (a b c : Option Addr) (p q r : Nat) (n : Int) (F : Fl) (h : FlR w a b c F) (hM : MayP F) (hS : n < 0) :
  Calls Try.prog 12 #[flv a F.ni p b F.nn q c F.no r, .int .i64 n] w fun e w' => e = .returned (.tuple #[mv 0 0 none 0 0, .int .i64 2]) ∧ Below w.heap.size w w' := by
 obtain ⟨wb, HW⟩ : ∃ wb, Hid ((w.alloc (.cells #[.slice a F.ni p, .slice b F.nn q, .slice c F.no r] 28)).alloc (.cells #[.int .i64 0, .int .i64 0, .slice none 0 0] 24) = wb) := ⟨_, rfl⟩
 have HB0 : Hid (Below w.heap.size w wb) := by rw [← HW.out]; exact jtwo (jlow _ _) (jlow _ _)
 have HV0 : Hid (Vf wb w.heap.size 28 #[.slice a F.ni p, .slice b F.nn q, .slice c F.no r]) := by rw [← HW.out]; exact (Vf.new w _ _).later (jlow _ _)
 have HR0 : Hid (Vf wb (w.heap.size + 1) 24 #[.int .i64 0, .int .i64 0, .slice none 0 0]) := by rw [← HW.out]; exact Vf.new1 _ _ _ _
 have HMy := qa0 (fun w2 (hb : Below w.heap.size w w2) => qa9 (qam w2 a b c p q r F (h.later hb)) hM)
 obtain ⟨ni, HNi⟩ : ∃ x, Hid (F.ni = x) := ⟨_, rfl⟩
 obtain ⟨nn, HNn⟩ : ∃ x, Hid (F.nn = x) := ⟨_, rfl⟩
 obtain ⟨no, HNo⟩ : ∃ x, Hid (F.no = x) := ⟨_, rfl⟩
 rw [HNi.out, HNn.out, HNo.out] at HMy HV0
 rw [HNi.out, HNn.out, HNo.out] at HW
 rw [HNi.out, HNn.out, HNo.out]
 have g5 : decide (n < 0) = true := decide_eq_true hS
 clear h hM
 go_enter Try.func12, Try.ntmps12
 have f0 := HV0.out.cell 0 (.slice a ni p) rfl
 have f1 := HV0.out.cell 1 (.slice b nn q) rfl
 have f2 := HV0.out.cell 2 (.slice c no r) rfl
 rw [← HW.out] at f0 f1 f2
 go_wp2_with (first
  | (go_at_call 21; rw [HW.out]; refine (HMy.out _ HB0.out).mono ?_; rintro e w1 ⟨rfl, hb1⟩; have HB1 := qa0 (jtwo HB0.out hb1); have HV1 := qa0 (HV0.out.later hb1); have HR1 := qa0 (HR0.out.later hb1); have f0 := HV1.out.cell 0 (.slice a ni p) rfl; have f1 := HV1.out.cell 1 (.slice b nn q) rfl; have f2 := HV1.out.cell 2 (.slice c no r) rfl; have r00 := HR1.out.cell 0 (.int .i64 0) rfl; have r01 := HR1.out.free 0; have HP1 := qa0 (HR1.out.put 0 (.int .i64 0)); have r10 := HP1.out.cell 1 (.int .i64 0) rfl; have r11 := HP1.out.free 1; have HP2 := qa0 (HP1.out.put 1 (.int .i64 0)); have r20 := HP2.out.cell 2 (.slice none 0 0) rfl; have r21 := HP2.out.free 2; have HP3 := qa0 (HP2.out.put 2 (.slice none 0 0)); clear hb1))
 have d0 := HP3.out.cell 0 (.int .i64 0) rfl
 have d1 := HP3.out.cell 1 (.int .i64 0) rfl
 have d2 := HP3.out.cell 2 (.slice none 0 0) rfl
 refine bodyPost_ret (v := .tuple #[mv 0 0 none 0 0, .int .i64 2]) (by simp [results, Try.results12, go_sem, d0, d1, d2, mv]) rfl ?_
 exact ⟨rfl, ((HB1.out.setCell (by show w.heap.size ≤ w.heap.size + 1; omega) _).setCell (by show w.heap.size ≤ w.heap.size + 1; omega) _).setCell (by show w.heap.size ≤ w.heap.size + 1; omega) _⟩
theorem rmat_b3 (w : World) (a b c : Option Addr) (p q r : Nat) (n : Int) (F : Fl) (h : FlR w a b c F) (hM : MayP F) (hS : 64 < n) :
  Calls Try.prog 12 #[flv a F.ni p b F.nn q c F.no r, .int .i64 n] w fun e w' => e = .returned (.tuple #[mv 0 0 none 0 0, .int .i64 2]) ∧ Below w.heap.size w w' := by
 obtain ⟨wb, HW⟩ : ∃ wb, Hid ((w.alloc (.cells #[.slice a F.ni p, .slice b F.nn q, .slice c F.no r] 28)).alloc (.cells #[.int .i64 0, .int .i64 0, .slice none 0 0] 24) = wb) := ⟨_, rfl⟩
 have HB0 : Hid (Below w.heap.size w wb) := by rw [← HW.out]; exact jtwo (jlow _ _) (jlow _ _)
 have HV0 : Hid (Vf wb w.heap.size 28 #[.slice a F.ni p, .slice b F.nn q, .slice c F.no r]) := by rw [← HW.out]; exact (Vf.new w _ _).later (jlow _ _)
 have HR0 : Hid (Vf wb (w.heap.size + 1) 24 #[.int .i64 0, .int .i64 0, .slice none 0 0]) := by rw [← HW.out]; exact Vf.new1 _ _ _ _
 have HMy := qa0 (fun w2 (hb : Below w.heap.size w w2) => qa9 (qam w2 a b c p q r F (h.later hb)) hM)
 obtain ⟨ni, HNi⟩ : ∃ x, Hid (F.ni = x) := ⟨_, rfl⟩
 obtain ⟨nn, HNn⟩ : ∃ x, Hid (F.nn = x) := ⟨_, rfl⟩
 obtain ⟨no, HNo⟩ : ∃ x, Hid (F.no = x) := ⟨_, rfl⟩
 rw [HNi.out, HNn.out, HNo.out] at HMy HV0
 rw [HNi.out, HNn.out, HNo.out] at HW
 rw [HNi.out, HNn.out, HNo.out]
 have g5 : decide (n < 0) = false := decide_eq_false (by omega)
 have g6 : decide ((64 : Int) < n) = true := decide_eq_true hS
 have g7 : ¬ n < 0 := by omega
 clear h hM
 go_enter Try.func12, Try.ntmps12
 have f0 := HV0.out.cell 0 (.slice a ni p) rfl
 have f1 := HV0.out.cell 1 (.slice b nn q) rfl
 have f2 := HV0.out.cell 2 (.slice c no r) rfl
 rw [← HW.out] at f0 f1 f2
 go_wp2_with (first
  | (go_at_call 21; rw [HW.out]; refine (HMy.out _ HB0.out).mono ?_; rintro e w1 ⟨rfl, hb1⟩; have HB1 := qa0 (jtwo HB0.out hb1); have HV1 := qa0 (HV0.out.later hb1); have HR1 := qa0 (HR0.out.later hb1); have f0 := HV1.out.cell 0 (.slice a ni p) rfl; have f1 := HV1.out.cell 1 (.slice b nn q) rfl; have f2 := HV1.out.cell 2 (.slice c no r) rfl; have r00 := HR1.out.cell 0 (.int .i64 0) rfl; have r01 := HR1.out.free 0; have HP1 := qa0 (HR1.out.put 0 (.int .i64 0)); have r10 := HP1.out.cell 1 (.int .i64 0) rfl; have r11 := HP1.out.free 1; have HP2 := qa0 (HP1.out.put 1 (.int .i64 0)); have r20 := HP2.out.cell 2 (.slice none 0 0) rfl; have r21 := HP2.out.free 2; have HP3 := qa0 (HP2.out.put 2 (.slice none 0 0)); clear hb1))
 have d0 := HP3.out.cell 0 (.int .i64 0) rfl
 have d1 := HP3.out.cell 1 (.int .i64 0) rfl
 have d2 := HP3.out.cell 2 (.slice none 0 0) rfl
 refine bodyPost_ret (v := .tuple #[mv 0 0 none 0 0, .int .i64 2]) (by simp [results, Try.results12, go_sem, d0, d1, d2, mv]) rfl ?_
 exact ⟨rfl, ((HB1.out.setCell (by show w.heap.size ≤ w.heap.size + 1; omega) _).setCell (by show w.heap.size ≤ w.heap.size + 1; omega) _).setCell (by show w.heap.size ≤ w.heap.size + 1; omega) _⟩
theorem rmat_b4 (w : World) (a b c : Option Addr) (p q r : Nat) (n : Int) (F : Fl) (h : FlR w a b c F) (hM : MayP F) (h1 : 0 ≤ n) (h2 : n ≤ 64) (h0 : 0 < F.ni) (hE : ¬ F.inp (F.ni - 1) < n) :
  Calls Try.prog 12 #[flv a F.ni p b F.nn q c F.no r, .int .i64 n] w fun e w' => e = .returned (.tuple #[mv 0 0 none 0 0, .int .i64 2]) ∧ Below w.heap.size w w' := by
 obtain ⟨wb, HW⟩ : ∃ wb, Hid ((w.alloc (.cells #[.slice a F.ni p, .slice b F.nn q, .slice c F.no r] 28)).alloc (.cells #[.int .i64 0, .int .i64 0, .slice none 0 0] 24) = wb) := ⟨_, rfl⟩
 have HB0 : Hid (Below w.heap.size w wb) := by rw [← HW.out]; exact jtwo (jlow _ _) (jlow _ _)
 have HV0 : Hid (Vf wb w.heap.size 28 #[.slice a F.ni p, .slice b F.nn q, .slice c F.no r]) := by rw [← HW.out]; exact (Vf.new w _ _).later (jlow _ _)
 have HR0 : Hid (Vf wb (w.heap.size + 1) 24 #[.int .i64 0, .int .i64 0, .slice none 0 0]) := by rw [← HW.out]; exact Vf.new1 _ _ _ _
 have HMy := qa0 (fun w2 (hb : Below w.heap.size w w2) => qa9 (qam w2 a b c p q r F (h.later hb)) hM)
 have hi7 := h.hi
 have HIn := qa0 h.inp
 obtain ⟨ni, HNi⟩ : ∃ x, Hid (F.ni = x) := ⟨_, rfl⟩
 obtain ⟨nn, HNn⟩ : ∃ x, Hid (F.nn = x) := ⟨_, rfl⟩
 obtain ⟨no, HNo⟩ : ∃ x, Hid (F.no = x) := ⟨_, rfl⟩
 rw [HNi.out, HNn.out, HNo.out] at HMy HV0
 rw [HNi.out, HNn.out, HNo.out] at HW
 rw [HNi.out, HNn.out, HNo.out]
 rw [HNi.out] at hE
 have hni : 0 < ni := by rw [← HNi.out]; exact h0
 rw [HNi.out] at HIn hi7
 obtain ⟨lb, lo, rfl, hlc⟩ := HIn.out (ni - 1) (by omega)
 obtain ⟨lk, HLK⟩ : ∃ k, Hid (ni - 1 = k) := ⟨_, rfl⟩
 obtain ⟨lz, HLZ⟩ : ∃ z, Hid (F.inp lk = z) := ⟨_, rfl⟩
 rw [HLK.out, HLZ.out] at hlc
 have HLc := qa0 hlc
 have g1 : ¬ (ni : Int) = 0 := by omega
 have g2 : decide ((0 : Int) < (ni : Int)) = true := decide_eq_true (by omega)
 have g3 : decide (0 < ni) = true := decide_eq_true hni
 have wl : IntKind.i64.wrap ((ni : Int) - 1) = (lk : Int) := by have := HLK.out; rw [IntKind.wrap_i64]; omega
 have l0 : (0 : Int) ≤ (lk : Int) := by omega
 have l1 : (lk : Int) < (ni : Int) := by have := HLK.out; omega
 rw [HLK.out, HLZ.out] at hE
 have g5 : decide (n < 0) = false := decide_eq_false (by omega)
 have g6 : decide ((64 : Int) < n) = false := decide_eq_false (by omega)
 have g7 : ¬ n < 0 := by omega
 have g8 : ¬ (64 : Int) < n := by omega
 have g9 : decide (n ≤ lz) = true := decide_eq_true (by omega)
 have g10 : n ≤ lz := by omega
 clear hlc
 clear h hM hE h0
 go_enter Try.func12, Try.ntmps12
 have f0 := HV0.out.cell 0 (.slice (some ⟨lb, lo, none⟩) ni p) rfl
 have f1 := HV0.out.cell 1 (.slice b nn q) rfl
 have f2 := HV0.out.cell 2 (.slice c no r) rfl
 rw [← HW.out] at f0 f1 f2
 go_wp2_with (first
  | (go_at_call 21; rw [HW.out]; refine (HMy.out _ HB0.out).mono ?_; rintro e w1 ⟨rfl, hb1⟩; have HB1 := qa0 (jtwo HB0.out hb1); have HV1 := qa0 (HV0.out.later hb1); have HR1 := qa0 (HR0.out.later hb1); have f0 := HV1.out.cell 0 (.slice (some ⟨lb, lo, none⟩) ni p) rfl; have f1 := HV1.out.cell 1 (.slice b nn q) rfl; have f2 := HV1.out.cell 2 (.slice c no r) rfl; have lc := keepc HB1.out HLc.out; have r00 := HR1.out.cell 0 (.int .i64 0) rfl; have r01 := HR1.out.free 0; have HP1 := qa0 (HR1.out.put 0 (.int .i64 0)); have r10 := HP1.out.cell 1 (.int .i64 0) rfl; have r11 := HP1.out.free 1; have HP2 := qa0 (HP1.out.put 1 (.int .i64 0)); have r20 := HP2.out.cell 2 (.slice none 0 0) rfl; have r21 := HP2.out.free 2; have HP3 := qa0 (HP2.out.put 2 (.slice none 0 0)); clear hb1))
 have d0 := HP3.out.cell 0 (.int .i64 0) rfl
 have d1 := HP3.out.cell 1 (.int .i64 0) rfl
 have d2 := HP3.out.cell 2 (.slice none 0 0) rfl
 refine bodyPost_ret (v := .tuple #[mv 0 0 none 0 0, .int .i64 2]) (by simp [results, Try.results12, go_sem, d0, d1, d2, mv]) rfl ?_
 exact ⟨rfl, ((HB1.out.setCell (by show w.heap.size ≤ w.heap.size + 1; omega) _).setCell (by show w.heap.size ≤ w.heap.size + 1; omega) _).setCell (by show w.heap.size ≤ w.heap.size + 1; omega) _⟩
theorem rmat_bad (w : World) (a b c : Option Addr) (p q r : Nat) (n : Int) (F : Fl) (h : FlR w a b c F) (hM : ¬ MtP21 F n) :
  Calls Try.prog 12 #[flv a F.ni p b F.nn q c F.no r, .int .i64 n] w fun e w' => e = .returned (.tuple #[mv 0 0 none 0 0, .int .i64 2]) ∧ Below w.heap.size w w' := by
 by_cases h1 : MayP F
 ·by_cases h2 : n < 0
  ·exact rmat_b2 w a b c p q r n F h h1 h2
  ·by_cases h3 : 64 < n
   ·exact rmat_b3 w a b c p q r n F h h1 h3
   ·have hE : ¬ EnP F n := fun he => hM ⟨h1, he, by omega, by omega⟩
    exact rmat_b4 w a b c p q r n F h h1 (by omega) (by omega) (Nat.pos_of_ne_zero fun e => hE (.inl e)) (fun e => hE (.inr e))
 ·exact rmat_b1 w a b c p q r n F h h1
end Go.Proofs.Ytkfnedpnkeacpaa
