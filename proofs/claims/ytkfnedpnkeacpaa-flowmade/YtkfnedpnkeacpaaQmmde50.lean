/-
  Stage 21: the law of Made.
-/
import Derived.Test.YtkfnedpnkeacpaaQmmde00
import Derived.Test.YtkfnedpnkeacpaaQmmde49
set_option maxRecDepth 100000
set_option maxHeartbeats 16000000
namespace Go.Proofs.Ytkfnedpnkeacpaa
open Go.RowKit
theorem qc7 {R f f' : Nat → Nat} : ∀ m, (∀ i, i < m → f i = f' i) → tof R f m = tof R f' m := by
 intro m
 induction m with
 | zero => intro _; rfl
 | succ m ih =>
  intro e
  show tof R f m ++ (if R (f m) = 0 then [] else [((m : Int), R (f m))]) = tof R f' m ++ (if R (f' m) = 0 then [] else [((m : Int), R (f' m))])
  rw [ih fun i hi => e i (by omega), e m (by omega)]
theorem IsOf.two {r c : Nat} {D : Nat → Nat} {G H : Fl} (h : IsOf r c D G) (h2 : IsOf r c D H) : EqF G H := by
 obtain ⟨m, f, rfl, he⟩ := h
 obtain ⟨m', f', rfl, he'⟩ := h2
 obtain ⟨rfl, hf⟩ := he.one he'
 refine ⟨⟨rfl, fun i hi => ?_⟩, ⟨rfl, fun i hi => ⟨?_, fun j hj => ⟨?_, ?_⟩⟩⟩, ⟨rfl, fun _ _ => rfl⟩⟩
 ·show (f i : Int) = (f' i : Int)
  rw [hf i hi]
 ·show (tof _ f m).length = (tof _ f' m).length
  rw [qc7 m hf]
 ·show ((tof _ f m).getD j (0, 0)).1 = ((tof _ f' m).getD j (0, 0)).1
  rw [qc7 m hf]
 ·show ((tof _ f m).getD j (0, 0)).2 = ((tof _ f' m).getD j (0, 0)).2
  rw [qc7 m hf]
/-- A flow of a kind is answered, and E. -/
def OfT (T : Fl → Prop) (E : Int) (w : World) (e : Ending) : Prop := ∃ (x : Option Addr) (p : Nat) (y : Option Addr) (q : Nat) (z : Option Addr) (s : Nat) (G : Fl), e = .returned (.tuple #[flv x G.ni p y G.nn q z G.no s, .int .i64 E]) ∧ FlR w x y z G ∧ T G
theorem qfi (w0 : World) (r c : Int) (n k : Nat) (a : Option Addr) (D : Nat → Nat) (ha : Mt w0 a n k D) :
    ∃ (T : Fl → Prop) (E : Int), (∀ G H, T G → T H → EqF G H) ∧ ∀ w, Below w0.heap.size w0 w →
      (Calls Try.prog 9 #[mv r c a n k] w fun e w' => OfT T E w' e ∧ Below w.heap.size w w') ∧
      (Calls Try.prog 10 #[mv r c a n k] w fun e w' => OfT T E w' e ∧ Below w.heap.size w w') := by
  by_cases hR : RightP r c n
  · obtain ⟨h1, h2, h3, h4, h5⟩ := hR
    obtain ⟨r', rfl⟩ := Int.eq_ofNat_of_zero_le h1
    obtain ⟨c', rfl⟩ := Int.eq_ofNat_of_zero_le h3
    have R : Rt r' c' n := ⟨by omega, by omega, by have : ((r' * c' : Nat) : Int) = (n : Int) := by rw [h5]; simp
                                                   omega⟩
    exact ⟨IsOf r' c' D, 0, fun G H h h2 => h.two h2, fun w hb => ⟨fof_g w r' c' n k a D (ha.later hb) R, rof_ok w r' c' n k a D (ha.later hb) R⟩⟩
  · refine ⟨fun G => G = nilF, 3, fun G H h h2 => (by rw [h, h2]; exact EqF.refl _), fun w _ => ⟨(fof_bad w r c n k a hR).mono ?_, (rof_bad w r c n k a hR).mono ?_⟩⟩
    · rintro e w' ⟨rfl, hb⟩
      exact ⟨⟨none, 0, none, 0, none, 0, nilF, rfl, nilF_r _, rfl⟩, hb⟩
    · rintro e w' ⟨rfl, hb⟩
      exact ⟨⟨none, 0, none, 0, none, 0, nilF, rfl, nilF_r _, rfl⟩, hb⟩
theorem own_mt21 {w : World} {B n d : Nat} {s : Option Addr} {f : Nat → Nat} (h : w.ownsRow B 5 1 (.slice s n d) n (row n f).toList) (hf : ∀ i, i < n → f i < 256) : Mt w s n d f := by
 obtain ⟨s', d', e, hs, _⟩ := qb6 h hf
 cases e
 refine ⟨hs, ?_, fun e => ?_⟩
 ·rcases h.2 with ⟨e1, e2⟩ | ⟨g2, cap, cur, e1, _, _, hcp, _⟩
  ·simp at e1; omega
  ·simp only [Value.slice.injEq] at e1; omega
 ·rcases h.2 with ⟨e1, e2⟩ | ⟨g2, cap, cur, e1, _⟩
  ·simp at e1; exact ⟨e2, e1.2.2⟩
  ·simp only [Value.slice.injEq] at e1; rw [e1.1] at e; cases e
/-- A matrix is answered, and E. -/
def MtT (R C : Int) (Z : Nat) (f : Nat → Nat) (E : Int) (w : World) (e : Ending) : Prop := ∃ s d, e = .returned (.tuple #[mv R C s Z d, .int .i64 E]) ∧ Mt w s Z d f
theorem qef (w0 : World) (a b c : Option Addr) (p q r : Nat) (n : Int) (F : Fl) (h : FlR w0 a b c F) :
  ∃ (R C : Int) (Z : Nat) (f : Nat → Nat) (E : Int), ∀ w, Below w0.heap.size w0 w →
   (Calls Try.prog 11 #[flv a F.ni p b F.nn q c F.no r, .int .i64 n] w fun e w' => MtT R C Z f E w' e ∧ Below w.heap.size w w') ∧
   (Calls Try.prog 12 #[flv a F.ni p b F.nn q c F.no r, .int .i64 n] w fun e w' => MtT R C Z f E w' e ∧ Below w.heap.size w w') := by
 by_cases hM : MtP21 F n
 ·obtain ⟨h1, h2, h3, h4⟩ := hM
  obtain ⟨k, rfl⟩ := Int.eq_ofNat_of_zero_le h3
  have hlt : ∀ p, p < F.no * k → mtf F k p < 256 := fun p hp => by
   unfold mtf
   have hz : 0 < k := Nat.pos_of_ne_zero fun e => by subst e; omega
   have : p / k < F.no := Nat.div_lt_of_lt_mul (by rw [Nat.mul_comm]; exact hp)
   exact qcv h1 (fun v j h1 h2 h3 => h.fc8 h1 h2 h3) (fun _ _ => qc0 _ _) (h1.outLt this)
  refine ⟨F.no, k, F.no * k, mtf F k, 0, fun w hb => ⟨(fmat_ok w a b c p q r k _ F (h.later hb) h1 (en_all h1 h2) (by omega) rfl).mono ?_, (rmat_ok w a b c p q r k _ F (h.later hb) h1 (en_all h1 h2) (by omega) rfl).mono ?_⟩⟩
  ·rintro e w' ⟨⟨g, rfl, hr, _⟩, hb'⟩
   exact ⟨⟨_, _, rfl, hr.mt hlt⟩, hb'⟩
  ·rintro e w' ⟨⟨s, d, rfl, ho⟩, hb'⟩
   exact ⟨⟨s, d, rfl, own_mt21 ho hlt⟩, hb'⟩
 ·refine ⟨0, 0, 0, fun _ => 0, 2, fun w hb => ⟨(fmat_bad w a b c p q r n F (h.later hb) hM).mono ?_, (rmat_bad w a b c p q r n F (h.later hb) hM).mono ?_⟩⟩
  ·rintro e w' ⟨rfl, hb'⟩
   exact ⟨⟨none, 0, rfl, Mt.none _ _⟩, hb'⟩
  ·rintro e w' ⟨rfl, hb'⟩
   exact ⟨⟨none, 0, rfl, Mt.none _ _⟩, hb'⟩
theorem fmade21 (w : World) (r c : Int) (n k : Nat) (a : Option Addr) (D : Nat → Nat) (ha : Mt w a n k D) (x y z : Option Addr) (d1 d2 d3 : Nat) (F : Fl) (h : FlR w x y z F) (cols : Int) :
  Calls Try.prog 3 #[mv r c a n k, flv x F.ni d1 y F.nn d2 z F.no d3, .int .i64 cols] w fun e w' => e = .returned (.bool true) ∧ Below w.heap.size w w' := by
 obtain ⟨wb, HW⟩ : ∃ wb, Hid ((w.alloc (.cells #[.int .i64 r, .int .i64 c, .slice a n k] 24)).alloc (.cells #[.slice x F.ni d1, .slice y F.nn d2, .slice z F.no d3] 28) = wb) := ⟨_, rfl⟩
 have HB0 : Hid (Below w.heap.size w wb) := by rw [← HW.out]; exact jtwo (jlow _ _) (jlow _ _)
 have HV0 : Hid (Vf wb w.heap.size 24 #[.int .i64 r, .int .i64 c, .slice a n k]) := by rw [← HW.out]; exact (Vf.new w _ _).later (jlow _ _)
 have HX0 : Hid (Vf wb (w.heap.size + 1) 28 #[.slice x F.ni d1, .slice y F.nn d2, .slice z F.no d3]) := by rw [← HW.out]; exact Vf.new1 _ _ _ _
 obtain ⟨T, E, hT, hof⟩ := qfi w r c n k a D ha
 obtain ⟨R, C, Z, f, E2, hmt⟩ := qef w x y z d1 d2 d3 cols F h
 have HT := qa0 hT
 have HOf := qa0 hof
 have HMt := qa0 hmt
 have HSm := qa0 (fun (w2 : World) (x y z x' y' z' : Option Addr) (d1 d2 d3 d1' d2' d3' : Nat) (G H : Fl) (h1 : FlR w2 x y z G) (h2 : FlR w2 x' y' z' H) (e : EqF G H) => qa9 (qe9 w2 x y z x' y' z' d1 d2 d3 d1' d2' d3' G H h1 h2) e)
 have HLk := qa0 (fun (w2 : World) (s t : Option Addr) (d e : Nat) (h1 : Mt w2 s Z d f) (h2 : Mt w2 t Z e f) => like_ans w2 R C s t Z d e f f h1 h2 (fun _ _ => rfl))
 obtain ⟨ni, HNi⟩ : ∃ x, Hid (F.ni = x) := ⟨_, rfl⟩
 obtain ⟨nn, HNn⟩ : ∃ x, Hid (F.nn = x) := ⟨_, rfl⟩
 obtain ⟨no, HNo⟩ : ∃ x, Hid (F.no = x) := ⟨_, rfl⟩
 rw [HNi.out, HNn.out, HNo.out] at HX0 HMt
 rw [HNi.out, HNn.out, HNo.out] at HW
 rw [HNi.out, HNn.out, HNo.out]
 have g1 : (E == E) = true := by simp
 have g2 : (E2 == E2) = true := by simp
 have f0_0 := HV0.out.cell 0 (.int .i64 r) rfl
 have f1_0 := HV0.out.cell 1 (.int .i64 c) rfl
 have f2_0 := HV0.out.cell 2 (.slice a n k) rfl
 rw [← HW.out] at f0_0 f1_0 f2_0
 clear ha h hof hmt hT
 go_enter Try.func3, Try.ntmps3
 go_wp2_with (first
  | (go_at_call 9; rw [HW.out]; refine (HOf.out _ HB0.out).1.mono ?_; rintro e w1 ⟨⟨xa, p1, ya, q1, za, s1, G, rfl, hf, ht⟩, hb1⟩; have hl1 := jlow w1 (.cells #[.slice xa G.ni p1, .slice ya G.nn q1, .slice za G.no s1] 28); have HB1 := qa0 (jtwo HB0.out (jtwo hb1 hl1)); have HV1 := qa0 (HV0.out.later (jtwo hb1 hl1)); have HX1 := qa0 (HX0.out.later (jtwo hb1 hl1)); have HG1 := qa0 (hf.later hl1); have HTG := qa0 ht; have HGv1 := qa0 (Vf.new w1 28 #[.slice xa G.ni p1, .slice ya G.nn q1, .slice za G.no s1]); have u0 := HV1.out.cell 0 (.int .i64 r) rfl; have u1 := HV1.out.cell 1 (.int .i64 c) rfl; have u2 := HV1.out.cell 2 (.slice a n k) rfl; clear hf ht hb1 hl1)
  | (go_at_call 10; refine (HOf.out _ HB1.out).2.mono ?_; rintro e w2 ⟨⟨xb, p2, yb, q2, zb, s2, H, rfl, hf, ht⟩, hb2⟩; have hl2 := jlow w2 (.cells #[.slice xb H.ni p2, .slice yb H.nn q2, .slice zb H.no s2] 28); have HB2 := qa0 (jtwo HB1.out (jtwo hb2 hl2)); have HX2 := qa0 (HX1.out.later (jtwo hb2 hl2)); have HG2 := qa0 (HG1.out.later (jtwo hb2 hl2)); have HGv2 := qa0 (HGv1.out.later (jtwo hb2 hl2)); have HH2 := qa0 (hf.later hl2); have HTH := qa0 ht; have HHv2 := qa0 (Vf.new w2 28 #[.slice xb H.ni p2, .slice yb H.nn q2, .slice zb H.no s2]); have v0 := HX2.out.cell 0 (.slice x ni d1) rfl; have v1 := HX2.out.cell 1 (.slice y nn d2) rfl; have v2 := HX2.out.cell 2 (.slice z no d3) rfl; clear hf ht hb2 hl2)
  | (go_at_call 11; refine (HMt.out _ HB2.out).1.mono ?_; rintro e w3 ⟨⟨ms, md, rfl, hm⟩, hb3⟩; have hl3 := jlow w3 (.cells #[.int .i64 R, .int .i64 C, .slice ms Z md] 24); have HB3 := qa0 (jtwo HB2.out (jtwo hb3 hl3)); have HX3 := qa0 (HX2.out.later (jtwo hb3 hl3)); have HG3 := qa0 (HG2.out.later (jtwo hb3 hl3)); have HGv3 := qa0 (HGv2.out.later (jtwo hb3 hl3)); have HH3 := qa0 (HH2.out.later (jtwo hb3 hl3)); have HHv3 := qa0 (HHv2.out.later (jtwo hb3 hl3)); have HM3 := qa0 (hm.later hl3); have HMv3 := qa0 (Vf.new w3 24 #[.int .i64 R, .int .i64 C, .slice ms Z md]); have v0 := HX3.out.cell 0 (.slice x ni d1) rfl; have v1 := HX3.out.cell 1 (.slice y nn d2) rfl; have v2 := HX3.out.cell 2 (.slice z no d3) rfl; clear hm hb3 hl3)
  | (go_at_call 12; refine (HMt.out _ HB3.out).2.mono ?_; rintro e w4 ⟨⟨ns, nd, rfl, hm⟩, hb4⟩; have hl4 := jlow w4 (.cells #[.int .i64 R, .int .i64 C, .slice ns Z nd] 24); have HB4 := qa0 (jtwo HB3.out (jtwo hb4 hl4)); have HG4 := qa0 (HG3.out.later (jtwo hb4 hl4)); have HGv4 := qa0 (HGv3.out.later (jtwo hb4 hl4)); have HH4 := qa0 (HH3.out.later (jtwo hb4 hl4)); have HHv4 := qa0 (HHv3.out.later (jtwo hb4 hl4)); have HM4 := qa0 (HM3.out.later (jtwo hb4 hl4)); have HMv4 := qa0 (HMv3.out.later (jtwo hb4 hl4)); have HN4 := qa0 (hm.later hl4); have HNv4 := qa0 (Vf.new w4 24 #[.int .i64 R, .int .i64 C, .slice ns Z nd]); have k0 := HGv4.out.cell 0 (.slice xa G.ni p1) rfl; have k1 := HGv4.out.cell 1 (.slice ya G.nn q1) rfl; have k2 := HGv4.out.cell 2 (.slice za G.no s1) rfl; have l0 := HHv4.out.cell 0 (.slice xb H.ni p2) rfl; have l1 := HHv4.out.cell 1 (.slice yb H.nn q2) rfl; have l2 := HHv4.out.cell 2 (.slice zb H.no s2) rfl; clear hm hb4 hl4)
  | (go_at_call 13; refine (HSm.out _ xa ya za xb yb zb p1 q1 s1 p2 q2 s2 G H HG4.out HH4.out (HT.out G H HTG.out HTH.out)).mono ?_; rintro e w5 ⟨rfl, hb5⟩; have HB5 := qa0 (jtwo HB4.out hb5); have HM5 := qa0 (HM4.out.later hb5); have HMv5 := qa0 (HMv4.out.later hb5); have HN5 := qa0 (HN4.out.later hb5); have HNv5 := qa0 (HNv4.out.later hb5); have j0 := HMv5.out.cell 0 (.int .i64 R) rfl; have j1 := HMv5.out.cell 1 (.int .i64 C) rfl; have j2 := HMv5.out.cell 2 (.slice ms Z md) rfl; have o0 := HNv5.out.cell 0 (.int .i64 R) rfl; have o1 := HNv5.out.cell 1 (.int .i64 C) rfl; have o2 := HNv5.out.cell 2 (.slice ns Z nd) rfl; clear hb5)
  | (go_at_call 14; refine (HLk.out _ ms ns md nd HM5.out HN5.out).mono ?_; rintro e w6 ⟨rfl, hb6⟩; have HB6 := qa0 (jtwo HB5.out hb6); clear hb6))
 go_ret
 exact ⟨rfl, HB6.out⟩
end Go.Proofs.Ytkfnedpnkeacpaa
