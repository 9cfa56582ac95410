/-
  Stage 21: the law of Back.
-/
import Derived.Test.YtkfnedpnkeacpaaQbbck00
import Derived.Test.YtkfnedpnkeacpaaQbbck48
import Derived.Test.YtkfnedpnkeacpaaQbbck49
set_option maxRecDepth 100000
set_option maxHeartbeats 16000000
namespace Go.Proofs.Ytkfnedpnkeacpaa
open Go.RowKit
/-- G is the flow of a matrix. -/
def IsOf (r c : Nat) (D : Nat → Nat) (G : Fl) : Prop := ∃ m f, G = ofF r c D m f ∧ En (UsP r c D) c m f
def OfG (r c : Nat) (D : Nat → Nat) (w : World) (e : Ending) : Prop := ∃ (x : Option Addr) (p : Nat) (y : Option Addr) (q : Nat) (z : Option Addr) (s : Nat) (G : Fl), e = .returned (.tuple #[flv x G.ni p y G.nn q z G.no s, .int .i64 0]) ∧ FlR w x y z G ∧ IsOf r c D G
theorem fof_g (w : World) (r c n k : Nat) (a : Option Addr) (D : Nat → Nat) (ha : Mt w a n k D) (R : Rt r c n) :
  Calls Try.prog 9 #[mv r c a n k] w fun e w' => OfG r c D w' e ∧ Below w.heap.size w w' :=
 (fof_ok w r c n k a D ha R).mono fun e w' hh => by
  obtain ⟨x, p, y, q, z, s, m, f, rfl, hf, he, hb⟩ := hh
  exact ⟨⟨x, p, y, q, z, s, _, rfl, hf, m, f, rfl, he⟩, hb⟩
theorem IsOf.no {r c : Nat} {D : Nat → Nat} {G : Fl} (h : IsOf r c D G) : G.no = r := by obtain ⟨m, f, rfl, _⟩ := h; rfl
theorem IsOf.may {r c : Nat} {D : Nat → Nat} {G : Fl} (h : IsOf r c D G) (hr : r ≤ 64) (hc : c ≤ 64) : MayP G := by obtain ⟨m, f, rfl, he⟩ := h; exact qf9 hr hc he
theorem IsOf.inp {r c : Nat} {D : Nat → Nat} {G : Fl} (h : IsOf r c D G) : ∀ i, i < G.ni → G.inp i < (c : Int) := by
 obtain ⟨m, f, rfl, he⟩ := h
 exact fun i hi => by have := he.lt i hi; show (f i : Int) < (c : Int); omega
theorem IsOf.mat {r c : Nat} {D : Nat → Nat} {G : Fl} (h : IsOf r c D G) (hr : r ≤ 64) (hc : c ≤ 64) {i j : Nat} (hi : i < r) (hj : j < c) (hD : D (i * c + j) < 256) : vlx G unb (G.out i).toNat j = D (i * c + j) := by
 obtain ⟨m, f, rfl, he⟩ := h
 exact ofF_mat hr hc he hi hj hD
theorem IsOf.fc {r c : Nat} {D : Nat → Nat} {G : Fl} {w : World} {x y z : Option Addr} (_ : IsOf r c D G) (hf : FlR w x y z G) : ∀ v j, G.ni ≤ v → v < G.ni + G.nn → j < tn G v → G.fc (v - G.ni) j < 256 := fun _ _ h1 h2 h3 => hf.fc8 h1 h2 h3
/-- The empty flow. -/
def nilF : Fl := ⟨0, fun _ => 0, 0, fun _ => 0, fun _ _ => 0, fun _ _ => 0, 0, fun _ => 0⟩
theorem nilF_r (w : World) : FlR w none none none nilF := ⟨Nat.zero_le _, Nat.zero_le _, Nat.zero_le _, fun _ h => absurd h (Nat.not_lt_zero _), fun _ h => absurd h (Nat.not_lt_zero _), fun _ h => absurd h (Nat.not_lt_zero _)⟩
theorem qdo : MayP nilF := ⟨Nat.zero_le _, Nat.zero_le _, fun _ h => absurd h (Nat.not_lt_zero _), fun _ h => absurd h (Nat.not_lt_zero _), fun _ h => absurd h (Nat.not_lt_zero _)⟩
theorem qdp (w : World) (bl : Option Addr) (nb kb : Nat) (A : Nat → Option Addr) (L C : Nat → Nat) (bt : Nat → Nat → Nat) (hB : Bw w bl nb A L C bt) (hnb : nb ≤ 140737488351232) (hl : LenP nb L) :
  Calls Try.prog 16 #[flv none 0 0 none 0 0 none 0 0, .slice bl nb kb] w fun e w' => (∃ v, e = .returned (.tuple #[v, .int .i64 0])) ∧ Below w.heap.size w w' :=
 (qbx w none none none bl 0 0 0 nb kb nilF A L C bt (nilF_r w) qdo hB hnb).mono fun e w' hh => by
  obtain ⟨⟨_, v, rfl, _⟩ | ⟨hn, _⟩, hb⟩ := hh
  ·exact ⟨⟨v, rfl⟩, hb⟩
  ·exact absurd ⟨fun _ h => absurd h (Nat.not_lt_zero _), hl⟩ hn
theorem rnil_no (w : World) (bl : Option Addr) (nb kb : Nat) (A : Nat → Option Addr) (L C : Nat → Nat) (bt : Nat → Nat → Nat) (hB : Bw w bl nb A L C bt) (hnb : nb ≤ 140737488351232) (hl : ¬ LenP nb L) :
  Calls Try.prog 16 #[flv none 0 0 none 0 0 none 0 0, .slice bl nb kb] w fun e w' => e = .returned (.tuple #[.slice none 0 0, .int .i64 3]) ∧ Below w.heap.size w w' :=
 (qbx w none none none bl 0 0 0 nb kb nilF A L C bt (nilF_r w) qdo hB hnb).mono fun e w' hh => by
  obtain ⟨⟨hr, _⟩ | ⟨_, rfl⟩, hb⟩ := hh
  ·exact absurd hr.2 hl
  ·exact ⟨rfl, hb⟩
/-- What the reference's Apply of the matrix reads as. -/
theorem rapp_mat (w w0 : World) (r c n k kb : Nat) (a bl x y z : Option Addr) (D : Nat → Nat) (G : Fl) (A : Nat → Option Addr) (L C : Nat → Nat) (bt : Nat → Nat → Nat) (ha : Mt w a n k D) (R : Rt r c n) (hB : Bw w bl c A L C bt) (hl : LenP c L) (hG : IsOf r c D G) (hf : FlR w0 x y z G) :
  Calls Try.prog 20 #[mv r c a n k, .slice bl c kb] w fun e w' => (∃ s d A' C', e = .returned (.slice s r d) ∧ Rl w' s r A' (fun _ => len1 c L) C' (fun o => vlx G bt (G.out o).toNat)) ∧ Below w.heap.size w w' := by
 have hT : len1 c L ≤ 140737488351232 := by
  unfold len1
  split
  ·omega
  ·exact hB.len 0 (by omega)
 have hM := hG.may R.r64 R.c64
 have hfc := hG.fc hf
 have hval : ∀ o i, o < r → i < len1 c L → sx bt (fun j => D (o * c + j)) c i = vlx G bt (G.out o).toNat i := fun o i ho hi => by
  have hv : (G.out o).toNat < G.ni + G.nn := hM.outLt (by rw [hG.no]; exact ho)
  rw [vlx_lin hM hfc hG.inp (fun z hz => (hB.rl.sl z hz).1 i (by rw [hl.one z hz]; exact hi)) _ _ (Nat.lt_succ_self _) hv]
  exact qf5 bt i c fun j hj => (hG.mat R.r64 R.c64 ho hj (ha.sl.1 _ (R.at ho hj))).symm
 refine (rapp_ok w r c n k kb (len1 c L) a bl D A C bt ha R (hB.bl hl) hT (fun e => by unfold len1; rw [if_pos e])).mono ?_
 rintro e w' ⟨⟨v, rfl, hv⟩, hb⟩
 obtain ⟨s, d, rfl, _⟩ := hv.form
 obtain ⟨A', C', hr⟩ := hv.bw (fun o j ho hj => qcx c fun l hl2 => ha.sl.1 _ (R.at ho hl2))
 exact ⟨⟨s, d, A', C', rfl, hr.congr2 fun o i ho hi => hval o i ho hi⟩, hb⟩
theorem qcz (w : World) (r c n k : Nat) (a : Option Addr) (gn : Nat) (D : Nat → Nat) (G : Fl) (ha : Mt w a n k D) (R : Rt r c n) (hg : IsOf r c D G) (hr : RowAt w gn 5 n (mtf G c)) :
  Calls Try.prog 14 #[mv r c a n k, mv G.no c (some ⟨gn, 0, none⟩) n n] w fun e w' => e = .returned (.bool true) ∧ Below w.heap.size w w' := by
 have he : ∀ i, i < n → D i = mtf G c i := fun i hi => by
  have hc : 0 < c := Nat.pos_of_ne_zero fun e => by have := R.len; subst e; omega
  have h1 : i / c < r := Nat.div_lt_of_lt_mul (by rw [Nat.mul_comm, R.len]; exact hi)
  have h2 : i % c < c := Nat.mod_lt _ hc
  have h3 : i = (i / c) * c + i % c := by rw [Nat.mul_comm]; exact (Nat.div_add_mod i c).symm
  rw [show mtf G c i = mtf G c ((i / c) * c + i % c) by rw [← h3], mtf_at G h2, hg.mat R.r64 R.c64 h1 h2 (ha.sl.1 _ (by rw [← h3]; exact hi)), ← h3]
 have hr2 : RowAt w gn 5 n D := hr.congr fun i hi => (he i hi).symm
 rw [hg.no]
 exact like_ans w r c a (some ⟨gn, 0, none⟩) n k n D D ha (hr2.mt ha.sl.1) (fun _ _ => rfl)
theorem qe9 (w : World) (r c n k nb kb : Nat) (a bl : Option Addr) (D : Nat → Nat) (A : Nat → Option Addr) (L C : Nat → Nat) (bt : Nat → Nat → Nat) (ha : Mt w a n k D) (R : Rt r c n) (hB : Bw w bl nb A L C bt) (hnb : nb ≤ 140737488351232) (hl : ¬ LenP nb L) :
  Calls Try.prog 6 #[mv r c a n k, .slice bl nb kb] w fun e w' => e = .returned (.bool true) ∧ Below w.heap.size w w' := by
 have HB0 := qa0 (jlow w (.cells #[.int .i64 (r : Int), .int .i64 (c : Int), .slice a n k] 24))
 have HV0 := qa0 (Vf.new w 24 #[.int .i64 (r : Int), .int .i64 (c : Int), .slice a n k])
 have hr64 := R.r64
 have hc64 := R.c64
 have HOf := qa0 (fun w2 (hb : Below w.heap.size w w2) => fof_g w2 r c n k a D (ha.later hb) R)
 have HRg := qa0 (fun w2 => qbh w2 r c a n k R.p)
 have HMt := qa0 (fun w2 x y z d1 d2 d3 G (hf : FlR w2 x y z G) (hg : IsOf r c D G) => qcy w2 x y z d1 d2 d3 c n G hf (hg.may hr64 hc64) hg.inp hc64 (by rw [hg.no]; exact R.len))
 have HLk := qa0 (fun w2 (hb : Below w.heap.size w w2) gn G (hg : IsOf r c D G) (hr : RowAt w2 gn 5 n (mtf G c)) => qcz w2 r c n k a gn D G (ha.later hb) R hg hr)
 have HMy := qa0 (fun w2 x y z d1 d2 d3 G (hf : FlR w2 x y z G) (hg : IsOf r c D G) => qa7 (qb0 w2 x y z d1 d2 d3 G hf) (hg.may hr64 hc64))
 have HNl := qa0 (fun w2 (hb : Below w.heap.size w w2) => rnil_no w2 bl nb kb A L C bt (hB.later hb) hnb hl)
 have f0_0 := HV0.out.cell 0 (.int .i64 (r : Int)) rfl
 have f1_0 := HV0.out.cell 1 (.int .i64 (c : Int)) rfl
 have f2_0 := HV0.out.cell 2 (.slice a n k) rfl
 clear ha hB
 go_enter Try.func6, Try.ntmps6
 go_wp2_with (first
  | (go_at_call 9; refine (HOf.out _ HB0.out).mono ?_; rintro e w1 ⟨⟨x, d1, y, d2, z, d3, G, rfl, hf, ht⟩, hb1⟩; have hl1 := jlow w1 (.cells #[.slice x G.ni d1, .slice y G.nn d2, .slice z G.no d3] 28); have HB1 := qa0 (jtwo HB0.out (jtwo hb1 hl1)); have HV1 := qa0 (HV0.out.later (jtwo hb1 hl1)); have f0_1 := HV1.out.cell 0 (.int .i64 (r : Int)) rfl; have f1_1 := HV1.out.cell 1 (.int .i64 (c : Int)) rfl; have f2_1 := HV1.out.cell 2 (.slice a n k) rfl; have HX1 := qa0 (Vf.new w1 28 #[.slice x G.ni d1, .slice y G.nn d2, .slice z G.no d3]); have HG1 := qa0 (hf.later hl1); have HOG := qa0 ht; have t0_1 := HX1.out.cell 0 (.slice x G.ni d1) rfl; have t1_1 := HX1.out.cell 1 (.slice y G.nn d2) rfl; have t2_1 := HX1.out.cell 2 (.slice z G.no d3) rfl; clear hf ht hl1; clear f0_0 f1_0 f2_0 hb1)
  | (go_at_call 19; refine (HRg.out _).mono ?_; rintro e w2 ⟨rfl, hb2⟩; have HB2 := qa0 (jtwo HB1.out hb2); have HV2 := qa0 (HV1.out.later hb2); have HX2 := qa0 (HX1.out.later hb2); have HG2 := qa0 (HG1.out.later hb2); have f0_2 := HV2.out.cell 0 (.int .i64 (r : Int)) rfl; have f1_2 := HV2.out.cell 1 (.int .i64 (c : Int)) rfl; have f2_2 := HV2.out.cell 2 (.slice a n k) rfl; have t0_2 := HX2.out.cell 0 (.slice x G.ni d1) rfl; have t1_2 := HX2.out.cell 1 (.slice y G.nn d2) rfl; have t2_2 := HX2.out.cell 2 (.slice z G.no d3) rfl;  clear f0_1 f1_1 f2_1 t0_1 t1_1 t2_1 hb2)
  | (go_at_call 11; refine (HMt.out _ x y z d1 d2 d3 G HG2.out HOG.out).mono ?_; rintro e w3 ⟨⟨gn, rfl, hr, _⟩, hb3⟩; have hl3 := jlow w3 (.cells #[.int .i64 (G.no : Int), .int .i64 (c : Int), .slice (some ⟨gn, 0, none⟩) n n] 24); have HB3 := qa0 (jtwo HB2.out (jtwo hb3 hl3)); have HV3 := qa0 (HV2.out.later (jtwo hb3 hl3)); have HX3 := qa0 (HX2.out.later (jtwo hb3 hl3)); have HG3 := qa0 (HG2.out.later (jtwo hb3 hl3)); have f0_3 := HV3.out.cell 0 (.int .i64 (r : Int)) rfl; have f1_3 := HV3.out.cell 1 (.int .i64 (c : Int)) rfl; have f2_3 := HV3.out.cell 2 (.slice a n k) rfl; have t0_3 := HX3.out.cell 0 (.slice x G.ni d1) rfl; have t1_3 := HX3.out.cell 1 (.slice y G.nn d2) rfl; have t2_3 := HX3.out.cell 2 (.slice z G.no d3) rfl; have HY3 := qa0 (Vf.new w3 24 #[.int .i64 (G.no : Int), .int .i64 (c : Int), .slice (some ⟨gn, 0, none⟩) n n]); have HN3 := qa0 (hr.later hl3); have s0_3 := HY3.out.cell 0 (.int .i64 (G.no : Int)) rfl; have s1_3 := HY3.out.cell 1 (.int .i64 (c : Int)) rfl; have s2_3 := HY3.out.cell 2 (.slice (some ⟨gn, 0, none⟩) n n) rfl; clear hr hl3; clear f0_2 f1_2 f2_2 t0_2 t1_2 t2_2 hb3)
  | (go_at_call 14; refine (HLk.out _ HB3.out gn G HOG.out HN3.out).mono ?_; rintro e w4 ⟨rfl, hb4⟩; have HB4 := qa0 (jtwo HB3.out hb4); have HV4 := qa0 (HV3.out.later hb4); have HX4 := qa0 (HX3.out.later hb4); have HG4 := qa0 (HG3.out.later hb4); have HY4 := qa0 (HY3.out.later hb4); have HN4 := qa0 (HN3.out.later hb4); have f0_4 := HV4.out.cell 0 (.int .i64 (r : Int)) rfl; have f1_4 := HV4.out.cell 1 (.int .i64 (c : Int)) rfl; have f2_4 := HV4.out.cell 2 (.slice a n k) rfl; have t0_4 := HX4.out.cell 0 (.slice x G.ni d1) rfl; have t1_4 := HX4.out.cell 1 (.slice y G.nn d2) rfl; have t2_4 := HX4.out.cell 2 (.slice z G.no d3) rfl; have s0_4 := HY4.out.cell 0 (.int .i64 (G.no : Int)) rfl; have s1_4 := HY4.out.cell 1 (.int .i64 (c : Int)) rfl; have s2_4 := HY4.out.cell 2 (.slice (some ⟨gn, 0, none⟩) n n) rfl;  clear f0_3 f1_3 f2_3 t0_3 t1_3 t2_3 s0_3 s1_3 s2_3 hb4)
  | (go_at_call 21; refine (HMy.out _ x y z d1 d2 d3 G HG4.out HOG.out).mono ?_; rintro e w5 ⟨rfl, hb5⟩; have HB5 := qa0 (jtwo HB4.out hb5); have HV5 := qa0 (HV4.out.later hb5); have HX5 := qa0 (HX4.out.later hb5); have HG5 := qa0 (HG4.out.later hb5); have HY5 := qa0 (HY4.out.later hb5); have HN5 := qa0 (HN4.out.later hb5); have f0_5 := HV5.out.cell 0 (.int .i64 (r : Int)) rfl; have f1_5 := HV5.out.cell 1 (.int .i64 (c : Int)) rfl; have f2_5 := HV5.out.cell 2 (.slice a n k) rfl; have t0_5 := HX5.out.cell 0 (.slice x G.ni d1) rfl; have t1_5 := HX5.out.cell 1 (.slice y G.nn d2) rfl; have t2_5 := HX5.out.cell 2 (.slice z G.no d3) rfl; have s0_5 := HY5.out.cell 0 (.int .i64 (G.no : Int)) rfl; have s1_5 := HY5.out.cell 1 (.int .i64 (c : Int)) rfl; have s2_5 := HY5.out.cell 2 (.slice (some ⟨gn, 0, none⟩) n n) rfl;  clear f0_4 f1_4 f2_4 t0_4 t1_4 t2_4 s0_4 s1_4 s2_4 hb5)
  | (go_at_call 16; refine (HNl.out _ HB5.out).mono ?_; rintro e w6 ⟨rfl, hb6⟩; have HB6 := qa0 (jtwo HB5.out hb6); have HV6 := qa0 (HV5.out.later hb6); have HX6 := qa0 (HX5.out.later hb6); have HG6 := qa0 (HG5.out.later hb6); have HY6 := qa0 (HY5.out.later hb6); have HN6 := qa0 (HN5.out.later hb6); have f0_6 := HV6.out.cell 0 (.int .i64 (r : Int)) rfl; have f1_6 := HV6.out.cell 1 (.int .i64 (c : Int)) rfl; have f2_6 := HV6.out.cell 2 (.slice a n k) rfl; have t0_6 := HX6.out.cell 0 (.slice x G.ni d1) rfl; have t1_6 := HX6.out.cell 1 (.slice y G.nn d2) rfl; have t2_6 := HX6.out.cell 2 (.slice z G.no d3) rfl; have s0_6 := HY6.out.cell 0 (.int .i64 (G.no : Int)) rfl; have s1_6 := HY6.out.cell 1 (.int .i64 (c : Int)) rfl; have s2_6 := HY6.out.cell 2 (.slice (some ⟨gn, 0, none⟩) n n) rfl;  clear f0_5 f1_5 f2_5 t0_5 t1_5 t2_5 s0_5 s1_5 s2_5 hb6)
  | (go_at_call 18; refine (qdn _).mono ?_; rintro e w7 ⟨rfl, hb7⟩; have HB7 := qa0 (jtwo HB6.out hb7); clear hb7))
 go_ret
 exact ⟨rfl, HB7.out⟩
theorem qea (w : World) (r c n k nb kb : Nat) (a bl : Option Addr) (D : Nat → Nat) (A : Nat → Option Addr) (L C : Nat → Nat) (bt : Nat → Nat → Nat) (ha : Mt w a n k D) (R : Rt r c n) (hB : Bw w bl nb A L C bt) (hnb : nb ≤ 140737488351232) (hl : LenP nb L) (hne : ¬ nb = c) :
  Calls Try.prog 6 #[mv r c a n k, .slice bl nb kb] w fun e w' => e = .returned (.bool true) ∧ Below w.heap.size w w' := by
 have HB0 := qa0 (jlow w (.cells #[.int .i64 (r : Int), .int .i64 (c : Int), .slice a n k] 24))
 have HV0 := qa0 (Vf.new w 24 #[.int .i64 (r : Int), .int .i64 (c : Int), .slice a n k])
 have hr64 := R.r64
 have hc64 := R.c64
 have HOf := qa0 (fun w2 (hb : Below w.heap.size w w2) => fof_g w2 r c n k a D (ha.later hb) R)
 have HRg := qa0 (fun w2 => qbh w2 r c a n k R.p)
 have HMt := qa0 (fun w2 x y z d1 d2 d3 G (hf : FlR w2 x y z G) (hg : IsOf r c D G) => qcy w2 x y z d1 d2 d3 c n G hf (hg.may hr64 hc64) hg.inp hc64 (by rw [hg.no]; exact R.len))
 have HLk := qa0 (fun w2 (hb : Below w.heap.size w w2) gn G (hg : IsOf r c D G) (hr : RowAt w2 gn 5 n (mtf G c)) => qcz w2 r c n k a gn D G (ha.later hb) R hg hr)
 have HMy := qa0 (fun w2 x y z d1 d2 d3 G (hf : FlR w2 x y z G) (hg : IsOf r c D G) => qa7 (qb0 w2 x y z d1 d2 d3 G hf) (hg.may hr64 hc64))
 have HNl := qa0 (fun w2 (hb : Below w.heap.size w w2) => qdp w2 bl nb kb A L C bt (hB.later hb) hnb hl)
 have g1 : ¬ (nb : Int) = (c : Int) := by omega
 have g2 : ((nb : Int) != (c : Int)) = true := by simp; omega
 have f0_0 := HV0.out.cell 0 (.int .i64 (r : Int)) rfl
 have f1_0 := HV0.out.cell 1 (.int .i64 (c : Int)) rfl
 have f2_0 := HV0.out.cell 2 (.slice a n k) rfl
 clear ha hB
 go_enter Try.func6, Try.ntmps6
 go_wp2_with (first
  | (go_at_call 9; refine (HOf.out _ HB0.out).mono ?_; rintro e w1 ⟨⟨x, d1, y, d2, z, d3, G, rfl, hf, ht⟩, hb1⟩; have hl1 := jlow w1 (.cells #[.slice x G.ni d1, .slice y G.nn d2, .slice z G.no d3] 28); have HB1 := qa0 (jtwo HB0.out (jtwo hb1 hl1)); have HV1 := qa0 (HV0.out.later (jtwo hb1 hl1)); have f0_1 := HV1.out.cell 0 (.int .i64 (r : Int)) rfl; have f1_1 := HV1.out.cell 1 (.int .i64 (c : Int)) rfl; have f2_1 := HV1.out.cell 2 (.slice a n k) rfl; have HX1 := qa0 (Vf.new w1 28 #[.slice x G.ni d1, .slice y G.nn d2, .slice z G.no d3]); have HG1 := qa0 (hf.later hl1); have HOG := qa0 ht; have t0_1 := HX1.out.cell 0 (.slice x G.ni d1) rfl; have t1_1 := HX1.out.cell 1 (.slice y G.nn d2) rfl; have t2_1 := HX1.out.cell 2 (.slice z G.no d3) rfl; clear hf ht hl1; clear f0_0 f1_0 f2_0 hb1)
  | (go_at_call 19; refine (HRg.out _).mono ?_; rintro e w2 ⟨rfl, hb2⟩; have HB2 := qa0 (jtwo HB1.out hb2); have HV2 := qa0 (HV1.out.later hb2); have HX2 := qa0 (HX1.out.later hb2); have HG2 := qa0 (HG1.out.later hb2); have f0_2 := HV2.out.cell 0 (.int .i64 (r : Int)) rfl; have f1_2 := HV2.out.cell 1 (.int .i64 (c : Int)) rfl; have f2_2 := HV2.out.cell 2 (.slice a n k) rfl; have t0_2 := HX2.out.cell 0 (.slice x G.ni d1) rfl; have t1_2 := HX2.out.cell 1 (.slice y G.nn d2) rfl; have t2_2 := HX2.out.cell 2 (.slice z G.no d3) rfl;  clear f0_1 f1_1 f2_1 t0_1 t1_1 t2_1 hb2)
  | (go_at_call 11; refine (HMt.out _ x y z d1 d2 d3 G HG2.out HOG.out).mono ?_; rintro e w3 ⟨⟨gn, rfl, hr, _⟩, hb3⟩; have hl3 := jlow w3 (.cells #[.int .i64 (G.no : Int), .int .i64 (c : Int), .slice (some ⟨gn, 0, none⟩) n n] 24); have HB3 := qa0 (jtwo HB2.out (jtwo hb3 hl3)); have HV3 := qa0 (HV2.out.later (jtwo hb3 hl3)); have HX3 := qa0 (HX2.out.later (jtwo hb3 hl3)); have HG3 := qa0 (HG2.out.later (jtwo hb3 hl3)); have f0_3 := HV3.out.cell 0 (.int .i64 (r : Int)) rfl; have f1_3 := HV3.out.cell 1 (.int .i64 (c : Int)) rfl; have f2_3 := HV3.out.cell 2 (.slice a n k) rfl; have t0_3 := HX3.out.cell 0 (.slice x G.ni d1) rfl; have t1_3 := HX3.out.cell 1 (.slice y G.nn d2) rfl; have t2_3 := HX3.out.cell 2 (.slice z G.no d3) rfl; have HY3 := qa0 (Vf.new w3 24 #[.int .i64 (G.no : Int), .int .i64 (c : Int), .slice (some ⟨gn, 0, none⟩) n n]); have HN3 := qa0 (hr.later hl3); have s0_3 := HY3.out.cell 0 (.int .i64 (G.no : Int)) rfl; have s1_3 := HY3.out.cell 1 (.int .i64 (c : Int)) rfl; have s2_3 := HY3.out.cell 2 (.slice (some ⟨gn, 0, none⟩) n n) rfl; clear hr hl3; clear f0_2 f1_2 f2_2 t0_2 t1_2 t2_2 hb3)
  | (go_at_call 14; refine (HLk.out _ HB3.out gn G HOG.out HN3.out).mono ?_; rintro e w4 ⟨rfl, hb4⟩; have HB4 := qa0 (jtwo HB3.out hb4); have HV4 := qa0 (HV3.out.later hb4); have HX4 := qa0 (HX3.out.later hb4); have HG4 := qa0 (HG3.out.later hb4); have HY4 := qa0 (HY3.out.later hb4); have HN4 := qa0 (HN3.out.later hb4); have f0_4 := HV4.out.cell 0 (.int .i64 (r : Int)) rfl; have f1_4 := HV4.out.cell 1 (.int .i64 (c : Int)) rfl; have f2_4 := HV4.out.cell 2 (.slice a n k) rfl; have t0_4 := HX4.out.cell 0 (.slice x G.ni d1) rfl; have t1_4 := HX4.out.cell 1 (.slice y G.nn d2) rfl; have t2_4 := HX4.out.cell 2 (.slice z G.no d3) rfl; have s0_4 := HY4.out.cell 0 (.int .i64 (G.no : Int)) rfl; have s1_4 := HY4.out.cell 1 (.int .i64 (c : Int)) rfl; have s2_4 := HY4.out.cell 2 (.slice (some ⟨gn, 0, none⟩) n n) rfl;  clear f0_3 f1_3 f2_3 t0_3 t1_3 t2_3 s0_3 s1_3 s2_3 hb4)
  | (go_at_call 21; refine (HMy.out _ x y z d1 d2 d3 G HG4.out HOG.out).mono ?_; rintro e w5 ⟨rfl, hb5⟩; have HB5 := qa0 (jtwo HB4.out hb5); have HV5 := qa0 (HV4.out.later hb5); have HX5 := qa0 (HX4.out.later hb5); have HG5 := qa0 (HG4.out.later hb5); have HY5 := qa0 (HY4.out.later hb5); have HN5 := qa0 (HN4.out.later hb5); have f0_5 := HV5.out.cell 0 (.int .i64 (r : Int)) rfl; have f1_5 := HV5.out.cell 1 (.int .i64 (c : Int)) rfl; have f2_5 := HV5.out.cell 2 (.slice a n k) rfl; have t0_5 := HX5.out.cell 0 (.slice x G.ni d1) rfl; have t1_5 := HX5.out.cell 1 (.slice y G.nn d2) rfl; have t2_5 := HX5.out.cell 2 (.slice z G.no d3) rfl; have s0_5 := HY5.out.cell 0 (.int .i64 (G.no : Int)) rfl; have s1_5 := HY5.out.cell 1 (.int .i64 (c : Int)) rfl; have s2_5 := HY5.out.cell 2 (.slice (some ⟨gn, 0, none⟩) n n) rfl;  clear f0_4 f1_4 f2_4 t0_4 t1_4 t2_4 s0_4 s1_4 s2_4 hb5)
  | (go_at_call 16; refine (HNl.out _ HB5.out).mono ?_; rintro e w6 ⟨⟨v6, rfl⟩, hb6⟩; have HB6 := qa0 (jtwo HB5.out hb6); have HV6 := qa0 (HV5.out.later hb6); have HX6 := qa0 (HX5.out.later hb6); have HG6 := qa0 (HG5.out.later hb6); have HY6 := qa0 (HY5.out.later hb6); have HN6 := qa0 (HN5.out.later hb6); have f0_6 := HV6.out.cell 0 (.int .i64 (r : Int)) rfl; have f1_6 := HV6.out.cell 1 (.int .i64 (c : Int)) rfl; have f2_6 := HV6.out.cell 2 (.slice a n k) rfl; have t0_6 := HX6.out.cell 0 (.slice x G.ni d1) rfl; have t1_6 := HX6.out.cell 1 (.slice y G.nn d2) rfl; have t2_6 := HX6.out.cell 2 (.slice z G.no d3) rfl; have s0_6 := HY6.out.cell 0 (.int .i64 (G.no : Int)) rfl; have s1_6 := HY6.out.cell 1 (.int .i64 (c : Int)) rfl; have s2_6 := HY6.out.cell 2 (.slice (some ⟨gn, 0, none⟩) n n) rfl;  clear f0_5 f1_5 f2_5 t0_5 t1_5 t2_5 s0_5 s1_5 s2_5 hb6)
  | (go_at_call 18; refine (qdn _).mono ?_; rintro e w7 ⟨rfl, hb7⟩; have HB7 := qa0 (jtwo HB6.out hb7); clear hb7))
 go_ret
 exact ⟨rfl, HB7.out⟩
theorem of_run (w : World) (x y z bl : Option Addr) (d1 d2 d3 nb kb r : Nat) (D : Nat → Nat) (G : Fl) (A : Nat → Option Addr) (L C : Nat → Nat) (bt : Nat → Nat → Nat) (hf : FlR w x y z G) (hB : Bw w bl nb A L C bt) (hnb : nb ≤ 140737488351232) (hg : IsOf r nb D G) (hr : r ≤ 64) (hc : nb ≤ 64) (hl : LenP nb L) :
  Calls Try.prog 15 #[flv x G.ni d1 y G.nn d2 z G.no d3, .slice bl nb kb] w fun e w' => BkT w' r (len1 nb L) (fun o => vlx G bt (G.out o).toNat) 0 e ∧ Below w.heap.size w w' := by
 have := qf6 w x y z bl d1 d2 d3 nb kb G A L C bt hf hB hnb (hg.may hr hc) ⟨hg.inp, hl⟩
 rw [hg.no] at this
 rw [hg.no]
 exact this
theorem qd0 (w : World) (r n k nb kb : Nat) (a bl : Option Addr) (D : Nat → Nat) (A : Nat → Option Addr) (L C : Nat → Nat) (bt : Nat → Nat → Nat) (ha : Mt w a n k D) (R : Rt r nb n) (hB : Bw w bl nb A L C bt) (hnb : nb ≤ 140737488351232) (hl : LenP nb L) :
  Calls Try.prog 6 #[mv r nb a n k, .slice bl nb kb] w fun e w' => e = .returned (.bool true) ∧ Below w.heap.size w w' := by
 have HB0 := qa0 (jlow w (.cells #[.int .i64 (r : Int), .int .i64 (nb : Int), .slice a n k] 24))
 have HV0 := qa0 (Vf.new w 24 #[.int .i64 (r : Int), .int .i64 (nb : Int), .slice a n k])
 have hr64 := R.r64
 have hc64 := R.c64
 have HOf := qa0 (fun w2 (hb : Below w.heap.size w w2) => fof_g w2 r nb n k a D (ha.later hb) R)
 have HRg := qa0 (fun w2 => qbh w2 r nb a n k R.p)
 have HMt := qa0 (fun w2 x y z d1 d2 d3 G (hf : FlR w2 x y z G) (hg : IsOf r nb D G) => qcy w2 x y z d1 d2 d3 nb n G hf (hg.may hr64 hc64) hg.inp hc64 (by rw [hg.no]; exact R.len))
 have HLk := qa0 (fun w2 (hb : Below w.heap.size w w2) gn G (hg : IsOf r nb D G) (hr : RowAt w2 gn 5 n (mtf G nb)) => qcz w2 r nb n k a gn D G (ha.later hb) R hg hr)
 have HMy := qa0 (fun w2 x y z d1 d2 d3 G (hf : FlR w2 x y z G) (hg : IsOf r nb D G) => qa7 (qb0 w2 x y z d1 d2 d3 G hf) (hg.may hr64 hc64))
 have HNl := qa0 (fun w2 (hb : Below w.heap.size w w2) => qdp w2 bl nb kb A L C bt (hB.later hb) hnb hl)
 have HRu := qa0 (fun w2 (hb : Below w.heap.size w w2) x y z d1 d2 d3 G (hf : FlR w2 x y z G) (hg : IsOf r nb D G) => of_run w2 x y z bl d1 d2 d3 nb kb r D G A L C bt hf (hB.later hb) hnb hg hr64 hc64 hl)
 have HAp := qa0 (fun w2 (hb : Below w.heap.size w w2) w0 x y z G (hg : IsOf r nb D G) (hf : FlR w0 x y z G) => rapp_mat w2 w0 r nb n k kb a bl x y z D G A L C bt (ha.later hb) R (hB.later hb) hl hg hf)
 obtain ⟨T, HT⟩ : ∃ t, Hid (len1 nb L = t) := ⟨_, rfl⟩
 rw [HT.out] at HRu HAp
 have f0_0 := HV0.out.cell 0 (.int .i64 (r : Int)) rfl
 have f1_0 := HV0.out.cell 1 (.int .i64 (nb : Int)) rfl
 have f2_0 := HV0.out.cell 2 (.slice a n k) rfl
 clear ha hB
 go_enter Try.func6, Try.ntmps6
 go_wp2_with (first
  | (go_at_call 9; refine (HOf.out _ HB0.out).mono ?_; rintro e w1 ⟨⟨x, d1, y, d2, z, d3, G, rfl, hf, ht⟩, hb1⟩; have hl1 := jlow w1 (.cells #[.slice x G.ni d1, .slice y G.nn d2, .slice z G.no d3] 28); have HB1 := qa0 (jtwo HB0.out (jtwo hb1 hl1)); have HV1 := qa0 (HV0.out.later (jtwo hb1 hl1)); have f0_1 := HV1.out.cell 0 (.int .i64 (r : Int)) rfl; have f1_1 := HV1.out.cell 1 (.int .i64 (nb : Int)) rfl; have f2_1 := HV1.out.cell 2 (.slice a n k) rfl; have HX1 := qa0 (Vf.new w1 28 #[.slice x G.ni d1, .slice y G.nn d2, .slice z G.no d3]); have HG1 := qa0 (hf.later hl1); have HOG := qa0 ht; have t0_1 := HX1.out.cell 0 (.slice x G.ni d1) rfl; have t1_1 := HX1.out.cell 1 (.slice y G.nn d2) rfl; have t2_1 := HX1.out.cell 2 (.slice z G.no d3) rfl; clear hf ht hl1; clear f0_0 f1_0 f2_0 hb1)
  | (go_at_call 19; refine (HRg.out _).mono ?_; rintro e w2 ⟨rfl, hb2⟩; have HB2 := qa0 (jtwo HB1.out hb2); have HV2 := qa0 (HV1.out.later hb2); have HX2 := qa0 (HX1.out.later hb2); have HG2 := qa0 (HG1.out.later hb2); have f0_2 := HV2.out.cell 0 (.int .i64 (r : Int)) rfl; have f1_2 := HV2.out.cell 1 (.int .i64 (nb : Int)) rfl; have f2_2 := HV2.out.cell 2 (.slice a n k) rfl; have t0_2 := HX2.out.cell 0 (.slice x G.ni d1) rfl; have t1_2 := HX2.out.cell 1 (.slice y G.nn d2) rfl; have t2_2 := HX2.out.cell 2 (.slice z G.no d3) rfl;  clear f0_1 f1_1 f2_1 t0_1 t1_1 t2_1 hb2)
  | (go_at_call 11; refine (HMt.out _ x y z d1 d2 d3 G HG2.out HOG.out).mono ?_; rintro e w3 ⟨⟨gn, rfl, hr, _⟩, hb3⟩; have hl3 := jlow w3 (.cells #[.int .i64 (G.no : Int), .int .i64 (nb : Int), .slice (some ⟨gn, 0, none⟩) n n] 24); have HB3 := qa0 (jtwo HB2.out (jtwo hb3 hl3)); have HV3 := qa0 (HV2.out.later (jtwo hb3 hl3)); have HX3 := qa0 (HX2.out.later (jtwo hb3 hl3)); have HG3 := qa0 (HG2.out.later (jtwo hb3 hl3)); have f0_3 := HV3.out.cell 0 (.int .i64 (r : Int)) rfl; have f1_3 := HV3.out.cell 1 (.int .i64 (nb : Int)) rfl; have f2_3 := HV3.out.cell 2 (.slice a n k) rfl; have t0_3 := HX3.out.cell 0 (.slice x G.ni d1) rfl; have t1_3 := HX3.out.cell 1 (.slice y G.nn d2) rfl; have t2_3 := HX3.out.cell 2 (.slice z G.no d3) rfl; have HY3 := qa0 (Vf.new w3 24 #[.int .i64 (G.no : Int), .int .i64 (nb : Int), .slice (some ⟨gn, 0, none⟩) n n]); have HN3 := qa0 (hr.later hl3); have s0_3 := HY3.out.cell 0 (.int .i64 (G.no : Int)) rfl; have s1_3 := HY3.out.cell 1 (.int .i64 (nb : Int)) rfl; have s2_3 := HY3.out.cell 2 (.slice (some ⟨gn, 0, none⟩) n n) rfl; clear hr hl3; clear f0_2 f1_2 f2_2 t0_2 t1_2 t2_2 hb3)
  | (go_at_call 14; refine (HLk.out _ HB3.out gn G HOG.out HN3.out).mono ?_; rintro e w4 ⟨rfl, hb4⟩; have HB4 := qa0 (jtwo HB3.out hb4); have HV4 := qa0 (HV3.out.later hb4); have HX4 := qa0 (HX3.out.later hb4); have HG4 := qa0 (HG3.out.later hb4); have HY4 := qa0 (HY3.out.later hb4); have HN4 := qa0 (HN3.out.later hb4); have f0_4 := HV4.out.cell 0 (.int .i64 (r : Int)) rfl; have f1_4 := HV4.out.cell 1 (.int .i64 (nb : Int)) rfl; have f2_4 := HV4.out.cell 2 (.slice a n k) rfl; have t0_4 := HX4.out.cell 0 (.slice x G.ni d1) rfl; have t1_4 := HX4.out.cell 1 (.slice y G.nn d2) rfl; have t2_4 := HX4.out.cell 2 (.slice z G.no d3) rfl; have s0_4 := HY4.out.cell 0 (.int .i64 (G.no : Int)) rfl; have s1_4 := HY4.out.cell 1 (.int .i64 (nb : Int)) rfl; have s2_4 := HY4.out.cell 2 (.slice (some ⟨gn, 0, none⟩) n n) rfl;  clear f0_3 f1_3 f2_3 t0_3 t1_3 t2_3 s0_3 s1_3 s2_3 hb4)
  | (go_at_call 21; refine (HMy.out _ x y z d1 d2 d3 G HG4.out HOG.out).mono ?_; rintro e w5 ⟨rfl, hb5⟩; have HB5 := qa0 (jtwo HB4.out hb5); have HV5 := qa0 (HV4.out.later hb5); have HX5 := qa0 (HX4.out.later hb5); have HG5 := qa0 (HG4.out.later hb5); have HY5 := qa0 (HY4.out.later hb5); have HN5 := qa0 (HN4.out.later hb5); have f0_5 := HV5.out.cell 0 (.int .i64 (r : Int)) rfl; have f1_5 := HV5.out.cell 1 (.int .i64 (nb : Int)) rfl; have f2_5 := HV5.out.cell 2 (.slice a n k) rfl; have t0_5 := HX5.out.cell 0 (.slice x G.ni d1) rfl; have t1_5 := HX5.out.cell 1 (.slice y G.nn d2) rfl; have t2_5 := HX5.out.cell 2 (.slice z G.no d3) rfl; have s0_5 := HY5.out.cell 0 (.int .i64 (G.no : Int)) rfl; have s1_5 := HY5.out.cell 1 (.int .i64 (nb : Int)) rfl; have s2_5 := HY5.out.cell 2 (.slice (some ⟨gn, 0, none⟩) n n) rfl;  clear f0_4 f1_4 f2_4 t0_4 t1_4 t2_4 s0_4 s1_4 s2_4 hb5)
  | (go_at_call 16; refine (HNl.out _ HB5.out).mono ?_; rintro e w6 ⟨⟨v6, rfl⟩, hb6⟩; have HB6 := qa0 (jtwo HB5.out hb6); have HV6 := qa0 (HV5.out.later hb6); have HX6 := qa0 (HX5.out.later hb6); have HG6 := qa0 (HG5.out.later hb6); have HY6 := qa0 (HY5.out.later hb6); have HN6 := qa0 (HN5.out.later hb6); have f0_6 := HV6.out.cell 0 (.int .i64 (r : Int)) rfl; have f1_6 := HV6.out.cell 1 (.int .i64 (nb : Int)) rfl; have f2_6 := HV6.out.cell 2 (.slice a n k) rfl; have t0_6 := HX6.out.cell 0 (.slice x G.ni d1) rfl; have t1_6 := HX6.out.cell 1 (.slice y G.nn d2) rfl; have t2_6 := HX6.out.cell 2 (.slice z G.no d3) rfl; have s0_6 := HY6.out.cell 0 (.int .i64 (G.no : Int)) rfl; have s1_6 := HY6.out.cell 1 (.int .i64 (nb : Int)) rfl; have s2_6 := HY6.out.cell 2 (.slice (some ⟨gn, 0, none⟩) n n) rfl;  clear f0_5 f1_5 f2_5 t0_5 t1_5 t2_5 s0_5 s1_5 s2_5 hb6)
  | (go_at_call 15; refine (HRu.out _ HB6.out x y z d1 d2 d3 G HG6.out HOG.out).mono ?_; rintro e w7 ⟨⟨s1, e1, A1, C1, rfl, hr1⟩, hb7⟩; have HB7 := qa0 (jtwo HB6.out hb7); have HV7 := qa0 (HV6.out.later hb7); have HX7 := qa0 (HX6.out.later hb7); have HG7 := qa0 (HG6.out.later hb7); have HY7 := qa0 (HY6.out.later hb7); have HN7 := qa0 (HN6.out.later hb7); have f0_7 := HV7.out.cell 0 (.int .i64 (r : Int)) rfl; have f1_7 := HV7.out.cell 1 (.int .i64 (nb : Int)) rfl; have f2_7 := HV7.out.cell 2 (.slice a n k) rfl; have t0_7 := HX7.out.cell 0 (.slice x G.ni d1) rfl; have t1_7 := HX7.out.cell 1 (.slice y G.nn d2) rfl; have t2_7 := HX7.out.cell 2 (.slice z G.no d3) rfl; have s0_7 := HY7.out.cell 0 (.int .i64 (G.no : Int)) rfl; have s1_7 := HY7.out.cell 1 (.int .i64 (nb : Int)) rfl; have s2_7 := HY7.out.cell 2 (.slice (some ⟨gn, 0, none⟩) n n) rfl; have HP7 := qa0 hr1; clear hr1; clear f0_6 f1_6 f2_6 t0_6 t1_6 t2_6 s0_6 s1_6 s2_6 hb7)
  | (go_at_call 18; refine (qdn _).mono ?_; rintro e w8 ⟨rfl, hb8⟩; have HB8 := qa0 (jtwo HB7.out hb8); have HV8 := qa0 (HV7.out.later hb8); have HX8 := qa0 (HX7.out.later hb8); have HG8 := qa0 (HG7.out.later hb8); have HY8 := qa0 (HY7.out.later hb8); have HN8 := qa0 (HN7.out.later hb8); have f0_8 := HV8.out.cell 0 (.int .i64 (r : Int)) rfl; have f1_8 := HV8.out.cell 1 (.int .i64 (nb : Int)) rfl; have f2_8 := HV8.out.cell 2 (.slice a n k) rfl; have t0_8 := HX8.out.cell 0 (.slice x G.ni d1) rfl; have t1_8 := HX8.out.cell 1 (.slice y G.nn d2) rfl; have t2_8 := HX8.out.cell 2 (.slice z G.no d3) rfl; have s0_8 := HY8.out.cell 0 (.int .i64 (G.no : Int)) rfl; have s1_8 := HY8.out.cell 1 (.int .i64 (nb : Int)) rfl; have s2_8 := HY8.out.cell 2 (.slice (some ⟨gn, 0, none⟩) n n) rfl; have HP8 := qa0 (HP7.out.later hb8); clear f0_7 f1_7 f2_7 t0_7 t1_7 t2_7 s0_7 s1_7 s2_7 hb8)
  | (go_at_call 20; refine (HAp.out _ HB8.out _ x y z G HOG.out HG8.out).mono ?_; rintro e w9 ⟨⟨s9, e9, A9, C9, rfl, hr9⟩, hb9⟩; have HQ9 := qa0 hr9; have HB9 := qa0 (jtwo HB8.out hb9); have HP9 := qa0 (HP8.out.later hb9); clear hb9 hr9)
  | (go_at_call 17; refine (qf3 w9 s1 s9 r e1 e9 A1 A9 (fun _ => T) C1 C9 _ HP9.out HQ9.out (by omega)).mono ?_; rintro e w10 ⟨rfl, hb10⟩; have HB10 := qa0 (jtwo HB9.out hb10); clear hb10))
 go_ret
 exact ⟨rfl, HB10.out⟩
theorem qeb (w : World) (r c : Int) (n k nb kb : Nat) (a bl : Option Addr) (hR : ¬ RightP r c n) :
  Calls Try.prog 6 #[mv r c a n k, .slice bl nb kb] w fun e w' => e = .returned (.bool true) ∧ Below w.heap.size w w' := by
 have HB0 := qa0 (jlow w (.cells #[.int .i64 r, .int .i64 c, .slice a n k] 24))
 have HV0 := qa0 (Vf.new w 24 #[.int .i64 r, .int .i64 c, .slice a n k])
 have HOf := qa0 (fun w2 => fof_bad w2 r c n k a hR)
 have HRg := qa0 (fun w2 => right_no w2 r c a n k hR)
 have f0_0 := HV0.out.cell 0 (.int .i64 r) rfl
 have f1_0 := HV0.out.cell 1 (.int .i64 c) rfl
 have f2_0 := HV0.out.cell 2 (.slice a n k) rfl
 clear hR
 go_enter Try.func6, Try.ntmps6
 go_wp2_with (first
  | (go_at_call 9; refine (HOf.out _).mono ?_; rintro e w1 ⟨rfl, hb1⟩; have hl1 := jlow w1 (.cells #[.slice none 0 0, .slice none 0 0, .slice none 0 0] 28); have HB1 := qa0 (jtwo HB0.out (jtwo hb1 hl1)); have HV1 := qa0 (HV0.out.later (jtwo hb1 hl1)); have f0_1 := HV1.out.cell 0 (.int .i64 r) rfl; have f1_1 := HV1.out.cell 1 (.int .i64 c) rfl; have f2_1 := HV1.out.cell 2 (.slice a n k) rfl; clear f0_0 f1_0 f2_0 hb1 hl1)
  | (go_at_call 19; refine (HRg.out _).mono ?_; rintro e w2 ⟨rfl, hb2⟩; have HB2 := qa0 (jtwo HB1.out hb2); clear hb2)
  | (go_at_call 18; refine (qdn _).mono ?_; rintro e w3 ⟨rfl, hb3⟩; have HB3 := qa0 (jtwo HB2.out hb3); clear hb3))
 go_ret
 exact ⟨rfl, HB3.out⟩
theorem fback21 (w : World) (r c : Int) (n k nb kb : Nat) (a bl : Option Addr) (D : Nat → Nat) (A : Nat → Option Addr) (L C : Nat → Nat) (bt : Nat → Nat → Nat) (ha : Mt w a n k D) (hB : Bw w bl nb A L C bt) (hnb : nb ≤ 140737488351232) :
    Calls Try.prog 6 #[mv r c a n k, .slice bl nb kb] w fun e w' => e = .returned (.bool true) ∧ Below w.heap.size w w' := by
  by_cases hR : RightP r c n
  · obtain ⟨h1, h2, h3, h4, h5⟩ := hR
    obtain ⟨r', rfl⟩ := Int.eq_ofNat_of_zero_le h1
    obtain ⟨c', rfl⟩ := Int.eq_ofNat_of_zero_le h3
    have R : Rt r' c' n := ⟨by omega, by omega, by have : ((r' * c' : Nat) : Int) = (n : Int) := by rw [h5]; simp
                                                   omega⟩
    by_cases hl : LenP nb L
    · by_cases he : nb = c'
      · subst he
        exact qd0 w r' n k nb kb a bl D A L C bt ha R hB hnb hl
      · exact qea w r' c' n k nb kb a bl D A L C bt ha R hB hnb hl he
    · exact qe9 w r' c' n k nb kb a bl D A L C bt ha R hB hnb hl
  · exact qeb w r c n k nb kb a bl hR
end Go.Proofs.Ytkfnedpnkeacpaa
