/-
  Stage 12: Put, of the program.
-/
import Derived.Test.YtgmndjbicandfaaDoorQnnes00
import Derived.Test.YtgmndjbicandfaaDoorQnnes27
set_option maxRecDepth 100000
set_option maxHeartbeats 16000000
namespace Go.Proofs.YtgmndjbicandfaaDoor
open Go.RowKit
/-- What Put answers. -/
def PutA (w' : World) (X Y : Xt) (s : ByteArray) (v : Value) (E : Nat) : Prop :=
 (E = 2 ∧ (mayX X && (mayX Y && isN s)) = false ∧ v = .agg #[.int .u8 0, .int .i64 0, .string ⟨#[]⟩, .slice none 0 0, .int .i64 0, .int .i64 0]) ∨ (E = 4 ∧ (mayX X && (mayX Y && isN s)) = true ∧ mayX (xput s Y X) = false ∧ v = .agg #[.int .u8 0, .int .i64 0, .string ⟨#[]⟩, .slice none 0 0, .int .i64 0, .int .i64 0]) ∨ (E = 0 ∧ (mayX X && (mayX Y && isN s)) = true ∧ mayX (xput s Y X) = true ∧ XV w' v (xput s Y X))
theorem put_any (w : World) (X Y : Xt) (v y : Value) (s : ByteArray) (hX : XV w v X) (hY : XV w y Y) (hs : s.size ≤ 140737488351232) (hw : Wt9 w) :
  Calls Tryd.prog 12 #[v, .string s, y] w fun e w' => (∃ v' E, e = .returned (.tuple #[v', .int .i64 ((E : Nat) : Int)]) ∧ PutA w' X Y s v' E) ∧ Below w.heap.size w w' := by
 unfold PutA
 have HM1 : Hid (∀ w' : World, Below w.heap.size w w' → Calls Tryd.prog 23 #[v] w' fun e w'' => e = .returned (.bool (mayX X)) ∧ Below w'.heap.size w' w'') := fun w' hb => tmayx w' X v (hX.later hb) (hw.later hb)
 have HM2 : Hid (∀ w' : World, Below w.heap.size w w' → Calls Tryd.prog 23 #[y] w' fun e w'' => e = .returned (.bool (mayX Y)) ∧ Below w'.heap.size w' w'') := fun w' hb => tmayx w' Y y (hY.later hb) (hw.later hb)
 have HNm : Hid (∀ w' : World, Below w.heap.size w w' → Calls Tryd.prog 30 #[.string s] w' fun e w'' => e = .returned (.bool (isN s)) ∧ Below w'.heap.size w' w'') := fun w' hb => qd0 w' s hs (hw.later hb)
 have HRp0 : Hid (∀ w' : World, mayX X = true → Below w.heap.size w w' → Calls Tryd.prog 31 #[v, .string s, y] w' fun e w'' => (∃ v', e = .returned v' ∧ StX w.heap.size w'.heap.size w'' v' (xput s Y X)) ∧ Below w'.heap.size w' w'') := fun w' hm hb => rep_any s w y Y hY 16 w' X v hX (qai hm) hb
 have HM3 : Hid (∀ (w' : World) (v' : Value), Below w.heap.size w w' → XV w' v' (xput s Y X) → Calls Tryd.prog 23 #[v'] w' fun e w'' => e = .returned (.bool (mayX (xput s Y X))) ∧ Below w'.heap.size w' w'') := fun w' v' hb hv => tmayx w' _ v' hv (hw.later hb)
 have HCp0 : Hid (∀ (w' : World) (v' : Value), mayX (xput s Y X) = true → XV w' v' (xput s Y X) → Calls Tryd.prog 32 #[v'] w' fun e w'' => (∃ v'', e = .returned v'' ∧ StX 0 w'.heap.size w'' v'' (xput s Y X)) ∧ Below w'.heap.size w' w'') := fun w' v' hm hv => cop_any 16 w' w' _ v' hv (qai hm) (Below.refl _ _)
 obtain ⟨⟨a, cap, rfl, _⟩, _⟩ := hX
 obtain ⟨⟨ya, ycap, rfl, _⟩, _⟩ := hY
 clear hw
 generalize xput s Y X = Z at *
 generalize mayX X = mx at *
 generalize mayX Y = my at *
 generalize isN s = ms at *
 generalize X [] = l at *
 obtain ⟨k, n, nm, len, ln, cl⟩ := l
 generalize Y [] = l2 at *
 obtain ⟨yk, yn, ynm, ylen, yln, ycl⟩ := l2
 dsimp only at HM1 HM2 HRp0 ⊢
 have H1 := qa0 (Vn.new w 25 #[.int .u8 (k : Int), .int .i64 n, .string nm, .slice a len cap, .int .i64 ln, .int .i64 cl])
 have H2 := qa0 (Vn.new (w.alloc (.cells #[.int .u8 (k : Int), .int .i64 n, .string nm, .slice a len cap, .int .i64 ln, .int .i64 cl] 25)) 25 #[.int .u8 (yk : Int), .int .i64 yn, .string ynm, .slice ya ylen ycap, .int .i64 yln, .int .i64 ycl])
 have HV := qa0 (Vn.new ((w.alloc (.cells #[.int .u8 (k : Int), .int .i64 n, .string nm, .slice a len cap, .int .i64 ln, .int .i64 cl] 25)).alloc (.cells #[.int .u8 (yk : Int), .int .i64 yn, .string ynm, .slice ya ylen ycap, .int .i64 yln, .int .i64 ycl] 25)) 25 #[.int .u8 0, .int .i64 0, .string ⟨#[]⟩, .slice none 0 0, .int .i64 0, .int .i64 0])
 have B1 := qa0 (jlow w (.cells #[.int .u8 (k : Int), .int .i64 n, .string nm, .slice a len cap, .int .i64 ln, .int .i64 cl] 25))
 have B2 := qa0 (jtwo B1.out (jlow _ (.cells #[.int .u8 (yk : Int), .int .i64 yn, .string ynm, .slice ya ylen ycap, .int .i64 yln, .int .i64 ycl] 25)))
 have HB := qa0 (jtwo B2.out (jlow _ (.cells #[.int .u8 0, .int .i64 0, .string ⟨#[]⟩, .slice none 0 0, .int .i64 0, .int .i64 0] 25)))
 have HX := qa0 ((H1.out.later (jlow _ (.cells #[.int .u8 (yk : Int), .int .i64 yn, .string ynm, .slice ya ylen ycap, .int .i64 yln, .int .i64 ycl] 25))).later (jlow _ (.cells #[.int .u8 0, .int .i64 0, .string ⟨#[]⟩, .slice none 0 0, .int .i64 0, .int .i64 0] 25)))
 have HY := qa0 (H2.out.later (jlow _ (.cells #[.int .u8 0, .int .i64 0, .string ⟨#[]⟩, .slice none 0 0, .int .i64 0, .int .i64 0] 25)))
 rw [qa2] at HY
 rw [qa2, qa2] at HV
 clear H1 H2 B1 B2
 have c0 := HX.out.cell 0 _ rfl
 have c1 := HX.out.cell 1 _ rfl
 have c2 := HX.out.cell 2 _ rfl
 have c3 := HX.out.cell 3 _ rfl
 have c4 := HX.out.cell 4 _ rfl
 have c5 := HX.out.cell 5 _ rfl
 have M1 : True := trivial
 have M2 : True := trivial
 have M3 : True := trivial
 have M5 : True := trivial
 have M8 : True := trivial
 have hVl := HV.out.lt
 cases mx with
 | false =>
  go_enter Tryd.func12, Tryd.ntmps12
  go_wp2_with (first
   | (go_at_call 23; clear M1; refine (HM1.out _ HB.out).mono ?_; rintro e w1 ⟨rfl, hb1⟩; have HB1 := qa0 (jtwo HB.out hb1); have HV1 := qa0 (HV.out.later hb1); have HX1 := qa0 (HX.out.later hb1); have HY1 := qa0 (HY.out.later hb1); have f0 := HY1.out.cell 0 _ rfl; have f1 := HY1.out.cell 1 _ rfl; have f2 := HY1.out.cell 2 _ rfl; have f3 := HY1.out.cell 3 _ rfl; have f4 := HY1.out.cell 4 _ rfl; have f5 := HY1.out.cell 5 _ rfl; clear hb1)
   | (clear M8; refine qa1 rfl 25 _ _ rfl (w.heap.size + 1 + 1) _ #[.int .u8 0, .int .i64 0, .string ⟨#[]⟩, .slice none 0 0, .int .i64 0, .int .i64 0] rfl rfl HV1.out sizeX rfl (all6 rfl rfl rfl rfl rfl rfl) ?_; intro w8 HV8 hg8))
  have d0 := HV8.out.cell 0 _ rfl
  have d1 := HV8.out.cell 1 _ rfl
  have d2 := HV8.out.cell 2 _ rfl
  have d3 := HV8.out.cell 3 _ rfl
  have d4 := HV8.out.cell 4 _ rfl
  have d5 := HV8.out.cell 5 _ rfl
  refine bodyPost_ret (v := .tuple #[.agg #[.int .u8 0, .int .i64 0, .string ⟨#[]⟩, .slice none 0 0, .int .i64 0, .int .i64 0], .int .i64 2]) (by simp [results, Tryd.results12, go_sem, d0, d1, d2, d3, d4, d5]) rfl ?_
  exact ⟨⟨_, 2, rfl, .inl ⟨rfl, rfl, rfl⟩⟩, HB1.out.trans (jbelow hg8.out HB1.out.size (fun g e => by cases e; omega))⟩
 | true =>
  cases my with
  | false =>
   go_enter Tryd.func12, Tryd.ntmps12
   go_wp2_with (first
    | (go_at_call 23; clear M1; refine (HM1.out _ HB.out).mono ?_; rintro e w1 ⟨rfl, hb1⟩; have HB1 := qa0 (jtwo HB.out hb1); have HV1 := qa0 (HV.out.later hb1); have HX1 := qa0 (HX.out.later hb1); have HY1 := qa0 (HY.out.later hb1); have f0 := HY1.out.cell 0 _ rfl; have f1 := HY1.out.cell 1 _ rfl; have f2 := HY1.out.cell 2 _ rfl; have f3 := HY1.out.cell 3 _ rfl; have f4 := HY1.out.cell 4 _ rfl; have f5 := HY1.out.cell 5 _ rfl; clear hb1)
    | (go_at_call 23; clear M2; refine (HM2.out _ HB1.out).mono ?_; rintro e w2 ⟨rfl, hb2⟩; have HB2 := qa0 (jtwo HB1.out hb2); have HV2 := qa0 (HV1.out.later hb2); have HX2 := qa0 (HX1.out.later hb2); have HY2 := qa0 (HY1.out.later hb2); clear hb2)
    | (clear M8; refine qa1 rfl 25 _ _ rfl (w.heap.size + 1 + 1) _ #[.int .u8 0, .int .i64 0, .string ⟨#[]⟩, .slice none 0 0, .int .i64 0, .int .i64 0] rfl rfl HV2.out sizeX rfl (all6 rfl rfl rfl rfl rfl rfl) ?_; intro w8 HV8 hg8))
   have d0 := HV8.out.cell 0 _ rfl
   have d1 := HV8.out.cell 1 _ rfl
   have d2 := HV8.out.cell 2 _ rfl
   have d3 := HV8.out.cell 3 _ rfl
   have d4 := HV8.out.cell 4 _ rfl
   have d5 := HV8.out.cell 5 _ rfl
   refine bodyPost_ret (v := .tuple #[.agg #[.int .u8 0, .int .i64 0, .string ⟨#[]⟩, .slice none 0 0, .int .i64 0, .int .i64 0], .int .i64 2]) (by simp [results, Tryd.results12, go_sem, d0, d1, d2, d3, d4, d5]) rfl ?_
   exact ⟨⟨_, 2, rfl, .inl ⟨rfl, rfl, rfl⟩⟩, HB2.out.trans (jbelow hg8.out HB2.out.size (fun g e => by cases e; omega))⟩
  | true =>
   cases ms with
   | false =>
    go_enter Tryd.func12, Tryd.ntmps12
    go_wp2_with (first
     | (go_at_call 23; clear M1; refine (HM1.out _ HB.out).mono ?_; rintro e w1 ⟨rfl, hb1⟩; have HB1 := qa0 (jtwo HB.out hb1); have HV1 := qa0 (HV.out.later hb1); have HX1 := qa0 (HX.out.later hb1); have HY1 := qa0 (HY.out.later hb1); have f0 := HY1.out.cell 0 _ rfl; have f1 := HY1.out.cell 1 _ rfl; have f2 := HY1.out.cell 2 _ rfl; have f3 := HY1.out.cell 3 _ rfl; have f4 := HY1.out.cell 4 _ rfl; have f5 := HY1.out.cell 5 _ rfl; clear hb1)
     | (go_at_call 23; clear M2; refine (HM2.out _ HB1.out).mono ?_; rintro e w2 ⟨rfl, hb2⟩; have HB2 := qa0 (jtwo HB1.out hb2); have HV2 := qa0 (HV1.out.later hb2); have HX2 := qa0 (HX1.out.later hb2); have HY2 := qa0 (HY1.out.later hb2); clear hb2)
     | (go_at_call 30; refine (HNm.out _ HB2.out).mono ?_; rintro e w3 ⟨rfl, hb3⟩; have HB3 := qa0 (jtwo HB2.out hb3); have HV3 := qa0 (HV2.out.later hb3); have HX3 := qa0 (HX2.out.later hb3); have HY3 := qa0 (HY2.out.later hb3); have g0 := HX3.out.cell 0 _ rfl; have g1 := HX3.out.cell 1 _ rfl; have g2 := HX3.out.cell 2 _ rfl; have g3 := HX3.out.cell 3 _ rfl; have g4 := HX3.out.cell 4 _ rfl; have g5 := HX3.out.cell 5 _ rfl; have h0 := HY3.out.cell 0 _ rfl; have h1 := HY3.out.cell 1 _ rfl; have h2 := HY3.out.cell 2 _ rfl; have h3 := HY3.out.cell 3 _ rfl; have h4 := HY3.out.cell 4 _ rfl; have h5 := HY3.out.cell 5 _ rfl; clear hb3)
     | (clear M8; refine qa1 rfl 25 _ _ rfl (w.heap.size + 1 + 1) _ #[.int .u8 0, .int .i64 0, .string ⟨#[]⟩, .slice none 0 0, .int .i64 0, .int .i64 0] rfl rfl HV3.out sizeX rfl (all6 rfl rfl rfl rfl rfl rfl) ?_; intro w8 HV8 hg8))
    have d0 := HV8.out.cell 0 _ rfl
    have d1 := HV8.out.cell 1 _ rfl
    have d2 := HV8.out.cell 2 _ rfl
    have d3 := HV8.out.cell 3 _ rfl
    have d4 := HV8.out.cell 4 _ rfl
    have d5 := HV8.out.cell 5 _ rfl
    refine bodyPost_ret (v := .tuple #[.agg #[.int .u8 0, .int .i64 0, .string ⟨#[]⟩, .slice none 0 0, .int .i64 0, .int .i64 0], .int .i64 2]) (by simp [results, Tryd.results12, go_sem, d0, d1, d2, d3, d4, d5]) rfl ?_
    exact ⟨⟨_, 2, rfl, .inl ⟨rfl, rfl, rfl⟩⟩, HB3.out.trans (jbelow hg8.out HB3.out.size (fun g e => by cases e; omega))⟩
   | true =>
    have HRp : Hid (∀ w' : World, Below w.heap.size w w' → Calls Tryd.prog 31 #[.agg #[.int .u8 (k : Int), .int .i64 n, .string nm, .slice a len cap, .int .i64 ln, .int .i64 cl], .string s, .agg #[.int .u8 (yk : Int), .int .i64 yn, .string ynm, .slice ya ylen ycap, .int .i64 yln, .int .i64 ycl]] w' fun e w'' => (∃ v', e = .returned v' ∧ StX w.heap.size w'.heap.size w'' v' Z) ∧ Below w'.heap.size w' w'') := fun w' hb => HRp0.out w' rfl hb
    clear HRp0
    cases hz : mayX Z with
    | false =>
     rw [hz] at HM3
     clear HCp0 hz
     go_enter Tryd.func12, Tryd.ntmps12
     go_wp2_with (first
      | (go_at_call 23; clear M1; refine (HM1.out _ HB.out).mono ?_; rintro e w1 ⟨rfl, hb1⟩; have HB1 := qa0 (jtwo HB.out hb1); have HV1 := qa0 (HV.out.later hb1); have HX1 := qa0 (HX.out.later hb1); have HY1 := qa0 (HY.out.later hb1); have f0 := HY1.out.cell 0 _ rfl; have f1 := HY1.out.cell 1 _ rfl; have f2 := HY1.out.cell 2 _ rfl; have f3 := HY1.out.cell 3 _ rfl; have f4 := HY1.out.cell 4 _ rfl; have f5 := HY1.out.cell 5 _ rfl; clear hb1)
      | (go_at_call 23; clear M2; refine (HM2.out _ HB1.out).mono ?_; rintro e w2 ⟨rfl, hb2⟩; have HB2 := qa0 (jtwo HB1.out hb2); have HV2 := qa0 (HV1.out.later hb2); have HX2 := qa0 (HX1.out.later hb2); have HY2 := qa0 (HY1.out.later hb2); clear hb2)
      | (go_at_call 30; refine (HNm.out _ HB2.out).mono ?_; rintro e w3 ⟨rfl, hb3⟩; have HB3 := qa0 (jtwo HB2.out hb3); have HV3 := qa0 (HV2.out.later hb3); have HX3 := qa0 (HX2.out.later hb3); have HY3 := qa0 (HY2.out.later hb3); have g0 := HX3.out.cell 0 _ rfl; have g1 := HX3.out.cell 1 _ rfl; have g2 := HX3.out.cell 2 _ rfl; have g3 := HX3.out.cell 3 _ rfl; have g4 := HX3.out.cell 4 _ rfl; have g5 := HX3.out.cell 5 _ rfl; have h0 := HY3.out.cell 0 _ rfl; have h1 := HY3.out.cell 1 _ rfl; have h2 := HY3.out.cell 2 _ rfl; have h3 := HY3.out.cell 3 _ rfl; have h4 := HY3.out.cell 4 _ rfl; have h5 := HY3.out.cell 5 _ rfl; clear hb3)
      | (go_at_call 31; refine (HRp.out _ HB3.out).mono ?_; rintro e w4 ⟨⟨v4, rfl, hst⟩, hb4⟩; obtain ⟨⟨ra, rcap, rfl, _⟩, _⟩ := hst.now; have HZ4 := qa0 hst.now; have HB4 := qa0 (jtwo HB3.out hb4); have HV4 := qa0 (HV3.out.later hb4); clear hst hb4)
      | (clear M5; refine qa1 rfl 25 _ _ rfl w4.heap.size _ #[.int .u8 ((Z []).k : Int), .int .i64 (Z []).n, .string (Z []).nm, .slice ra (Z []).len rcap, .int .i64 (Z []).ln, .int .i64 (Z []).cl] rfl rfl (Vn.new w4 _ _) sizeX rfl (all6 rfl rfl rfl rfl rfl rfl) ?_; intro w5 HG5 hg5; have hb5 : Below w4.heap.size w4 w5 := (jlow _ _).trans (jbelow hg5.out (jlow _ _).size (fun g e => by cases e; exact Nat.le_refl _)); have HB5 := qa0 (jtwo HB4.out hb5); have HV5 := qa0 (HV4.out.later hb5); have HZ5 := qa0 (HZ4.out.later hb5); have m0 := HG5.out.cell 0 _ rfl; have m1 := HG5.out.cell 1 _ rfl; have m2 := HG5.out.cell 2 _ rfl; have m3 := HG5.out.cell 3 _ rfl; have m4 := HG5.out.cell 4 _ rfl; have m5 := HG5.out.cell 5 _ rfl; clear hg5 hb5)
      | (go_at_call 23; clear M3; refine (HM3.out _ _ HB5.out HZ5.out).mono ?_; rintro e w6 ⟨rfl, hb6⟩; have HB6 := qa0 (jtwo HB5.out hb6); have HV6 := qa0 (HV5.out.later hb6); have HZ6 := qa0 (HZ5.out.later hb6); have HG6 := qa0 (HG5.out.later hb6); have o0 := HG6.out.cell 0 _ rfl; have o1 := HG6.out.cell 1 _ rfl; have o2 := HG6.out.cell 2 _ rfl; have o3 := HG6.out.cell 3 _ rfl; have o4 := HG6.out.cell 4 _ rfl; have o5 := HG6.out.cell 5 _ rfl; clear hb6)
      | (clear M8; refine qa1 rfl 25 _ _ rfl (w.heap.size + 1 + 1) _ #[.int .u8 0, .int .i64 0, .string ⟨#[]⟩, .slice none 0 0, .int .i64 0, .int .i64 0] rfl rfl HV6.out sizeX rfl (all6 rfl rfl rfl rfl rfl rfl) ?_; intro w8 HV8 hg8))
     have d0 := HV8.out.cell 0 _ rfl
     have d1 := HV8.out.cell 1 _ rfl
     have d2 := HV8.out.cell 2 _ rfl
     have d3 := HV8.out.cell 3 _ rfl
     have d4 := HV8.out.cell 4 _ rfl
     have d5 := HV8.out.cell 5 _ rfl
     refine bodyPost_ret (v := .tuple #[.agg #[.int .u8 0, .int .i64 0, .string ⟨#[]⟩, .slice none 0 0, .int .i64 0, .int .i64 0], .int .i64 4]) (by simp [results, Tryd.results12, go_sem, d0, d1, d2, d3, d4, d5]) rfl ?_
     exact ⟨⟨_, 4, rfl, .inr (.inl ⟨rfl, by first | trivial | rfl, by first | trivial | rfl, rfl⟩)⟩, HB6.out.trans (jbelow hg8.out HB6.out.size (fun g e => by cases e; omega))⟩
    | true =>
     rw [hz] at HM3
     have HCp : Hid (∀ (w' : World) (v' : Value), XV w' v' Z → Calls Tryd.prog 32 #[v'] w' fun e w'' => (∃ v'', e = .returned v'' ∧ StX 0 w'.heap.size w'' v'' Z) ∧ Below w'.heap.size w' w'') := fun w' v' hv => HCp0.out w' v' hz hv
     clear HCp0 hz
     go_enter Tryd.func12, Tryd.ntmps12
     go_wp2_with (first
      | (go_at_call 23; clear M1; refine (HM1.out _ HB.out).mono ?_; rintro e w1 ⟨rfl, hb1⟩; have HB1 := qa0 (jtwo HB.out hb1); have HV1 := qa0 (HV.out.later hb1); have HX1 := qa0 (HX.out.later hb1); have HY1 := qa0 (HY.out.later hb1); have f0 := HY1.out.cell 0 _ rfl; have f1 := HY1.out.cell 1 _ rfl; have f2 := HY1.out.cell 2 _ rfl; have f3 := HY1.out.cell 3 _ rfl; have f4 := HY1.out.cell 4 _ rfl; have f5 := HY1.out.cell 5 _ rfl; clear hb1)
      | (go_at_call 23; clear M2; refine (HM2.out _ HB1.out).mono ?_; rintro e w2 ⟨rfl, hb2⟩; have HB2 := qa0 (jtwo HB1.out hb2); have HV2 := qa0 (HV1.out.later hb2); have HX2 := qa0 (HX1.out.later hb2); have HY2 := qa0 (HY1.out.later hb2); clear hb2)
      | (go_at_call 30; refine (HNm.out _ HB2.out).mono ?_; rintro e w3 ⟨rfl, hb3⟩; have HB3 := qa0 (jtwo HB2.out hb3); have HV3 := qa0 (HV2.out.later hb3); have HX3 := qa0 (HX2.out.later hb3); have HY3 := qa0 (HY2.out.later hb3); have g0 := HX3.out.cell 0 _ rfl; have g1 := HX3.out.cell 1 _ rfl; have g2 := HX3.out.cell 2 _ rfl; have g3 := HX3.out.cell 3 _ rfl; have g4 := HX3.out.cell 4 _ rfl; have g5 := HX3.out.cell 5 _ rfl; have h0 := HY3.out.cell 0 _ rfl; have h1 := HY3.out.cell 1 _ rfl; have h2 := HY3.out.cell 2 _ rfl; have h3 := HY3.out.cell 3 _ rfl; have h4 := HY3.out.cell 4 _ rfl; have h5 := HY3.out.cell 5 _ rfl; clear hb3)
      | (go_at_call 31; refine (HRp.out _ HB3.out).mono ?_; rintro e w4 ⟨⟨v4, rfl, hst⟩, hb4⟩; obtain ⟨⟨ra, rcap, rfl, _⟩, _⟩ := hst.now; have HZ4 := qa0 hst.now; have HB4 := qa0 (jtwo HB3.out hb4); have HV4 := qa0 (HV3.out.later hb4); clear hst hb4)
      | (clear M5; refine qa1 rfl 25 _ _ rfl w4.heap.size _ #[.int .u8 ((Z []).k : Int), .int .i64 (Z []).n, .string (Z []).nm, .slice ra (Z []).len rcap, .int .i64 (Z []).ln, .int .i64 (Z []).cl] rfl rfl (Vn.new w4 _ _) sizeX rfl (all6 rfl rfl rfl rfl rfl rfl) ?_; intro w5 HG5 hg5; have hb5 : Below w4.heap.size w4 w5 := (jlow _ _).trans (jbelow hg5.out (jlow _ _).size (fun g e => by cases e; exact Nat.le_refl _)); have HB5 := qa0 (jtwo HB4.out hb5); have HV5 := qa0 (HV4.out.later hb5); have HZ5 := qa0 (HZ4.out.later hb5); have m0 := HG5.out.cell 0 _ rfl; have m1 := HG5.out.cell 1 _ rfl; have m2 := HG5.out.cell 2 _ rfl; have m3 := HG5.out.cell 3 _ rfl; have m4 := HG5.out.cell 4 _ rfl; have m5 := HG5.out.cell 5 _ rfl; clear hg5 hb5)
      | (go_at_call 23; clear M3; refine (HM3.out _ _ HB5.out HZ5.out).mono ?_; rintro e w6 ⟨rfl, hb6⟩; have HB6 := qa0 (jtwo HB5.out hb6); have HV6 := qa0 (HV5.out.later hb6); have HZ6 := qa0 (HZ5.out.later hb6); have HG6 := qa0 (HG5.out.later hb6); have o0 := HG6.out.cell 0 _ rfl; have o1 := HG6.out.cell 1 _ rfl; have o2 := HG6.out.cell 2 _ rfl; have o3 := HG6.out.cell 3 _ rfl; have o4 := HG6.out.cell 4 _ rfl; have o5 := HG6.out.cell 5 _ rfl; clear hb6)
      | (go_at_call 32; refine (HCp.out _ _ HZ6.out).mono ?_; rintro e w7 ⟨⟨v7, rfl, hst⟩, hb7⟩; obtain ⟨⟨pa, pcap, rfl, _⟩, _⟩ := hst.now; have HS7 := qa0 hst; have HB7 := qa0 (jtwo HB6.out hb7); have HV7 := qa0 (HV6.out.later hb7); clear hst hb7)
      | (clear M8; refine qa1 rfl 25 _ _ rfl (w.heap.size + 1 + 1) _ #[.int .u8 ((Z []).k : Int), .int .i64 (Z []).n, .string (Z []).nm, .slice pa (Z []).len pcap, .int .i64 (Z []).ln, .int .i64 (Z []).cl] rfl rfl HV7.out sizeX rfl (all6 rfl rfl rfl rfl rfl rfl) ?_; intro w8 HV8 hg8))
     have d0 := HV8.out.cell 0 _ rfl
     have d1 := HV8.out.cell 1 _ rfl
     have d2 := HV8.out.cell 2 _ rfl
     have d3 := HV8.out.cell 3 _ rfl
     have d4 := HV8.out.cell 4 _ rfl
     have d5 := HV8.out.cell 5 _ rfl
     refine bodyPost_ret (v := .tuple #[.agg #[.int .u8 ((Z []).k : Int), .int .i64 (Z []).n, .string (Z []).nm, .slice pa (Z []).len pcap, .int .i64 (Z []).ln, .int .i64 (Z []).cl], .int .i64 0]) (by simp [results, Tryd.results12, go_sem, d0, d1, d2, d3, d4, d5]) rfl ?_
     have hl6 := HV6.out.lt
     exact ⟨⟨_, 0, rfl, .inr (.inr ⟨rfl, by first | trivial | rfl, by first | trivial | rfl, (HS7.out.put (t := 0) hg8.out (Nat.zero_le _) hl6 (Nat.zero_le _)).now⟩)⟩, HB7.out.trans (jbelow hg8.out HB7.out.size (fun g e => by cases e; omega))⟩
end Go.Proofs.YtgmndjbicandfaaDoor
