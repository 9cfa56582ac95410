/-
  Contracts of the program's parse: the reader's term.
  Contracts of the program's parse: the reader's sum; expressions, whole.
  Contracts of the program's parse: expressions, whole.
-/
import Derived.Test.YtnjcpmkfghcogaaGreatDoorQbbks00
import Derived.Test.YtnjcpmkfghcogaaGreatDoorQbbks28
set_option maxRecDepth 100000
set_option maxHeartbeats 16000000
namespace Go.Proofs.YtnjcpmkfghcogaaGreatDoor
open Go.RowKit
def tld (K : Rk) (w : World) : Nat := K.n - (intOf ((w.cell? ⟨K.bt, 0, none⟩).getD undef)).toNat
theorem Rr.tld {K : Rk} {w : World} {j : Nat} (h : Rr K w j) : tld K w = K.n - min (j + 1) K.n := by
 unfold Go.Proofs.YtnjcpmkfghcogaaGreatDoor.tld
 rw [h.fn.told.cell 0 _ rfl]
 show K.n - (((min (j + 1) K.n : Nat) : Int)).toNat = _
 rw [Int.toNat_natCast]
structure TeL (K : Rk) (n : Nat) (w : World) (z x s : Nat) (q : Rd Xt) (wr : World) : Prop where
 all : ∃ k y j, k ≤ n ∧ 4 * (K.n - j) + 1 ≤ k ∧ q = px k 2 y (lst K j) ∧ Rr K wr j ∧ ∃ a, XG s x wr (.agg #[.int .u8 ((y []).k : Int), .int .i64 (y []).n, .string (y []).nm, .slice a (y []).len (y []).len, .int .i64 (y []).ln, .int .i64 (y []).cl]) y ∧ Vn wr x 37 #[.int .u8 ((y []).k : Int), .int .i64 (y []).n, .string (y []).nm, .slice a (y []).len (y []).len, .int .i64 (y []).ln, .int .i64 (y []).cl]
 res : Vn wr z 37 #[.int .u8 0, .int .i64 0, .string ⟨#[]⟩, .slice none 0 0, .int .i64 0, .int .i64 0]
 gk : Gk K w wr
theorem rterm_ok (K : Rk) (hK : RkOk K) (n : Nat) (IH : ∀ m, m < n → FacC K m) (w : World) (j : Nat) (HR : Hid (Rr K w j)) (y0 : Xt) (j1 : Nat) (hn : 4 * (K.n - j1) + 1 ≤ n)
  (HS : Hid (∀ w', Rr K w' j → Calls Tryz.prog 129 #[.pointer (some ⟨K.r, 0, none⟩)] w' fun e w'' => Gk K w' w'' ∧ ∃ v, e = .returned v ∧ XF w'.heap.size w'' v y0 ∧ Rr K w'' j1)) :
  Calls Tryz.prog 82 #[.pointer (some ⟨K.r, 0, none⟩)] w (RX K w (px n 2 y0 (lst K j1))) := by
 have hlow := HR.out.low
 have hr := hlow.1
 have hbt := hlow.2
 have HX0 := qa0 (Vn.new w 37 #[.int .u8 0, .int .i64 0, .string ⟨#[]⟩, .slice none 0 0, .int .i64 0, .int .i64 0])
 have hz0 : (w.alloc (.cells #[.int .u8 0, .int .i64 0, .string ⟨#[]⟩, .slice none 0 0, .int .i64 0, .int .i64 0] 37)).heap.size = w.heap.size + 1 := Array.size_push _
 have HB0 := qa0 (jlow w (.cells #[.int .u8 0, .int .i64 0, .string ⟨#[]⟩, .slice none 0 0, .int .i64 0, .int .i64 0] 37))
 have HR0 := qa0 (HR.out.later HB0.out)
 obtain ⟨l, HL⟩ : ∃ l, Hid (y0 [] = l) := ⟨_, rfl⟩
 obtain ⟨k, nn, nm, len, ln, cl⟩ := l
 obtain ⟨Q, HQ⟩ : ∃ Q, Hid (px n 2 y0 (lst K j1) = Q) := ⟨_, rfl⟩
 rw [HQ.out]
 have HIH := qa0 IH
 have HKo := qa0 hK
 clear IH hlow hK
 go_enter Tryz.func82, Tryz.ntmps82
 go_wp2_with (go_at_call 129; refine (HS.out _ HR0.out).mono ?_; rintro e w1 ⟨hg1, v, rfl, hxf, hr1⟩; obtain ⟨a, hv, hok, hfr⟩ := id hxf; rw [HL.out] at hv; subst hv; have HF1 := qa0 hxf; have HG1 := qa0 hg1; have HR1 := qa0 hr1; have HX1 := qa0 (HX0.out.keptBy (hg1.block _ HX0.out.lt (by omega) (by omega))); clear hxf hg1 hr1 hok hfr)
 have hz1 := HG1.out.size
 rw [hz0] at hz1 HF1
 have hlow1 : w.heap.size + 1 ≤ w1.heap.size := hz1
 go_loopw [4] (fun _ wr => TeL K n w w.heap.size w1.heap.size (w.heap.size + 1) Q wr) (fun _ wr => tld K wr)
 ·refine ⟨⟨n, y0, j1, Nat.le_refl _, hn, HQ.out.symm, HR1.out.later (jlow _ _), a, ?_, ?_⟩, HX1.out.later (jlow _ _), ((Gk.of HB0.out).trans HG1.out).trans (Gk.of (jlow _ _))⟩
  ·rw [HL.out]
   exact (HF1.out.before (Nat.le_refl _)).step (Ax.of (jlow _ _))
  ·rw [HL.out]
   exact Vn.new _ _ _
 ·obtain ⟨⟨fk, y, jr, hfn, hfk, hQ, hRr, a2, hXG, hVx⟩, hres, hgk⟩ := hrel
  obtain ⟨l2, HL2⟩ : ∃ l2, Hid (y [] = l2) := ⟨_, rfl⟩
  obtain ⟨k2, n2, nm2, len2, ln2, cl2⟩ := l2
  rw [HL2.out] at hXG hVx
  dsimp only at hXG hVx
  have hml := hRr.tld
  have hjn := hRr.le
  obtain ⟨⟨tk, tx, tn, tl, tc⟩, ht⟩ : ∃ t, K.g jr = t := ⟨_, rfl⟩
  have hkt : ∀ w', Calls Tryz.prog 130 #[.agg #[.int .u8 (tk : Int), .string tx, .int .i64 tn, .int .i64 tl, .int .i64 tc]] w' fun e w'' => e = .returned (.int .u8 (kterm ⟨tk, tx, tn, tl, tc⟩ : Int)) ∧ Below w'.heap.size w' w'' := fun w' => rkterm w' ⟨tk, tx, tn, tl, tc⟩
  have hvr := hRr.var
  rw [ht] at hvr
  have c1 := hvr.cell 1 (.int .u8 (tk : Int)) rfl
  have c2 := hvr.cell 2 (.string tx) rfl
  have c3 := hvr.cell 3 (.int .i64 tn) rfl
  have c4 := hvr.cell 4 (.int .i64 tl) rfl
  have c5 := hvr.cell 5 (.int .i64 tc) rfl
  have HXG := qa0 hXG
  have HVx := qa0 hVx
  have HRs := qa0 hres
  have HGk := qa0 hgk
  have HRr := qa0 hRr
  have hzr := HVx.out.lt
  clear hvr hXG hVx hres hgk hRr
  obtain ⟨kk, Hkk⟩ : ∃ kk, Hid (kterm ⟨tk, tx, tn, tl, tc⟩ = kk) := ⟨_, rfl⟩
  rw [Hkk.out] at hkt
  have HKT := qa0 hkt
  clear hkt
  by_cases hk0 : kk = 0
  ·have hq : Q = .ok (y, lst K jr) := by
    rw [hQ]
    obtain ⟨f, rfl⟩ : ∃ f, fk = f + 1 := ⟨fk - 1, by omega⟩
    rcases Nat.lt_or_ge jr K.n with h | h
    ·rw [qaa K h, qck, ht, Hkk.out, if_pos hk0]
    ·rw [qbl K h, qiy]
   rw [hq]
   subst hk0
   clear hQ hq
   go_wp2_with (first
    | (go_at_call 130; refine (HKT.out _).mono ?_; rintro e w2 ⟨rfl, hb2⟩; have HB2 := qa0 hb2; have HV2 := qa0 (HVx.out.later hb2); have HR2 := qa0 (HRs.out.later hb2); clear hb2; have y0 := HV2.out.cell 0 (.int .u8 (k2 : Int)) rfl; have y1 := HV2.out.cell 1 (.int .i64 n2) rfl; have y2 := HV2.out.cell 2 (.string nm2) rfl; have y3 := HV2.out.cell 3 (.slice a2 len2 len2) rfl; have y4 := HV2.out.cell 4 (.int .i64 ln2) rfl; have y5 := HV2.out.cell 5 (.int .i64 cl2) rfl)
    | (refine qa1 rfl 37 _ _ rfl w.heap.size _ #[.int .u8 (k2 : Int), .int .i64 n2, .string nm2, .slice a2 len2 len2, .int .i64 ln2, .int .i64 cl2] rfl rfl HR2.out qb9 rfl (qfc rfl rfl rfl rfl rfl rfl) ?_; intro w8 HV8 hg8))
   have d0 := HV8.out.cell 0 (.int .u8 (k2 : Int)) rfl
   have d1 := HV8.out.cell 1 (.int .i64 n2) rfl
   have d2 := HV8.out.cell 2 (.string nm2) rfl
   have d3 := HV8.out.cell 3 (.slice a2 len2 len2) rfl
   have d4 := HV8.out.cell 4 (.int .i64 ln2) rfl
   have d5 := HV8.out.cell 5 (.int .i64 cl2) rfl
   refine bodyPost_ret (v := .agg #[.int .u8 (k2 : Int), .int .i64 n2, .string nm2, .slice a2 len2 len2, .int .i64 ln2, .int .i64 cl2]) (by simp [results, Tryz.results82, go_sem, d0, d1, d2, d3, d4, d5]) rfl ?_
   have z2 := HB2.out.size
   have z8 := hg8.out.size
   have zg := HGk.out.size
   refine ⟨?_, _, rfl, ?_, ?_⟩
   ·refine ⟨?_, ?_, ?_, by omega, fun b hb n1 n2 => ?_⟩
    ·rw [hg8.out.os, HB2.out.os, HGk.out.os]
    ·rw [hg8.out.tape, HB2.out.tape, HGk.out.tape]
    ·rw [hg8.out.output, HB2.out.output, HGk.out.output]
    ·rw [hg8.out.block b (by omega) (by simp; omega), HB2.out.block b (by omega), HGk.out.block b hb n1 n2]
   ·exact ((HXG.out.step (Ax.of HB2.out)).step (Ax.grown hg8.out (by omega))).xf.weak (by omega)
   ·rw [qan, show K.n - (K.n - jr) = jr by omega]
    exact HR.out.step (HRr.out.later HB2.out) (fun b hb => hg8.out.block b (by omega) (by simp; omega))
  ·have hjr : jr < K.n := by
    rcases Nat.lt_or_ge jr K.n with h | h
    ·exact h
    ·have e : jr = K.n := by omega
     have et := HKo.out.et
     rw [← e, ht] at et
     dsimp only at et
     subst et
     exact absurd Hkk.out.symm hk0
   obtain ⟨f, rfl⟩ : ∃ f, fk = f + 1 := ⟨fk - 1, by omega⟩
   rw [qaa K hjr, qck, ht, Hkk.out, if_neg hk0] at hQ
   have hm : min (jr + 1) K.n = jr + 1 := by omega
   have hqk : ((kk : Int) == 0) = false := by simp; omega
   have hC : ∀ w', Rr K w' (jr + 1) → Calls Tryz.prog 129 #[.pointer (some ⟨K.r, 0, none⟩)] w' (RX K w' (px f 0 y (lst K (jr + 1)))) := fun w' hr => HIH.out f (by omega) y w' (jr + 1) hr (by omega)
   have hlen := qan K (jr + 1)
   have hsuf := (qeu f).1 y (lst K (jr + 1))
   have hpl := (qed f).1 y (lst K (jr + 1))
   have HTA : Hid (∀ w', Rr K w' jr → Calls Tryz.prog 84 #[.pointer (some ⟨K.r, 0, none⟩)] w' fun e w'' => e = .returned (.agg #[.int .u8 (tk : Int), .string tx, .int .i64 tn, .int .i64 tl, .int .i64 tc]) ∧ Rr K w'' (jr + 1) ∧ Gk K w' w'') := fun w' hr => by
    have := rtake K w' jr hr
    rw [hm, ht] at this
    exact this
   have hkb : kk < 256 := by
    rw [← Hkk.out]
    unfold kterm
    repeat' split
    all_goals omega
   go_wp2_with (first
    | (go_at_call 130; refine (HKT.out _).mono ?_; rintro e w2 ⟨rfl, hb2⟩; have HB2 := qa0 hb2; have HV2 := qa0 (HVx.out.later hb2); have HR2 := qa0 (HRs.out.later hb2); have HD2 := qa0 (HRr.out.later hb2); clear hb2)
    | (go_at_call 84; refine (HTA.out _ HD2.out).mono ?_; rintro e w3 ⟨rfl, hr3, hg3⟩; have HG3 := qa0 hg3; have HD3 := qa0 hr3; have z2 := HB2.out.size; have zg := HGk.out.size; have HV3 := qa0 (HV2.out.keptBy (hg3.block _ HV2.out.lt (by omega) (by omega))); have HR3 := qa0 (HR2.out.keptBy (hg3.block _ HR2.out.lt (by omega) (by omega))); clear hr3 hg3))
   have z3 := HG3.out.size
   refine qc9 (k := 7) (n := 7) (fun w' => w'.cell? ⟨w3.heap.size, 0, none⟩ = some (.int .u8 (tk : Int)) ∧ w'.cell? ⟨w3.heap.size, 1, none⟩ = some (.string tx) ∧ w'.cell? ⟨w3.heap.size, 2, none⟩ = some (.int .i64 tn) ∧ w'.cell? ⟨w3.heap.size, 3, none⟩ = some (.int .i64 tl) ∧ w'.cell? ⟨w3.heap.size, 4, none⟩ = some (.int .i64 tc) ∧ w'.cell? ⟨w1.heap.size, 0, none⟩ = some (.int .u8 (k2 : Int)) ∧ w'.cell? ⟨w1.heap.size, 1, none⟩ = some (.int .i64 n2) ∧ w'.cell? ⟨w1.heap.size, 2, none⟩ = some (.string nm2) ∧ w'.cell? ⟨w1.heap.size, 3, none⟩ = some (.slice a2 len2 len2) ∧ w'.cell? ⟨w1.heap.size, 4, none⟩ = some (.int .i64 ln2) ∧ w'.cell? ⟨w1.heap.size, 5, none⟩ = some (.int .i64 cl2)) (by kernel_rfl) (by kernel_rfl) (by decide) (by rfl) ?_
   obtain ⟨W0, HW0⟩ : ∃ W0, Hid ((w3.alloc (.cells #[.int .u8 (tk : Int), .string tx, .int .i64 tn, .int .i64 tl, .int .i64 tc] 104)).drew = W0) := ⟨_, rfl⟩
   have HBd : Hid (Below w3.heap.size w3 W0) := by show Below _ _ _; rw [← HW0.out]; exact (jlow _ _).drew
   have HTk : Hid (Vn W0 w3.heap.size 104 #[.int .u8 (tk : Int), .string tx, .int .i64 tn, .int .i64 tl, .int .i64 tc]) := by show Vn _ _ _ _; rw [← HW0.out]; exact (Vn.new w3 _ _).later ((Below.refl _ _).drew)
   have HV4 := qa0 (HV3.out.later HBd.out)
   have HR4 := qa0 (HR3.out.later HBd.out)
   have HD4 := qa0 (HD3.out.later HBd.out)
   have z4 := HTk.out.lt
   rw [HW0.out]
   clear HW0 c1 c2 c3 c4 c5
   refine wtkq 0 ?vs0_1 rfl (by kernel_rfl) (fun _ _ _ h => h) (by rfl) ?ys0_1 ⟨HTk.out.cell 0 _ rfl, HTk.out.cell 1 _ rfl, HTk.out.cell 2 _ rfl, HTk.out.cell 3 _ rfl, HTk.out.cell 4 _ rfl, HV4.out.cell 0 _ rfl, HV4.out.cell 1 _ rfl, HV4.out.cell 2 _ rfl, HV4.out.cell 3 _ rfl, HV4.out.cell 4 _ rfl, HV4.out.cell 5 _ rfl⟩ ?zs0_1
   case ys0_1 => (intro w hSw; (try dsimp only at hSw); (try obtain ⟨s0, s1, s2, s3, s4, s5, s6, s7, s8, s9, sa⟩ := hSw); go_simp; try with_reducible rfl)
   try simp only [nz1, nz3, Act.put, nz4, nz5, nz6]
   refine wtkq 1 ?vs1_2 rfl (by kernel_rfl) (fun _ _ _ h => h) (by rfl) ?ys1_2 ⟨HTk.out.cell 0 _ rfl, HTk.out.cell 1 _ rfl, HTk.out.cell 2 _ rfl, HTk.out.cell 3 _ rfl, HTk.out.cell 4 _ rfl, HV4.out.cell 0 _ rfl, HV4.out.cell 1 _ rfl, HV4.out.cell 2 _ rfl, HV4.out.cell 3 _ rfl, HV4.out.cell 4 _ rfl, HV4.out.cell 5 _ rfl⟩ ?zs1_2
   case ys1_2 => (intro w hSw; (try dsimp only at hSw); (try obtain ⟨s0, s1, s2, s3, s4, s5, s6, s7, s8, s9, sa⟩ := hSw); go_simp; try with_reducible rfl)
   try simp only [nz1, nz2, nz3, Act.put, nz4, nz5, nz6]
   refine wtkq 2 ?vs2_3 rfl (by kernel_rfl) (fun _ _ _ h => h) (by rfl) ?ys2_3 ⟨HTk.out.cell 0 _ rfl, HTk.out.cell 1 _ rfl, HTk.out.cell 2 _ rfl, HTk.out.cell 3 _ rfl, HTk.out.cell 4 _ rfl, HV4.out.cell 0 _ rfl, HV4.out.cell 1 _ rfl, HV4.out.cell 2 _ rfl, HV4.out.cell 3 _ rfl, HV4.out.cell 4 _ rfl, HV4.out.cell 5 _ rfl⟩ ?zs2_3
   case ys2_3 => (intro w hSw; (try dsimp only at hSw); (try obtain ⟨s0, s1, s2, s3, s4, s5, s6, s7, s8, s9, sa⟩ := hSw); go_simp; try with_reducible rfl)
   try simp only [nz1, nz2, nz3, Act.put, nz4, nz5, nz6]
   refine wtkq 3 ?vs3_4 rfl (by kernel_rfl) (fun _ _ _ h => h) (by rfl) ?ys3_4 ⟨HTk.out.cell 0 _ rfl, HTk.out.cell 1 _ rfl, HTk.out.cell 2 _ rfl, HTk.out.cell 3 _ rfl, HTk.out.cell 4 _ rfl, HV4.out.cell 0 _ rfl, HV4.out.cell 1 _ rfl, HV4.out.cell 2 _ rfl, HV4.out.cell 3 _ rfl, HV4.out.cell 4 _ rfl, HV4.out.cell 5 _ rfl⟩ ?zs3_4
   case ys3_4 => (intro w hSw; (try dsimp only at hSw); (try obtain ⟨s0, s1, s2, s3, s4, s5, s6, s7, s8, s9, sa⟩ := hSw); go_simp; try with_reducible rfl)
   try simp only [nz1, nz2, nz3, Act.put, nz4, nz5, nz6]
   refine wpAnyH_ready (rs := [4]) (by kernel_rfl) (by simp) ?_
   refine AllReadyH.cons rfl (fun KK hKK => ?_) AllReadyH.nil
   go_simp
   cases hq : px f 0 y (lst K (jr + 1)) with
   | error s =>
    rw [hq] at hC hQ
    rw [qa7] at hQ
    subst hQ
    refine (hC _ HD4.out).mono ?_
    rintro e w5 ⟨hg5, he5⟩
    replace he5 : e = mis (K.g (K.n - s.length)) := he5
    subst he5
    have HG5 := qa0 hg5
    clear hg5
    unfold mis
    exact ⟨rfl, ((((HGk.out.trans (Gk.of HB2.out)).trans HG3.out).trans (Gk.of HBd.out)).trans HG5.out), rfl⟩
   | ok p =>
    obtain ⟨yb, s⟩ := p
    have hsl := (qed f).1 y (lst K (jr + 1)) yb s hq
    rw [hq] at hC hQ hsuf
    rw [qa4] at hQ
    have hs := qaw K _ (jr + 1) rfl hsuf
    obtain ⟨l3, HL3⟩ : ∃ l3, Hid (yb [] = l3) := ⟨_, rfl⟩
    obtain ⟨k3, n3, nm3, len3, ln3, cl3⟩ := l3
    refine (hC _ HD4.out).mono ?_
    rintro e w5 ⟨hg5, v5, rfl, hxf, hr5⟩
    obtain ⟨a3, hv, hok, hfr⟩ := id hxf
    rw [HL3.out] at hv
    subst hv
    have HF5 := qa0 hxf
    have HG5 := qa0 hg5
    have HD5 := qa0 hr5
    have HT5 := qa0 (HTk.out.keptBy (hg5.block _ HTk.out.lt (by omega) (by omega)))
    have HV5 := qa0 (HV4.out.keptBy (hg5.block _ HV4.out.lt (by omega) (by omega)))
    have HR5 := qa0 (HR4.out.keptBy (hg5.block _ HR4.out.lt (by omega) (by omega)))
    clear hxf hg5 hr5 hok hfr
    refine hKK.out _ _ ⟨HT5.out.cell 0 _ rfl, HT5.out.cell 1 _ rfl, HT5.out.cell 2 _ rfl, HT5.out.cell 3 _ rfl, HT5.out.cell 4 _ rfl, HV5.out.cell 0 _ rfl, HV5.out.cell 1 _ rfl, HV5.out.cell 2 _ rfl, HV5.out.cell 3 _ rfl, HV5.out.cell 4 _ rfl, HV5.out.cell 5 _ rfl⟩ (fun _ => ?_)
    clear hKK KK
    refine wpAnyH_ready (rs := [5]) (by kernel_rfl) (by simp) ?_
    refine AllReadyH.cons rfl (fun KK hKK => ?_) AllReadyH.nil
    refine wp_bx2 _ _ rfl #[.int .u8 (k2 : Int), .int .i64 n2, .string nm2, .slice a2 len2 len2, .int .i64 ln2, .int .i64 cl2] #[.int .u8 (k3 : Int), .int .i64 n3, .string nm3, .slice a3 len3 len3, .int .i64 ln3, .int .i64 cl3] rfl rfl rfl rfl ?_
    have HT6 := qa0 (HT5.out.later (jlow w5 (.cells (#[.int .u8 (k2 : Int), .int .i64 n2, .string nm2, .slice a2 len2 len2, .int .i64 ln2, .int .i64 cl2] ++ #[.int .u8 (k3 : Int), .int .i64 n3, .string nm3, .slice a3 len3 len3, .int .i64 ln3, .int .i64 cl3]) 37)))
    have HV6 := qa0 (HV5.out.later (jlow w5 (.cells (#[.int .u8 (k2 : Int), .int .i64 n2, .string nm2, .slice a2 len2 len2, .int .i64 ln2, .int .i64 cl2] ++ #[.int .u8 (k3 : Int), .int .i64 n3, .string nm3, .slice a3 len3 len3, .int .i64 ln3, .int .i64 cl3]) 37)))
    have HR6 := qa0 (HR5.out.later (jlow w5 (.cells (#[.int .u8 (k2 : Int), .int .i64 n2, .string nm2, .slice a2 len2 len2, .int .i64 ln2, .int .i64 cl2] ++ #[.int .u8 (k3 : Int), .int .i64 n3, .string nm3, .slice a3 len3 len3, .int .i64 ln3, .int .i64 cl3]) 37)))
    refine hKK.out _ _ ⟨HT6.out.cell 0 _ rfl, HT6.out.cell 1 _ rfl, HT6.out.cell 2 _ rfl, HT6.out.cell 3 _ rfl, HT6.out.cell 4 _ rfl, HV6.out.cell 0 _ rfl, HV6.out.cell 1 _ rfl, HV6.out.cell 2 _ rfl, HV6.out.cell 3 _ rfl, HV6.out.cell 4 _ rfl, HV6.out.cell 5 _ rfl⟩ (fun _ => ?_)
    clear hKK KK
    try simp only [nz1, nz2, nz3, Act.put, nz4, nz5, nz6]
    refine wpAnyH_ready (rs := [6]) (by kernel_rfl) (by simp) ?_
    refine AllReadyH.cons rfl (fun KK hKK => ?_) AllReadyH.nil
    go_simp
    have HJ := rjoined (w5.alloc (.cells (#[.int .u8 (k2 : Int), .int .i64 n2, .string nm2, .slice a2 len2 len2, .int .i64 ln2, .int .i64 cl2] ++ #[.int .u8 (k3 : Int), .int .i64 n3, .string nm3, .slice a3 len3 len3, .int .i64 ln3, .int .i64 cl3]) 37)) kk ⟨tk, tx, tn, tl, tc⟩ (some ⟨w5.heap.size, 0, none⟩) 2 2
    unfold tvq at HJ
    refine HJ.mono ?_
    rintro e w7 ⟨rfl, hb7⟩
    have HB7 := qa0 hb7
    have HT7 := qa0 (HT6.out.later hb7)
    have HV7 := qa0 (HV6.out.later hb7)
    have HR7 := qa0 (HR6.out.later hb7)
    clear hb7 HJ
    refine hKK.out _ _ ⟨HT7.out.cell 0 _ rfl, HT7.out.cell 1 _ rfl, HT7.out.cell 2 _ rfl, HT7.out.cell 3 _ rfl, HT7.out.cell 4 _ rfl, HV7.out.cell 0 _ rfl, HV7.out.cell 1 _ rfl, HV7.out.cell 2 _ rfl, HV7.out.cell 3 _ rfl, HV7.out.cell 4 _ rfl, HV7.out.cell 5 _ rfl⟩ (fun _ => ?_)
    clear hKK KK
    refine wpAnyH_done (by kernel_rfl) ?_ _
    refine qdi rfl (fun KK hKK => ?_)
    refine qa9 37 _ _ rfl w1.heap.size _ #[.int .u8 (kk : Int), .int .i64 0, .string ⟨#[]⟩, .slice (some ⟨w5.heap.size, 0, none⟩) 2 2, .int .i64 tl, .int .i64 tc] rfl rfl HV7.out qb9 rfl (qfc rfl rfl rfl rfl rfl rfl) ?_
    intro w8 HV8 hg8
    refine hKK.out _ _ ?_
    clear hKK KK
    have z5 := HG5.out.size
    have zd := HBd.out.size
    have za : w5.heap.size ≤ (w5.alloc (.cells (#[.int .u8 (k2 : Int), .int .i64 n2, .string nm2, .slice a2 len2 len2, .int .i64 ln2, .int .i64 cl2] ++ #[.int .u8 (k3 : Int), .int .i64 n3, .string nm3, .slice a3 len3 len3, .int .i64 ln3, .int .i64 cl3]) 37)).heap.size := (jlow _ _).size
    have z7 := HB7.out.size
    have z8 := hg8.out.size
    have g7 := ((((((HGk.out.trans (Gk.of HB2.out)).trans HG3.out).trans (Gk.of HBd.out)).trans HG5.out).trans (Gk.of (jlow _ _))).trans (Gk.of HB7.out))
    have hR8 : Rr K w8 (K.n - s.length) := HR.out.step ((HD5.out.later (jlow _ _)).later HB7.out) (fun b hb => hg8.out.block b (by omega) (by simp; omega))
    have hxy : XG (w.heap.size + 1) w1.heap.size w5 (.agg #[.int .u8 (k2 : Int), .int .i64 n2, .string nm2, .slice a2 len2 len2, .int .i64 ln2, .int .i64 cl2]) y := (((HXG.out.step (Ax.of HB2.out)).step (Ax.gk HG3.out (by omega) (by omega))).step (Ax.of HBd.out)).step (Ax.gk HG5.out (by omega) (by omega))
    have hxb : XG (w.heap.size + 1) w1.heap.size w5 (.agg #[.int .u8 (k3 : Int), .int .i64 n3, .string nm3, .slice a3 len3 len3, .int .i64 ln3, .int .i64 cl3]) yb := HF5.out.behind (by omega) (by omega)
    have hTe : TeL K n w w.heap.size w1.heap.size (w.heap.size + 1) Q w8 := by
     refine ⟨⟨f, yTwo kk ⟨tk, tx, tn, tl, tc⟩ y yb, K.n - s.length, by omega, by omega, by rw [← hs]; exact hQ, hR8, some ⟨w5.heap.size, 0, none⟩, ⟨_, rfl, okx kk 2 tl tc hkb (Nat.le_refl _), fun u hu => ?_⟩, HV8.out⟩, HR7.out.keptG hg8.out (by simp; omega), ?_⟩
     ·exact xg_two hxy hxb rfl rfl (by omega) (by omega) (kid (yTwo kk ⟨tk, tx, tn, tl, tc⟩ y yb)) rfl rfl u (((Ax.of HB7.out).trans (Ax.grown hg8.out (Or.inl rfl))).trans hu)
     ·exact ⟨by rw [hg8.out.os, g7.os], by rw [hg8.out.tape, g7.tape], by rw [hg8.out.output, g7.output], by omega, fun b hb n1 n2 => by rw [hg8.out.block b (by omega) (by simp; omega), g7.block b hb n1 n2]⟩
    refine And.intro ?gg ?mm
    case gg => exact ⟨_, _, _, _, _, _, _, _, _, _, _, _, _, _, _, _, _, _, _, hTe, rfl⟩
    case mm =>
     rw [hml, hR8.tld]
     omega
open Go.RowKit
def TermC (K : Rk) (n : Nat) : Prop := ∀ x w j, Rr K w j → 4 * (K.n - j) + 2 ≤ n → Calls Tryz.prog 82 #[.pointer (some ⟨K.r, 0, none⟩)] w (RX K w (px n 1 x (lst K j)))
structure SuL (K : Rk) (n : Nat) (w : World) (z x s : Nat) (q : Rd Xt) (wr : World) : Prop where
 all : ∃ k y j, k ≤ n ∧ 4 * (K.n - j) + 1 ≤ k ∧ q = px k 4 y (lst K j) ∧ Rr K wr j ∧ ∃ a, XG s x wr (.agg #[.int .u8 ((y []).k : Int), .int .i64 (y []).n, .string (y []).nm, .slice a (y []).len (y []).len, .int .i64 (y []).ln, .int .i64 (y []).cl]) y ∧ Vn wr x 37 #[.int .u8 ((y []).k : Int), .int .i64 (y []).n, .string (y []).nm, .slice a (y []).len (y []).len, .int .i64 (y []).ln, .int .i64 (y []).cl]
 res : Vn wr z 37 #[.int .u8 0, .int .i64 0, .string ⟨#[]⟩, .slice none 0 0, .int .i64 0, .int .i64 0]
 gk : Gk K w wr
theorem rsum_ok (K : Rk) (hK : RkOk K) (n : Nat) (IH : ∀ m, m < n → TermC K m) (w : World) (j : Nat) (HR : Hid (Rr K w j)) (y0 : Xt) (j1 : Nat) (hn : 4 * (K.n - j1) + 1 ≤ n)
  (HS : Hid (∀ w', Rr K w' j → Calls Tryz.prog 82 #[.pointer (some ⟨K.r, 0, none⟩)] w' fun e w'' => Gk K w' w'' ∧ ∃ v, e = .returned v ∧ XF w'.heap.size w'' v y0 ∧ Rr K w'' j1)) :
  Calls Tryz.prog 39 #[.pointer (some ⟨K.r, 0, none⟩)] w (RX K w (px n 4 y0 (lst K j1))) := by
 have hlow := HR.out.low
 have hr := hlow.1
 have hbt := hlow.2
 have HX0 := qa0 (Vn.new w 37 #[.int .u8 0, .int .i64 0, .string ⟨#[]⟩, .slice none 0 0, .int .i64 0, .int .i64 0])
 have hz0 : (w.alloc (.cells #[.int .u8 0, .int .i64 0, .string ⟨#[]⟩, .slice none 0 0, .int .i64 0, .int .i64 0] 37)).heap.size = w.heap.size + 1 := Array.size_push _
 have HB0 := qa0 (jlow w (.cells #[.int .u8 0, .int .i64 0, .string ⟨#[]⟩, .slice none 0 0, .int .i64 0, .int .i64 0] 37))
 have HR0 := qa0 (HR.out.later HB0.out)
 obtain ⟨l, HL⟩ : ∃ l, Hid (y0 [] = l) := ⟨_, rfl⟩
 obtain ⟨k, nn, nm, len, ln, cl⟩ := l
 obtain ⟨Q, HQ⟩ : ∃ Q, Hid (px n 4 y0 (lst K j1) = Q) := ⟨_, rfl⟩
 rw [HQ.out]
 have HIH := qa0 IH
 have HKo := qa0 hK
 clear IH hlow hK
 go_enter Tryz.func39, Tryz.ntmps39
 go_wp2_with (go_at_call 82; refine (HS.out _ HR0.out).mono ?_; rintro e w1 ⟨hg1, v, rfl, hxf, hr1⟩; obtain ⟨a, hv, hok, hfr⟩ := id hxf; rw [HL.out] at hv; subst hv; have HF1 := qa0 hxf; have HG1 := qa0 hg1; have HR1 := qa0 hr1; have HX1 := qa0 (HX0.out.keptBy (hg1.block _ HX0.out.lt (by omega) (by omega))); clear hxf hg1 hr1 hok hfr)
 have hz1 := HG1.out.size
 rw [hz0] at hz1 HF1
 have hlow1 : w.heap.size + 1 ≤ w1.heap.size := hz1
 go_loopw [4] (fun _ wr => SuL K n w w.heap.size w1.heap.size (w.heap.size + 1) Q wr) (fun _ wr => tld K wr)
 ·refine ⟨⟨n, y0, j1, Nat.le_refl _, hn, HQ.out.symm, HR1.out.later (jlow _ _), a, ?_, ?_⟩, HX1.out.later (jlow _ _), ((Gk.of HB0.out).trans HG1.out).trans (Gk.of (jlow _ _))⟩
  ·rw [HL.out]
   exact (HF1.out.before (Nat.le_refl _)).step (Ax.of (jlow _ _))
  ·rw [HL.out]
   exact Vn.new _ _ _
 ·obtain ⟨⟨fk, y, jr, hfn, hfk, hQ, hRr, a2, hXG, hVx⟩, hres, hgk⟩ := hrel
  obtain ⟨l2, HL2⟩ : ∃ l2, Hid (y [] = l2) := ⟨_, rfl⟩
  obtain ⟨k2, n2, nm2, len2, ln2, cl2⟩ := l2
  rw [HL2.out] at hXG hVx
  dsimp only at hXG hVx
  have hml := hRr.tld
  have hjn := hRr.le
  obtain ⟨⟨tk, tx, tn, tl, tc⟩, ht⟩ : ∃ t, K.g jr = t := ⟨_, rfl⟩
  have hkt : ∀ w', Calls Tryz.prog 83 #[.agg #[.int .u8 (tk : Int), .string tx, .int .i64 tn, .int .i64 tl, .int .i64 tc]] w' fun e w'' => e = .returned (.int .u8 (ksum ⟨tk, tx, tn, tl, tc⟩ : Int)) ∧ Below w'.heap.size w' w'' := fun w' => rksum w' ⟨tk, tx, tn, tl, tc⟩
  have hvr := hRr.var
  rw [ht] at hvr
  have c1 := hvr.cell 1 (.int .u8 (tk : Int)) rfl
  have c2 := hvr.cell 2 (.string tx) rfl
  have c3 := hvr.cell 3 (.int .i64 tn) rfl
  have c4 := hvr.cell 4 (.int .i64 tl) rfl
  have c5 := hvr.cell 5 (.int .i64 tc) rfl
  have HXG := qa0 hXG
  have HVx := qa0 hVx
  have HRs := qa0 hres
  have HGk := qa0 hgk
  have HRr := qa0 hRr
  have hzr := HVx.out.lt
  clear hvr hXG hVx hres hgk hRr
  obtain ⟨kk, Hkk⟩ : ∃ kk, Hid (ksum ⟨tk, tx, tn, tl, tc⟩ = kk) := ⟨_, rfl⟩
  rw [Hkk.out] at hkt
  have HKT := qa0 hkt
  clear hkt
  by_cases hk0 : kk = 0
  ·have hq : Q = .ok (y, lst K jr) := by
    rw [hQ]
    obtain ⟨f, rfl⟩ : ∃ f, fk = f + 1 := ⟨fk - 1, by omega⟩
    rcases Nat.lt_or_ge jr K.n with h | h
    ·rw [qaa K h, qcl, ht, Hkk.out, if_pos hk0]
    ·rw [qbl K h, qiz]
   rw [hq]
   subst hk0
   clear hQ hq
   go_wp2_with (first
    | (go_at_call 83; refine (HKT.out _).mono ?_; rintro e w2 ⟨rfl, hb2⟩; have HB2 := qa0 hb2; have HV2 := qa0 (HVx.out.later hb2); have HR2 := qa0 (HRs.out.later hb2); clear hb2; have y0 := HV2.out.cell 0 (.int .u8 (k2 : Int)) rfl; have y1 := HV2.out.cell 1 (.int .i64 n2) rfl; have y2 := HV2.out.cell 2 (.string nm2) rfl; have y3 := HV2.out.cell 3 (.slice a2 len2 len2) rfl; have y4 := HV2.out.cell 4 (.int .i64 ln2) rfl; have y5 := HV2.out.cell 5 (.int .i64 cl2) rfl)
    | (refine qa1 rfl 37 _ _ rfl w.heap.size _ #[.int .u8 (k2 : Int), .int .i64 n2, .string nm2, .slice a2 len2 len2, .int .i64 ln2, .int .i64 cl2] rfl rfl HR2.out qb9 rfl (qfc rfl rfl rfl rfl rfl rfl) ?_; intro w8 HV8 hg8))
   have d0 := HV8.out.cell 0 (.int .u8 (k2 : Int)) rfl
   have d1 := HV8.out.cell 1 (.int .i64 n2) rfl
   have d2 := HV8.out.cell 2 (.string nm2) rfl
   have d3 := HV8.out.cell 3 (.slice a2 len2 len2) rfl
   have d4 := HV8.out.cell 4 (.int .i64 ln2) rfl
   have d5 := HV8.out.cell 5 (.int .i64 cl2) rfl
   refine bodyPost_ret (v := .agg #[.int .u8 (k2 : Int), .int .i64 n2, .string nm2, .slice a2 len2 len2, .int .i64 ln2, .int .i64 cl2]) (by simp [results, Tryz.results39, go_sem, d0, d1, d2, d3, d4, d5]) rfl ?_
   have z2 := HB2.out.size
   have z8 := hg8.out.size
   have zg := HGk.out.size
   refine ⟨?_, _, rfl, ?_, ?_⟩
   ·refine ⟨?_, ?_, ?_, by omega, fun b hb n1 n2 => ?_⟩
    ·rw [hg8.out.os, HB2.out.os, HGk.out.os]
    ·rw [hg8.out.tape, HB2.out.tape, HGk.out.tape]
    ·rw [hg8.out.output, HB2.out.output, HGk.out.output]
    ·rw [hg8.out.block b (by omega) (by simp; omega), HB2.out.block b (by omega), HGk.out.block b hb n1 n2]
   ·exact ((HXG.out.step (Ax.of HB2.out)).step (Ax.grown hg8.out (by omega))).xf.weak (by omega)
   ·rw [qan, show K.n - (K.n - jr) = jr by omega]
    exact HR.out.step (HRr.out.later HB2.out) (fun b hb => hg8.out.block b (by omega) (by simp; omega))
  ·have hjr : jr < K.n := by
    rcases Nat.lt_or_ge jr K.n with h | h
    ·exact h
    ·have e : jr = K.n := by omega
     have et := HKo.out.et
     rw [← e, ht] at et
     dsimp only at et
     subst et
     exact absurd Hkk.out.symm hk0
   obtain ⟨f, rfl⟩ : ∃ f, fk = f + 1 := ⟨fk - 1, by omega⟩
   rw [qaa K hjr, qcl, ht, Hkk.out, if_neg hk0] at hQ
   have hm : min (jr + 1) K.n = jr + 1 := by omega
   have hqk : ((kk : Int) == 0) = false := by simp; omega
   have hC : ∀ w', Rr K w' (jr + 1) → Calls Tryz.prog 82 #[.pointer (some ⟨K.r, 0, none⟩)] w' (RX K w' (px f 1 y (lst K (jr + 1)))) := fun w' hr => HIH.out f (by omega) y w' (jr + 1) hr (by omega)
   have hlen := qan K (jr + 1)
   have hsuf := (qeu f).2.1 y (lst K (jr + 1))
   have hpl := (qed f).2.1 y (lst K (jr + 1))
   have HTA : Hid (∀ w', Rr K w' jr → Calls Tryz.prog 84 #[.pointer (some ⟨K.r, 0, none⟩)] w' fun e w'' => e = .returned (.agg #[.int .u8 (tk : Int), .string tx, .int .i64 tn, .int .i64 tl, .int .i64 tc]) ∧ Rr K w'' (jr + 1) ∧ Gk K w' w'') := fun w' hr => by
    have := rtake K w' jr hr
    rw [hm, ht] at this
    exact this
   have hkb : kk < 256 := by
    rw [← Hkk.out]
    unfold ksum
    repeat' split
    all_goals omega
   go_wp2_with (first
    | (go_at_call 83; refine (HKT.out _).mono ?_; rintro e w2 ⟨rfl, hb2⟩; have HB2 := qa0 hb2; have HV2 := qa0 (HVx.out.later hb2); have HR2 := qa0 (HRs.out.later hb2); have HD2 := qa0 (HRr.out.later hb2); clear hb2)
    | (go_at_call 84; refine (HTA.out _ HD2.out).mono ?_; rintro e w3 ⟨rfl, hr3, hg3⟩; have HG3 := qa0 hg3; have HD3 := qa0 hr3; have z2 := HB2.out.size; have zg := HGk.out.size; have HV3 := qa0 (HV2.out.keptBy (hg3.block _ HV2.out.lt (by omega) (by omega))); have HR3 := qa0 (HR2.out.keptBy (hg3.block _ HR2.out.lt (by omega) (by omega))); clear hr3 hg3))
   have z3 := HG3.out.size
   refine qc9 (k := 7) (n := 7) (fun w' => w'.cell? ⟨w3.heap.size, 0, none⟩ = some (.int .u8 (tk : Int)) ∧ w'.cell? ⟨w3.heap.size, 1, none⟩ = some (.string tx) ∧ w'.cell? ⟨w3.heap.size, 2, none⟩ = some (.int .i64 tn) ∧ w'.cell? ⟨w3.heap.size, 3, none⟩ = some (.int .i64 tl) ∧ w'.cell? ⟨w3.heap.size, 4, none⟩ = some (.int .i64 tc) ∧ w'.cell? ⟨w1.heap.size, 0, none⟩ = some (.int .u8 (k2 : Int)) ∧ w'.cell? ⟨w1.heap.size, 1, none⟩ = some (.int .i64 n2) ∧ w'.cell? ⟨w1.heap.size, 2, none⟩ = some (.string nm2) ∧ w'.cell? ⟨w1.heap.size, 3, none⟩ = some (.slice a2 len2 len2) ∧ w'.cell? ⟨w1.heap.size, 4, none⟩ = some (.int .i64 ln2) ∧ w'.cell? ⟨w1.heap.size, 5, none⟩ = some (.int .i64 cl2)) (by kernel_rfl) (by kernel_rfl) (by decide) (by rfl) ?_
   obtain ⟨W0, HW0⟩ : ∃ W0, Hid ((w3.alloc (.cells #[.int .u8 (tk : Int), .string tx, .int .i64 tn, .int .i64 tl, .int .i64 tc] 104)).drew = W0) := ⟨_, rfl⟩
   have HBd : Hid (Below w3.heap.size w3 W0) := by show Below _ _ _; rw [← HW0.out]; exact (jlow _ _).drew
   have HTk : Hid (Vn W0 w3.heap.size 104 #[.int .u8 (tk : Int), .string tx, .int .i64 tn, .int .i64 tl, .int .i64 tc]) := by show Vn _ _ _ _; rw [← HW0.out]; exact (Vn.new w3 _ _).later ((Below.refl _ _).drew)
   have HV4 := qa0 (HV3.out.later HBd.out)
   have HR4 := qa0 (HR3.out.later HBd.out)
   have HD4 := qa0 (HD3.out.later HBd.out)
   have z4 := HTk.out.lt
   rw [HW0.out]
   clear HW0 c1 c2 c3 c4 c5
   refine wtkq 0 ?vs0_1 rfl (by kernel_rfl) (fun _ _ _ h => h) (by rfl) ?ys0_1 ⟨HTk.out.cell 0 _ rfl, HTk.out.cell 1 _ rfl, HTk.out.cell 2 _ rfl, HTk.out.cell 3 _ rfl, HTk.out.cell 4 _ rfl, HV4.out.cell 0 _ rfl, HV4.out.cell 1 _ rfl, HV4.out.cell 2 _ rfl, HV4.out.cell 3 _ rfl, HV4.out.cell 4 _ rfl, HV4.out.cell 5 _ rfl⟩ ?zs0_1
   case ys0_1 => (intro w hSw; (try dsimp only at hSw); (try obtain ⟨s0, s1, s2, s3, s4, s5, s6, s7, s8, s9, sa⟩ := hSw); go_simp; try with_reducible rfl)
   try simp only [nz1, nz3, Act.put, nz4, nz5, nz6]
   refine wtkq 1 ?vs1_2 rfl (by kernel_rfl) (fun _ _ _ h => h) (by rfl) ?ys1_2 ⟨HTk.out.cell 0 _ rfl, HTk.out.cell 1 _ rfl, HTk.out.cell 2 _ rfl, HTk.out.cell 3 _ rfl, HTk.out.cell 4 _ rfl, HV4.out.cell 0 _ rfl, HV4.out.cell 1 _ rfl, HV4.out.cell 2 _ rfl, HV4.out.cell 3 _ rfl, HV4.out.cell 4 _ rfl, HV4.out.cell 5 _ rfl⟩ ?zs1_2
   case ys1_2 => (intro w hSw; (try dsimp only at hSw); (try obtain ⟨s0, s1, s2, s3, s4, s5, s6, s7, s8, s9, sa⟩ := hSw); go_simp; try with_reducible rfl)
   try simp only [nz1, nz2, nz3, Act.put, nz4, nz5, nz6]
   refine wtkq 2 ?vs2_3 rfl (by kernel_rfl) (fun _ _ _ h => h) (by rfl) ?ys2_3 ⟨HTk.out.cell 0 _ rfl, HTk.out.cell 1 _ rfl, HTk.out.cell 2 _ rfl, HTk.out.cell 3 _ rfl, HTk.out.cell 4 _ rfl, HV4.out.cell 0 _ rfl, HV4.out.cell 1 _ rfl, HV4.out.cell 2 _ rfl, HV4.out.cell 3 _ rfl, HV4.out.cell 4 _ rfl, HV4.out.cell 5 _ rfl⟩ ?zs2_3
   case ys2_3 => (intro w hSw; (try dsimp only at hSw); (try obtain ⟨s0, s1, s2, s3, s4, s5, s6, s7, s8, s9, sa⟩ := hSw); go_simp; try with_reducible rfl)
   try simp only [nz1, nz2, nz3, Act.put, nz4, nz5, nz6]
   refine wtkq 3 ?vs3_4 rfl (by kernel_rfl) (fun _ _ _ h => h) (by rfl) ?ys3_4 ⟨HTk.out.cell 0 _ rfl, HTk.out.cell 1 _ rfl, HTk.out.cell 2 _ rfl, HTk.out.cell 3 _ rfl, HTk.out.cell 4 _ rfl, HV4.out.cell 0 _ rfl, HV4.out.cell 1 _ rfl, HV4.out.cell 2 _ rfl, HV4.out.cell 3 _ rfl, HV4.out.cell 4 _ rfl, HV4.out.cell 5 _ rfl⟩ ?zs3_4
   case ys3_4 => (intro w hSw; (try dsimp only at hSw); (try obtain ⟨s0, s1, s2, s3, s4, s5, s6, s7, s8, s9, sa⟩ := hSw); go_simp; try with_reducible rfl)
   try simp only [nz1, nz2, nz3, Act.put, nz4, nz5, nz6]
   refine wpAnyH_ready (rs := [4]) (by kernel_rfl) (by simp) ?_
   refine AllReadyH.cons rfl (fun KK hKK => ?_) AllReadyH.nil
   go_simp
   cases hq : px f 1 y (lst K (jr + 1)) with
   | error s =>
    rw [hq] at hC hQ
    rw [qa7] at hQ
    subst hQ
    refine (hC _ HD4.out).mono ?_
    rintro e w5 ⟨hg5, he5⟩
    replace he5 : e = mis (K.g (K.n - s.length)) := he5
    subst he5
    have HG5 := qa0 hg5
    clear hg5
    unfold mis
    exact ⟨rfl, ((((HGk.out.trans (Gk.of HB2.out)).trans HG3.out).trans (Gk.of HBd.out)).trans HG5.out), rfl⟩
   | ok p =>
    obtain ⟨yb, s⟩ := p
    have hsl := (qed f).2.1 y (lst K (jr + 1)) yb s hq
    rw [hq] at hC hQ hsuf
    rw [qa4] at hQ
    have hs := qaw K _ (jr + 1) rfl hsuf
    obtain ⟨l3, HL3⟩ : ∃ l3, Hid (yb [] = l3) := ⟨_, rfl⟩
    obtain ⟨k3, n3, nm3, len3, ln3, cl3⟩ := l3
    refine (hC _ HD4.out).mono ?_
    rintro e w5 ⟨hg5, v5, rfl, hxf, hr5⟩
    obtain ⟨a3, hv, hok, hfr⟩ := id hxf
    rw [HL3.out] at hv
    subst hv
    have HF5 := qa0 hxf
    have HG5 := qa0 hg5
    have HD5 := qa0 hr5
    have HT5 := qa0 (HTk.out.keptBy (hg5.block _ HTk.out.lt (by omega) (by omega)))
    have HV5 := qa0 (HV4.out.keptBy (hg5.block _ HV4.out.lt (by omega) (by omega)))
    have HR5 := qa0 (HR4.out.keptBy (hg5.block _ HR4.out.lt (by omega) (by omega)))
    clear hxf hg5 hr5 hok hfr
    refine hKK.out _ _ ⟨HT5.out.cell 0 _ rfl, HT5.out.cell 1 _ rfl, HT5.out.cell 2 _ rfl, HT5.out.cell 3 _ rfl, HT5.out.cell 4 _ rfl, HV5.out.cell 0 _ rfl, HV5.out.cell 1 _ rfl, HV5.out.cell 2 _ rfl, HV5.out.cell 3 _ rfl, HV5.out.cell 4 _ rfl, HV5.out.cell 5 _ rfl⟩ (fun _ => ?_)
    clear hKK KK
    refine wpAnyH_ready (rs := [5]) (by kernel_rfl) (by simp) ?_
    refine AllReadyH.cons rfl (fun KK hKK => ?_) AllReadyH.nil
    refine wp_bx2 _ _ rfl #[.int .u8 (k2 : Int), .int .i64 n2, .string nm2, .slice a2 len2 len2, .int .i64 ln2, .int .i64 cl2] #[.int .u8 (k3 : Int), .int .i64 n3, .string nm3, .slice a3 len3 len3, .int .i64 ln3, .int .i64 cl3] rfl rfl rfl rfl ?_
    have HT6 := qa0 (HT5.out.later (jlow w5 (.cells (#[.int .u8 (k2 : Int), .int .i64 n2, .string nm2, .slice a2 len2 len2, .int .i64 ln2, .int .i64 cl2] ++ #[.int .u8 (k3 : Int), .int .i64 n3, .string nm3, .slice a3 len3 len3, .int .i64 ln3, .int .i64 cl3]) 37)))
    have HV6 := qa0 (HV5.out.later (jlow w5 (.cells (#[.int .u8 (k2 : Int), .int .i64 n2, .string nm2, .slice a2 len2 len2, .int .i64 ln2, .int .i64 cl2] ++ #[.int .u8 (k3 : Int), .int .i64 n3, .string nm3, .slice a3 len3 len3, .int .i64 ln3, .int .i64 cl3]) 37)))
    have HR6 := qa0 (HR5.out.later (jlow w5 (.cells (#[.int .u8 (k2 : Int), .int .i64 n2, .string nm2, .slice a2 len2 len2, .int .i64 ln2, .int .i64 cl2] ++ #[.int .u8 (k3 : Int), .int .i64 n3, .string nm3, .slice a3 len3 len3, .int .i64 ln3, .int .i64 cl3]) 37)))
    refine hKK.out _ _ ⟨HT6.out.cell 0 _ rfl, HT6.out.cell 1 _ rfl, HT6.out.cell 2 _ rfl, HT6.out.cell 3 _ rfl, HT6.out.cell 4 _ rfl, HV6.out.cell 0 _ rfl, HV6.out.cell 1 _ rfl, HV6.out.cell 2 _ rfl, HV6.out.cell 3 _ rfl, HV6.out.cell 4 _ rfl, HV6.out.cell 5 _ rfl⟩ (fun _ => ?_)
    clear hKK KK
    try simp only [nz1, nz2, nz3, Act.put, nz4, nz5, nz6]
    refine wpAnyH_ready (rs := [6]) (by kernel_rfl) (by simp) ?_
    refine AllReadyH.cons rfl (fun KK hKK => ?_) AllReadyH.nil
    go_simp
    have HJ := rjoined (w5.alloc (.cells (#[.int .u8 (k2 : Int), .int .i64 n2, .string nm2, .slice a2 len2 len2, .int .i64 ln2, .int .i64 cl2] ++ #[.int .u8 (k3 : Int), .int .i64 n3, .string nm3, .slice a3 len3 len3, .int .i64 ln3, .int .i64 cl3]) 37)) kk ⟨tk, tx, tn, tl, tc⟩ (some ⟨w5.heap.size, 0, none⟩) 2 2
    unfold tvq at HJ
    refine HJ.mono ?_
    rintro e w7 ⟨rfl, hb7⟩
    have HB7 := qa0 hb7
    have HT7 := qa0 (HT6.out.later hb7)
    have HV7 := qa0 (HV6.out.later hb7)
    have HR7 := qa0 (HR6.out.later hb7)
    clear hb7 HJ
    refine hKK.out _ _ ⟨HT7.out.cell 0 _ rfl, HT7.out.cell 1 _ rfl, HT7.out.cell 2 _ rfl, HT7.out.cell 3 _ rfl, HT7.out.cell 4 _ rfl, HV7.out.cell 0 _ rfl, HV7.out.cell 1 _ rfl, HV7.out.cell 2 _ rfl, HV7.out.cell 3 _ rfl, HV7.out.cell 4 _ rfl, HV7.out.cell 5 _ rfl⟩ (fun _ => ?_)
    clear hKK KK
    refine wpAnyH_done (by kernel_rfl) ?_ _
    refine qdi rfl (fun KK hKK => ?_)
    refine qa9 37 _ _ rfl w1.heap.size _ #[.int .u8 (kk : Int), .int .i64 0, .string ⟨#[]⟩, .slice (some ⟨w5.heap.size, 0, none⟩) 2 2, .int .i64 tl, .int .i64 tc] rfl rfl HV7.out qb9 rfl (qfc rfl rfl rfl rfl rfl rfl) ?_
    intro w8 HV8 hg8
    refine hKK.out _ _ ?_
    clear hKK KK
    have z5 := HG5.out.size
    have zd := HBd.out.size
    have za : w5.heap.size ≤ (w5.alloc (.cells (#[.int .u8 (k2 : Int), .int .i64 n2, .string nm2, .slice a2 len2 len2, .int .i64 ln2, .int .i64 cl2] ++ #[.int .u8 (k3 : Int), .int .i64 n3, .string nm3, .slice a3 len3 len3, .int .i64 ln3, .int .i64 cl3]) 37)).heap.size := (jlow _ _).size
    have z7 := HB7.out.size
    have z8 := hg8.out.size
    have g7 := ((((((HGk.out.trans (Gk.of HB2.out)).trans HG3.out).trans (Gk.of HBd.out)).trans HG5.out).trans (Gk.of (jlow _ _))).trans (Gk.of HB7.out))
    have hR8 : Rr K w8 (K.n - s.length) := HR.out.step ((HD5.out.later (jlow _ _)).later HB7.out) (fun b hb => hg8.out.block b (by omega) (by simp; omega))
    have hxy : XG (w.heap.size + 1) w1.heap.size w5 (.agg #[.int .u8 (k2 : Int), .int .i64 n2, .string nm2, .slice a2 len2 len2, .int .i64 ln2, .int .i64 cl2]) y := (((HXG.out.step (Ax.of HB2.out)).step (Ax.gk HG3.out (by omega) (by omega))).step (Ax.of HBd.out)).step (Ax.gk HG5.out (by omega) (by omega))
    have hxb : XG (w.heap.size + 1) w1.heap.size w5 (.agg #[.int .u8 (k3 : Int), .int .i64 n3, .string nm3, .slice a3 len3 len3, .int .i64 ln3, .int .i64 cl3]) yb := HF5.out.behind (by omega) (by omega)
    have hTe : SuL K n w w.heap.size w1.heap.size (w.heap.size + 1) Q w8 := by
     refine ⟨⟨f, yTwo kk ⟨tk, tx, tn, tl, tc⟩ y yb, K.n - s.length, by omega, by omega, by rw [← hs]; exact hQ, hR8, some ⟨w5.heap.size, 0, none⟩, ⟨_, rfl, okx kk 2 tl tc hkb (Nat.le_refl _), fun u hu => ?_⟩, HV8.out⟩, HR7.out.keptG hg8.out (by simp; omega), ?_⟩
     ·exact xg_two hxy hxb rfl rfl (by omega) (by omega) (kid (yTwo kk ⟨tk, tx, tn, tl, tc⟩ y yb)) rfl rfl u (((Ax.of HB7.out).trans (Ax.grown hg8.out (Or.inl rfl))).trans hu)
     ·exact ⟨by rw [hg8.out.os, g7.os], by rw [hg8.out.tape, g7.tape], by rw [hg8.out.output, g7.output], by omega, fun b hb n1 n2 => by rw [hg8.out.block b (by omega) (by simp; omega), g7.block b hb n1 n2]⟩
    refine And.intro ?gg ?mm
    case gg => exact ⟨_, _, _, _, _, _, _, _, _, _, _, _, _, _, _, _, _, _, _, hTe, rfl⟩
    case mm =>
     rw [hml, hR8.tld]
     omega
open Go.RowKit
theorem qjh (K : Rk) (w : World) (j : Nat) (HR : Hid (Rr K w j)) (u : TV)
  (HS : Hid (∀ w', Rr K w' j → Calls Tryz.prog 129 #[.pointer (some ⟨K.r, 0, none⟩)] w' fun e w'' => Gk K w' w'' ∧ e = mis u)) :
  Calls Tryz.prog 82 #[.pointer (some ⟨K.r, 0, none⟩)] w fun e w' => Gk K w w' ∧ e = mis u := by
 have HB0 := qa0 (jlow w (.cells #[.int .u8 0, .int .i64 0, .string ⟨#[]⟩, .slice none 0 0, .int .i64 0, .int .i64 0] 37))
 have HR0 := qa0 (HR.out.later HB0.out)
 unfold mis tvq at *
 go_enter Tryz.func82, Tryz.ntmps82
 go_wp2_with (go_at_call 129; refine (HS.out _ HR0.out).mono ?_; rintro e w1 ⟨hg1, rfl⟩; have HG1 := qa0 hg1; clear hg1)
 exact ⟨rfl, (Gk.of HB0.out).trans HG1.out, rfl⟩
theorem rterm (K : Rk) (hK : RkOk K) (n : Nat) (IH : ∀ m, m ≤ n → FacC K m) : TermC K (n + 1) := by
 intro x w j hR hn
 rw [px1]
 have hC : ∀ w', Rr K w' j → Calls Tryz.prog 129 #[.pointer (some ⟨K.r, 0, none⟩)] w' (RX K w' (px n 0 x (lst K j))) := fun w' hr => IH n (Nat.le_refl _) x w' j hr (by omega)
 have hlen := qan K j
 have hle := hR.le
 have hsuf := (qeu n).1 x (lst K j)
 cases hq : px n 0 x (lst K j) with
 | error s =>
  rw [hq] at hC
  exact (qjh K w j hR (K.g (K.n - s.length)) hC).mono (fun e w' h => h)
 | ok p =>
  obtain ⟨y, s⟩ := p
  have hsl := (qed n).1 x (lst K j) y s hq
  rw [hq] at hC hsuf
  have hs := qaw K _ j rfl hsuf
  rw [qa4, hs]
  exact rterm_ok K hK n (fun m hm => IH m (Nat.le_of_lt hm)) w j hR y (K.n - s.length) (by omega) hC
theorem rsum_err (K : Rk) (w : World) (j : Nat) (HR : Hid (Rr K w j)) (u : TV)
  (HS : Hid (∀ w', Rr K w' j → Calls Tryz.prog 82 #[.pointer (some ⟨K.r, 0, none⟩)] w' fun e w'' => Gk K w' w'' ∧ e = mis u)) :
  Calls Tryz.prog 39 #[.pointer (some ⟨K.r, 0, none⟩)] w fun e w' => Gk K w w' ∧ e = mis u := by
 have HB0 := qa0 (jlow w (.cells #[.int .u8 0, .int .i64 0, .string ⟨#[]⟩, .slice none 0 0, .int .i64 0, .int .i64 0] 37))
 have HR0 := qa0 (HR.out.later HB0.out)
 unfold mis tvq at *
 go_enter Tryz.func39, Tryz.ntmps39
 go_wp2_with (go_at_call 82; refine (HS.out _ HR0.out).mono ?_; rintro e w1 ⟨hg1, rfl⟩; have HG1 := qa0 hg1; clear hg1)
 exact ⟨rfl, (Gk.of HB0.out).trans HG1.out, rfl⟩
theorem rsum (K : Rk) (hK : RkOk K) (n : Nat) (IH : ∀ m, m ≤ n → TermC K m) : SumC K (n + 1) := by
 intro x w j hR hn
 rw [px3]
 have hC : ∀ w', Rr K w' j → Calls Tryz.prog 82 #[.pointer (some ⟨K.r, 0, none⟩)] w' (RX K w' (px n 1 x (lst K j))) := fun w' hr => IH n (Nat.le_refl _) x w' j hr (by omega)
 have hlen := qan K j
 have hle := hR.le
 have hsuf := (qeu n).2.1 x (lst K j)
 cases hq : px n 1 x (lst K j) with
 | error s =>
  rw [hq] at hC
  exact (rsum_err K w j hR (K.g (K.n - s.length)) hC).mono (fun e w' h => h)
 | ok p =>
  obtain ⟨y, s⟩ := p
  have hsl := (qed n).2.1 x (lst K j) y s hq
  rw [hq] at hC hsuf
  have hs := qaw K _ j rfl hsuf
  rw [qa4, hs]
  exact rsum_ok K hK n (fun m hm => IH m (Nat.le_of_lt hm)) w j hR y (K.n - s.length) (by omega) hC
theorem rall (K : Rk) (hK : RkOk K) : ∀ n m, m ≤ n → FacC K m ∧ TermC K m ∧ SumC K m := by
 intro n
 induction n with
 | zero =>
  intro m hm
  exact ⟨fun _ _ _ _ h => by omega, fun _ _ _ _ h => by omega, fun _ _ _ _ h => by omega⟩
 | succ n ih =>
  intro m hm
  rcases Nat.lt_or_ge m (n + 1) with h | h
  ·exact ih m (by omega)
  ·obtain rfl : m = n + 1 := by omega
   exact ⟨rfac K hK n (ih n (Nat.le_refl _)).1 (ih n (Nat.le_refl _)).2.2, rterm K hK n (fun m hm => (ih m hm).1), rsum K hK n (fun m hm => (ih m hm).2.1)⟩
end Go.Proofs.YtnjcpmkfghcogaaGreatDoor
