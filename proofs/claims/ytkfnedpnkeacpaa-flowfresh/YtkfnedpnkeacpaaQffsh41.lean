/-
  Stage 21: the reference's Copy of a flow.
-/
import Derived.Test.YtkfnedpnkeacpaaQffsh00
import Derived.Test.YtkfnedpnkeacpaaQffsh40
set_option maxRecDepth 100000
set_option maxHeartbeats 16000000
namespace Go.Proofs.Ytkfnedpnkeacpaa
open Go.RowKit
theorem qa1 {ops : Array Oper} {op : Oper} {a : Act} {w : World} {K : Act → World → Prop} {Q : Exit → Act → World → Prop} {E : Prop} (hgd : op.guard = none) (T : TypeId) (p q : Operand) (ho : op.op = .store T p q)
  (b : Nat) (xs ys : Array Value) (hp : a.eval p = .pointer (some ⟨b, 0, none⟩)) (hq : a.eval q = .agg ys) (hv : Vf w b T xs) (hi : (Try.prog.info? T).map (·.size) = some ys.size) (hsz : xs.size = ys.size) (h1 : ys.all (·.oneCell') = true)
  (h : ∀ w', Hid (Vf w' b T ys) → Hid (w.grownBy w' (some b)) → K (a.put op.dst undef) w') : if Region.wanted op (yielded ops a.tmps) = true then Oper.wp Try.prog op a w K Q else E := by
 have hw : Region.wanted op (yielded ops a.tmps) = true := by simp [Region.wanted, hgd]
 rw [if_pos hw]
 exact wp_store_row T p q ho b ys hp hq T xs hv hi hsz h1 (h _ (hv.row ys) (qaz w b ys))
/-- A list that an append answered lies off a literal beside it. -/
theorem iw_off {W W' : World} {B g1 g2 B2 m : Nat} {v : Value} {q : Nat → Int} (h : Iw W' B v m q) (hg : W.grownBy W' (some g1)) (h2 : W.ownsRow B2 3 1 (.slice (some ⟨g2, 0, none⟩) 0 0) 0 []) (hne : g2 ≠ g1) : ∃ a d, v = .slice a m d ∧ Jt W' a m q ∧ ∀ W'', W'.grownBy W'' (some g2) → Jt W'' a m q := by
 obtain ⟨a, d, e, hj⟩ := h.jt
 refine ⟨a, d, e, hj, fun W'' hg2 hn => ?_⟩
 obtain ⟨g, ea, cur, hgc, hc⟩ := hj hn
 refine ⟨g, ea, cur, ?_, hc⟩
 have hgg : g ≠ g2 := fun e2 => by
  subst e2
  rcases h2.2 with ⟨e3, _⟩ | ⟨g', cap', cur', e3, _, hg', _, _, hs', _⟩
  ·simp at e3
  ·simp only [Value.slice.injEq, Option.some.injEq, Addr.mk.injEq, and_true, true_and] at e3
   obtain ⟨rfl, rfl⟩ := e3
   have h3 := hg.block g (lt_of_block hg') (fun e4 => hne (Option.some.inj e4))
   rw [hgc, hg'] at h3
   have h4 : cur = cur' := by simpa using h3
   have h5 := hc 0 hn
   rw [h4, Array.getElem?_eq_none (by omega)] at h5
   cases h5
 rw [hg2.block g (lt_of_block hgc) (fun e4 => hgg (Option.some.inj e4))]
 exact hgc
theorem nls_ok {w : World} {b : Option Addr} {F : Fl} (h : Ndl w b F.nn F.nt F.of F.fc) : ∀ L ∈ nls F F.nn, L.length ≤ 140737488351232 ∧ ∀ x ∈ L, x.2 < 256 := by
 intro L hL
 unfold nls at hL
 obtain ⟨i, hi, rfl⟩ := List.mem_map.1 hL
 obtain ⟨h1, x, o, t, d, _, _, ht⟩ := h i (by simpa using hi)
 refine ⟨by rw [qbk]; exact h1, fun x hx => ?_⟩
 unfold tms at hx
 obtain ⟨j, hj, rfl⟩ := List.mem_map.1 hx
 exact (ht j (by simpa using hj)).1
theorem nls_flr {w w9 : World} {a b c a1 b4 a2 : Option Addr} {F : Fl} {B q4 : Nat} (hF : FlR w a b c F) (h1 : Jl w9 a1 .i64 F.ni F.inp) (hn : Nw w9 B (.slice b4 F.nn q4) (nls F F.nn)) (h2 : Jl w9 a2 .i64 F.no F.out) : FlR w9 a1 b4 a2 F := by
 have h3 := (hn.ndl (nls_ok hF.nodes)).2
 rw [qcn] at h3
 refine ⟨hF.hi, hF.hn, hF.ho, h1, fun i hi => ?_, h2⟩
 obtain ⟨g1, x, o, t, d, e, c, ht⟩ := h3 i hi
 simp only [nls_get _ _ _ hi, qbk] at g1 c ht
 refine ⟨g1, x, o, t, d, e, c, fun j hj => ?_⟩
 have h4 := ht j hj
 simp only at h4
 have e2 : (tms (F.nt i) (F.of i) (F.fc i)).getD j (0, 0) = (F.of i j, F.fc i j) := by rw [List.getD_eq_getElem?_getD, qfj _ _ _ _ hj]; rfl
 rw [e2] at h4
 exact h4
/-- A copy of a flow. -/
structure CpF (w : World) (a b : Option Addr) (q : Nat) (c : Option Addr) (F : Fl) : Prop where
 inp : Jt w a F.ni F.inp
 nodes : ∃ B, Nw w B (.slice b F.nn q) (nls F F.nn)
 outs : Jt w c F.no F.out
theorem CpF.later {w w' : World} {a b c : Option Addr} {q : Nat} {F : Fl} (h : CpF w a b q c F) (hb : Below w.heap.size w w') : CpF w' a b q c F := by
 obtain ⟨B, hn⟩ := h.nodes
 exact ⟨h.inp.later hb, ⟨B, hn.later hb⟩, h.outs.later hb⟩
theorem CpF.var {w w' : World} {a b c : Option Addr} {q V : Nat} {F : Fl} {T : TypeId} {xs : Array Value} (h : CpF w a b q c F) (hg : w.grownBy w' (some V)) (hV : Vf w V T xs) (h1 : 3 ≠ T) (h2 : 59 ≠ T) (h3 : 61 ≠ T) : CpF w' a b q c F := by
 obtain ⟨B, ws, q1, q2⟩ := h.nodes
 refine ⟨h.inp.var hg hV h1, ⟨B, ws, World.ownsRow.kept q1 hg (qab q1 hV h2), fun i L hi => ?_⟩, h.outs.var hg hV h1⟩
 obtain ⟨x, hx, ht⟩ := q2 i L hi
 exact ⟨x, hx, ht.kept hg (qab ht hV h3)⟩
theorem CpF.flr {w w9 : World} {a b c a1 b4 a2 : Option Addr} {q4 : Nat} {F : Fl} (h : CpF w9 a1 b4 q4 a2 F) (hF : FlR w a b c F) : FlR w9 a1 b4 a2 F := by
 obtain ⟨B, hn⟩ := h.nodes
 exact nls_flr hF h.inp.jl hn h.outs.jl
theorem rcpf_any (w : World) (a b c : Option Addr) (p q r : Nat) (F : Fl) (h : FlX w a p b c r F) :
  Calls Try.prog 24 #[flv a F.ni p b F.nn q c F.no r] w fun e w' => (∃ a' p' b' q' c' r', e = .returned (flv a' F.ni p' b' F.nn q' c' F.no r') ∧ CpF w' a' b' q' c' F) ∧ Below w.heap.size w w' := by
 obtain ⟨s0, hs0, hy0, hy1, hy2⟩ := info_parts jsli
 have HX := qa0 h
 obtain ⟨wb, HW⟩ : ∃ wb, Hid ((w.alloc (.cells #[.slice a F.ni p, .slice b F.nn q, .slice c F.no r] 28)).alloc (.cells #[.slice none 0 0, .slice none 0 0, .slice none 0 0] 28) = wb) := ⟨_, rfl⟩
 have HB0 : Hid (Below w.heap.size w wb) := by rw [← HW.out]; exact jtwo (jlow _ _) (jlow _ _)
 have HVF : Hid (Vf wb w.heap.size 28 #[.slice a F.ni p, .slice b F.nn q, .slice c F.no r]) := by rw [← HW.out]; exact (Vf.new w _ _).later (jlow _ _)
 have HVR : Hid (Vf wb (w.heap.size + 1) 28 #[.slice none 0 0, .slice none 0 0, .slice none 0 0]) := by rw [← HW.out]; exact Vf.new1 _ _ _ _
 obtain ⟨Q, HQ⟩ : ∃ Q : World → Ending → Prop, Hid ((fun w2 e => (∃ a' p' b' q' c' r', e = .returned (flv a' F.ni p' b' F.nn q' c' F.no r') ∧ CpF w2 a' b' q' c' F)) = Q) := ⟨_, rfl⟩
 have HQ2 : Hid (∀ (w9 : World) (a1 b4 a2 : Option Addr) (B d1 q4 d2 : Nat), Jt w9 a1 F.ni F.inp → Nw w9 B (.slice b4 F.nn q4) (nls F F.nn) → Jt w9 a2 F.no F.out → Q w9 (.returned (flv a1 F.ni d1 b4 F.nn q4 a2 F.no d2))) := fun w9 a1 b4 a2 B d1 q4 d2 h1 h2 h3 => by
  rw [← HQ.out]
  exact ⟨_, _, _, _, _, _, rfl, h1, ⟨B, h2⟩, h3⟩
 show Calls _ _ _ _ fun e w' => (fun w2 e => (∃ a' p' b' q' c' r', e = .returned (flv a' F.ni p' b' F.nn q' c' F.no r') ∧ CpF w2 a' b' q' c' F)) w' e ∧ _
 rw [HQ.out]
 have hn24 := h.n24
 have HInp := qa0 h.fl.inp
 have HOut := qa0 h.fl.outs
 have HA0 := qa0 h.a0
 have HC0 := qa0 h.c0
 have HI8 := qa0 h.i8
 have HO8 := qa0 h.o8
 have HNx := qa0 h.nd
 obtain ⟨ni, HNi⟩ : ∃ x, Hid (F.ni = x) := ⟨_, rfl⟩
 obtain ⟨nn, HNn⟩ : ∃ x, Hid (F.nn = x) := ⟨_, rfl⟩
 obtain ⟨no, HNo⟩ : ∃ x, Hid (F.no = x) := ⟨_, rfl⟩
 rw [HNi.out, HNn.out, HNo.out] at HQ2 HVF HW ⊢
 rw [HNi.out] at HInp HA0 HI8
 rw [HNo.out] at HOut HC0 HO8
 rw [HNn.out] at hn24 HNx
 clear h HQ HX
 go_enter Try.func24, Try.ntmps24
 go_wp2
 rw [HW.out]
 clear HW
 go_loopw [3, 4] (fun vv vi wr => ∃ k : Nat, k ≤ nn ∧ vi = .int .i64 (k : Int) ∧ Nw wr (w.heap.size + 2) vv (nls F k) ∧ Vf wr w.heap.size 28 #[.slice a ni p, .slice b nn q, .slice c no r] ∧ Vf wr (w.heap.size + 1) 28 #[.slice none 0 0, .slice none 0 0, .slice none 0 0] ∧ Below w.heap.size w wr) (fun _ vi _ => nn - (intOf vi).toNat)
 case atStart => exact ⟨0, by omega, rfl, Nw.nil _ _, HVF.out, HVR.out, HB0.out⟩
 case round =>
  clear HVF HVR HB0
  obtain ⟨k, hk, rfl, hnw, hvf, hvr, hb⟩ := hrel
  have HB := qa0 hb
  have HNw := qa0 hnw
  have HVF := qa0 hvf
  have HVR := qa0 hvr
  have x1 := hvf.cell 1 (.slice b nn q) rfl
  clear hvf
  by_cases hlk : k < nn
  ·obtain ⟨hl16, xb, xo, t, d, rfl, hc, ht, hn0⟩ := (HNx.out.later hb) k hlk
   have hsz := hvr.lt
   have HSu := qa0 (nls_succ F k)
   obtain ⟨m, HM⟩ : ∃ m, Hid (F.nt k = m) := ⟨_, rfl⟩
   rw [HM.out] at hl16 hc ht hn0 HSu
   have HE : Hid (Tw (wr.alloc (.cells #[] 61)) wr.heap.size (.slice (some ⟨wr.heap.size, 0, none⟩) 0 0) []) := World.ownsRow_lit wr #[] 0 (Nat.le_refl _) (by unfold maxLen; omega) rfl
   have HT1 := qa0 (ht.later (jlow wr (.cells #[] 61)))
   have HN0 := qa0 hn0
   have HL16 := qa0 hl16
   have p0 : (0 : Int) ≤ (k : Int) := by omega
   have p1 : (k : Int) < (nn : Int) := by omega
   have hml : k + 1 ≤ maxLen := by unfold maxLen; omega
   have y1 := (HVF.out.later (jlow wr (.cells #[] 61))).cell 1 (.slice (some ⟨xb, xo, none⟩) nn q) rfl
   have y2 : (wr.alloc (.cells #[] 61)).cell? ⟨xb, xo + k, none⟩ = some (.slice t m d) := by rw [(jlow wr (.cells #[] 61)).cell (p := ⟨xb, xo + k, none⟩) (qa5 hc)]; exact hc
   clear hnw hvr hb ht hn0 hl16
   go_wp2_with (first
    | (at_builtin; refine qbo rfl _ _ rfl wr.heap.size _ rfl HE.out t m d (F.of k) (F.fc k) rfl HT1.out HN0.out HL16.out (by simp) ?_; intro u w4 htw hgrow; obtain ⟨s4, d4, eu, -⟩ := htw.form; rw [qbk] at eu; subst eu; have HU := qa0 htw; have hb4 : Below wr.heap.size wr w4 := (jlow wr (.cells #[] 61)).grown hgrow (by simp) (fun k hk => by cases hk; exact Nat.le_refl _); have HB4 := qa0 (jtwo HB.out hb4); have HVF4 := qa0 (HVF.out.later hb4); have HVR4 := qa0 (HVR.out.later hb4); have HNw4 := qa0 ((HNw.out.later hb4).later (jlow w4 (.cells #[.slice s4 m d4] 59))); obtain ⟨vs, hvs, -⟩ := HNw4.out; rw [qcn] at hvs; have HVS := qa0 hvs; have hsz4 := hb4.size; clear hvs htw hgrow hb4)
    | (at_builtin; refine wpList_append_own _ rfl _ _ 26 rfl (w.heap.size + 2) 59 s0 (.slice none 0 0) 1 24 Try.underlying26 hs0 hy0 hy1 hy2 rfl (by decide) _ k vs rfl HVS.out ⟨w4.heap.size, 0, none⟩ 1 1 [.slice s4 m d4] rfl rfl (qap _ _ _) (by intro x hx; rw [List.mem_singleton.1 hx]; rfl) hml (by omega) (by simp; omega) ?_; intro v5 w5 hown5 hgrow5 _; have HO5 := qa0 hown5; have HG5 := qa0 hgrow5; clear hown5 hgrow5))
   have hal := jlow w4 (.cells #[.slice s4 m d4] 59)
   have hB5 := jtwo HB4.out hal
   exact ⟨⟨k + 1, by omega, by go_num, by
    rw [HSu.out]
    exact Nw.push HNw4.out ((HU.out.mono (by omega)).later hal) (fun ws qq => by
     rw [qcn] at qq ⊢
     obtain rfl := qbr qq HVS.out
     exact ⟨HO5.out, HG5.out⟩), (HVF4.out.later hal).kept HG5.out (qaq HVS.out (by omega)), (HVR4.out.later hal).kept HG5.out (qaq HVS.out (by omega)), hB5.grown HG5.out hB5.size (fun g e => by have := qac HVS.out g e; omega)⟩, by simp [intOf]; omega⟩
  ·obtain rfl : k = nn := by omega
   have e4 := hnw.form
   rw [qcn] at e4
   obtain ⟨b4, q4, rfl, -⟩ := e4
   have hsz := hvr.lt
   have hwr := hb.size
   clear hnw hvr hb
   go_wp2
   obtain ⟨x0, HX0⟩ : ∃ x, Hid (wr.drew = x) := ⟨_, rfl⟩
   have hdr := qal wr
   rw [HX0.out] at hdr
   have HVF0 := qa0 (HVF.out.later hdr)
   have HVR0 := qa0 (HVR.out.later hdr)
   have HNw0 := qa0 (HNw.out.later hdr)
   have HBw0 := qa0 (jtwo HB.out hdr)
   have HDr := qa0 (Below.refl x0.heap.size x0)
   have HInp0 := qa0 (HInp.out.later HBw0.out)
   have HOut0 := qa0 (HOut.out.later HBw0.out)
   have x0lt : w.heap.size + 1 < x0.heap.size := HVR0.out.lt
   have HFin : Hid (∀ (W w9 : World) (a1 : Option Addr) (d1 : Nat) (a2 : Option Addr) (d2 : Nat), Below x0.heap.size x0 W → Jt W a1 ni F.inp → Jt W a2 no F.out → W.grownBy w9 (some (w.heap.size + 1)) → Q w9 (.returned (flv a1 ni d1 b4 k q4 a2 no d2)) ∧ Below w.heap.size w w9) := fun W w9 a1 d1 a2 d2 hd h1 h2 hg => by
    have hvW := HVR0.out.later hd
    obtain ⟨ws, q1, q2⟩ := HNw0.out.later hd
    refine ⟨HQ2.out w9 a1 b4 a2 (w.heap.size + 2) d1 q4 d2 (h1.var hg hvW (by decide)) ⟨ws, World.ownsRow.kept q1 hg (qao q1 (by omega)), fun i L hi => ?_⟩ (h2.var hg hvW (by decide)), qaj ((HBw0.out.trans (hd.mono (by have := HBw0.out.size; omega)))) hg (by omega)⟩
    obtain ⟨x, hx, ht⟩ := q2 i L hi
    exact ⟨x, hx, ht.kept hg (qao ht (by omega))⟩
   clear hdr HVF HVR HNw HB HQ2
   have HDz : Hid ((fun w' => w'.cell? ⟨w.heap.size, 0, none⟩ = some (.slice a ni p) ∧ w'.cell? ⟨w.heap.size, 2, none⟩ = some (.slice c no r)) x0) := ⟨HVF0.out.cell 0 (.slice a ni p) rfl, HVF0.out.cell 2 (.slice c no r) rfl⟩
   refine qa7 (k := 10) (n := 10) (fun w' => w'.cell? ⟨w.heap.size, 0, none⟩ = some (.slice a ni p) ∧ w'.cell? ⟨w.heap.size, 2, none⟩ = some (.slice c no r)) (by kernel_rfl) (by kernel_rfl) (by decide) (by rfl) ?_
   rw [HX0.out]
   refine wtkq 1 ?vt1_1 rfl (by kernel_rfl) (fun _ _ _ h => h) (by rfl) ?yt1_1 HDz.out ?zt1_1
   case yt1_1 => (intro w hSw; (try dsimp only at hSw); go_simp; try with_reducible rfl)
   try simp only [mz1, mz2, mz3, Act.put, mz4, mz5, mz6]
   refine wtkq 2 ?vt2_2 rfl (by kernel_rfl) (fun _ _ _ h => h) (by rfl) ?yt2_2 HDz.out ?zt2_2
   case yt2_2 => (intro w hSw; (try dsimp only at hSw); go_simp; try with_reducible rfl)
   try simp only [mz1, mz2, mz3, Act.put, mz4, mz5, mz6]
   refine wtkq 4 ?vt4_3 rfl (by kernel_rfl) (fun _ _ _ h => h) (by rfl) ?yt4_3 HDz.out ?zt4_3
   case yt4_3 => (intro w hSw; (try dsimp only at hSw); go_simp; try with_reducible rfl)
   try simp only [mz1, mz2, mz3, Act.put, mz4, mz5, mz6]
   refine wtkq 6 ?vt6_4 rfl (by kernel_rfl) (fun _ _ _ h => h) (by rfl) ?yt6_4 HDz.out ?zt6_4
   case yt6_4 => (intro w hSw; (try dsimp only at hSw); go_simp; try with_reducible rfl)
   try simp only [mz1, mz2, mz3, Act.put, mz4, mz5, mz6]
   refine wtkq 7 ?vt7_5 rfl (by kernel_rfl) (fun _ _ _ h => h) (by rfl) ?yt7_5 HDz.out ?zt7_5
   case yt7_5 => (intro w hSw; (try dsimp only at hSw); go_simp; try with_reducible rfl)
   try simp only [mz1, mz2, mz3, Act.put, mz4, mz5, mz6]
   refine wpAnyH_ready (rs := [0, 5]) (by kernel_rfl) (by simp) ?_
   refine AllReadyH.cons rfl (fun KK hKK => ?_) (AllReadyH.cons rfl (fun KK hKK => ?_) AllReadyH.nil)
   ·go_simp
    have HD1 : Hid (Below x0.heap.size x0 (x0.alloc (.cells #[] 3))) := jtwo HDr.out (jlow x0 (.cells #[] 3))
    have HAl1 : Hid ((x0.alloc (.cells #[] 3)).ownsRow x0.heap.size 3 1 (.slice (some ⟨x0.heap.size, 0, none⟩) 0 0) 0 []) := World.ownsRow_lit x0 #[] 0 (Nat.le_refl _) (by unfold maxLen; omega) rfl
    have hlt1 : x0.heap.size < (x0.alloc (.cells #[] 3)).heap.size := by simp
    refine hKK.out _ _ ⟨(HVF0.out.later HD1.out).cell 0 (.slice a ni p) rfl, (HVF0.out.later HD1.out).cell 2 (.slice c no r) rfl⟩ (fun _ => ?_)
    clear hKK KK
    try simp only [mz1, mz2, mz3, Act.put, mz4, mz5, mz6]
    obtain ⟨y1, HW1⟩ : ∃ y, Hid (x0.alloc (.cells #[] 3) = y) := ⟨_, rfl⟩
    rw [HW1.out] at HAl1 HD1 hlt1 ⊢
    refine wpAnyH_ready (rs := [3, 5]) (by kernel_rfl) (by simp) ?_
    refine AllReadyH.cons rfl (fun KK hKK => ?_) (AllReadyH.cons rfl (fun KK hKK => ?_) AllReadyH.nil)
    ·refine qaa rfl _ _ rfl x0.heap.size ni p _ F.inp a rfl HAl1.out rfl (HInp0.out.later HD1.out) HA0.out HI8.out ?hb2 ?_
     case hb2 => exact Nat.le_of_lt (by omega)
     intro v y2 hiw hgrow
     have HD2 : Hid (Below x0.heap.size x0 y2) := HD1.out.trans (jbelow hgrow HD1.out.size (fun k9 e => by { have e9 : some (x0.heap.size) = some k9 := e; have e9 := Option.some.inj e9; omega }))
     obtain ⟨d1, dd1, rfl, hj1⟩ := hiw.jt
     have HJ2 := qa0 hj1
     have hz2 := hgrow.size
     clear hiw hgrow
     clear hj1
     refine hKK.out _ _ ⟨(HVF0.out.later HD2.out).cell 0 (.slice a ni p) rfl, (HVF0.out.later HD2.out).cell 2 (.slice c no r) rfl⟩ (fun _ => ?_)
     clear hKK KK
     try simp only [mz1, mz2, mz3, Act.put, mz4, mz5, mz6]
     refine wpAnyH_ready (rs := [5]) (by kernel_rfl) (by simp) ?_
     refine AllReadyH.cons rfl (fun KK hKK => ?_) AllReadyH.nil
     ·go_simp
      have HD3 : Hid (Below x0.heap.size x0 (y2.alloc (.cells #[] 3))) := jtwo HD2.out (jlow y2 (.cells #[] 3))
      have HAl3 : Hid ((y2.alloc (.cells #[] 3)).ownsRow y2.heap.size 3 1 (.slice (some ⟨y2.heap.size, 0, none⟩) 0 0) 0 []) := World.ownsRow_lit y2 #[] 0 (Nat.le_refl _) (by unfold maxLen; omega) rfl
      have HBl3 := qa0 (Jt.later HJ2.out (jlow y2 (.cells #[] 3)))
      have hlt3 : y2.heap.size < (y2.alloc (.cells #[] 3)).heap.size := by simp
      refine hKK.out _ _ ⟨(HVF0.out.later HD3.out).cell 0 (.slice a ni p) rfl, (HVF0.out.later HD3.out).cell 2 (.slice c no r) rfl⟩ (fun _ => ?_)
      clear hKK KK
      try simp only [mz1, mz2, mz3, Act.put, mz4, mz5, mz6]
      obtain ⟨y3, HW3⟩ : ∃ y, Hid (y2.alloc (.cells #[] 3) = y) := ⟨_, rfl⟩
      rw [HW3.out] at HAl3 HD3 hlt3 HBl3 ⊢
      refine wpAnyH_ready (rs := [8]) (by kernel_rfl) (by simp) ?_
      refine AllReadyH.cons rfl (fun KK hKK => ?_) AllReadyH.nil
      ·refine qaa rfl _ _ rfl y2.heap.size no r _ F.out c rfl HAl3.out rfl (HOut0.out.later HD3.out) HC0.out HO8.out ?hb4 ?_
       case hb4 => exact Nat.le_of_lt (by omega)
       intro v y4 hiw hgrow
       have HD4 : Hid (Below x0.heap.size x0 y4) := HD3.out.trans (jbelow hgrow HD3.out.size (fun k9 e => by { have e9 : some (y2.heap.size) = some k9 := e; have e9 := Option.some.inj e9; omega }))
       obtain ⟨d2, dd2, rfl, hj1⟩ := hiw.jt
       have HJ4 := qa0 hj1
       have hal4 : Below y2.heap.size y2 y3 := by { rw [← HW3.out]; exact jlow _ _ }
       have HBl4 := qa0 (Jt.later HJ2.out (hal4.trans (jbelow hgrow hal4.size (fun k9 e => by { have e9 : some (y2.heap.size) = some k9 := e; have e9 := Option.some.inj e9; omega }))))
       have hz4 := hgrow.size
       clear hiw hgrow
       clear hj1
       refine hKK.out _ _ ⟨(HVF0.out.later HD4.out).cell 0 (.slice a ni p) rfl, (HVF0.out.later HD4.out).cell 2 (.slice c no r) rfl⟩ (fun _ => ?_)
       clear hKK KK
       try simp only [mz1, mz2, mz3, Act.put, mz4, mz5, mz6]
       refine wtkq 9 ?vt9_6 rfl (by kernel_rfl) (fun _ _ _ h => h) (by rfl) ?yt9_6 ⟨(HVF0.out.later HD4.out).cell 0 (.slice a ni p) rfl, (HVF0.out.later HD4.out).cell 2 (.slice c no r) rfl⟩ ?zt9_6
       case yt9_6 => (intro w hSw; (try dsimp only at hSw); go_simp; try with_reducible rfl)
       try simp only [mz1, mz2, mz3, Act.put, mz4, mz5, mz6]
       refine wpAnyH_done (by kernel_rfl) ?_ _
       refine qa3 rfl (fun KK hKK => ?_)
       refine qa1 rfl 28 _ _ rfl (w.heap.size + 1) _ #[.slice d1 ni dd1, .slice b4 k q4, .slice d2 no dd2] rfl rfl (HVR0.out.later HD4.out) sizeFl rfl (qan _ _ _ _ _ _ _ _ _) ?_
       intro w9 HV9 HG9
       refine hKK.out _ _ ?_
       clear hKK KK
       try simp only [mz1, mz2, mz3, Act.put]
       have z0 := HV9.out.cell 0 (.slice d1 ni dd1) rfl
       have z1 := HV9.out.cell 1 (.slice b4 k q4) rfl
       have z2 := HV9.out.cell 2 (.slice d2 no dd2) rfl
       go_wp2
       try rw [Exit.noGoto_ret]
       refine bodyPost_ret (v := flv d1 ni dd1 b4 k q4 d2 no dd2) (by simp [results, Try.results24, go_sem, z0, z1, z2, flv]) rfl ?_
       exact HFin.out y4 w9 _ _ _ _ HD4.out HBl4.out HJ4.out HG9.out
    ·go_simp
     have HD6 : Hid (Below x0.heap.size x0 (y1.alloc (.cells #[] 3))) := jtwo HD1.out (jlow y1 (.cells #[] 3))
     have HAl6 : Hid ((y1.alloc (.cells #[] 3)).ownsRow y1.heap.size 3 1 (.slice (some ⟨y1.heap.size, 0, none⟩) 0 0) 0 []) := World.ownsRow_lit y1 #[] 0 (Nat.le_refl _) (by unfold maxLen; omega) rfl
     have HBl6 := qa0 (qa8 HAl1.out (jlow y1 (.cells #[] 3)))
     have hlt6 : y1.heap.size < (y1.alloc (.cells #[] 3)).heap.size := by simp
     refine hKK.out _ _ ⟨(HVF0.out.later HD6.out).cell 0 (.slice a ni p) rfl, (HVF0.out.later HD6.out).cell 2 (.slice c no r) rfl⟩ (fun _ => ?_)
     clear hKK KK
     try simp only [mz1, mz2, mz3, Act.put, mz4, mz5, mz6]
     obtain ⟨y6, HW6⟩ : ∃ y, Hid (y1.alloc (.cells #[] 3) = y) := ⟨_, rfl⟩
     rw [HW6.out] at HAl6 HD6 hlt6 HBl6 ⊢
     refine wpAnyH_ready (rs := [3]) (by kernel_rfl) (by simp) ?_
     refine AllReadyH.cons rfl (fun KK hKK => ?_) AllReadyH.nil
     ·refine qaa rfl _ _ rfl x0.heap.size ni p _ F.inp a rfl HBl6.out rfl (HInp0.out.later HD6.out) HA0.out HI8.out ?hb7 ?_
      case hb7 => exact Nat.le_of_lt (by omega)
      intro v y7 hiw hgrow
      have HD7 : Hid (Below x0.heap.size x0 y7) := HD6.out.trans (jbelow hgrow HD6.out.size (fun k9 e => by { have e9 : some (x0.heap.size) = some k9 := e; have e9 := Option.some.inj e9; omega }))
      obtain ⟨d1, dd1, rfl, hj1, hk1⟩ := iw_off (g1 := x0.heap.size) (g2 := y1.heap.size) hiw hgrow HAl6.out (by omega)
      have HJ7 := qa0 hj1
      have HK7 := qa0 hk1
      have HBl7 := qa0 (World.ownsRow.kept HAl6.out hgrow (.inr (fun e => by { have e9 : some (y1.heap.size) = some (x0.heap.size) := e; have e9 := Option.some.inj e9; omega })))
      have hz7 := hgrow.size
      clear hiw hgrow
      clear hj1 hk1
      refine hKK.out _ _ ⟨(HVF0.out.later HD7.out).cell 0 (.slice a ni p) rfl, (HVF0.out.later HD7.out).cell 2 (.slice c no r) rfl⟩ (fun _ => ?_)
      clear hKK KK
      try simp only [mz1, mz2, mz3, Act.put, mz4, mz5, mz6]
      refine wpAnyH_ready (rs := [8]) (by kernel_rfl) (by simp) ?_
      refine AllReadyH.cons rfl (fun KK hKK => ?_) AllReadyH.nil
      ·refine qaa rfl _ _ rfl y1.heap.size no r _ F.out c rfl HBl7.out rfl (HOut0.out.later HD7.out) HC0.out HO8.out ?hb8 ?_
       case hb8 => exact Nat.le_of_lt (by omega)
       intro v y8 hiw hgrow
       have HD8 : Hid (Below x0.heap.size x0 y8) := HD7.out.trans (jbelow hgrow HD7.out.size (fun k9 e => by { have e9 : some (y1.heap.size) = some k9 := e; have e9 := Option.some.inj e9; omega }))
       obtain ⟨d2, dd2, rfl, hj1⟩ := hiw.jt
       have HJ8 := qa0 hj1
       have HBl8 := qa0 (HK7.out _ hgrow)
       have hz8 := hgrow.size
       clear hiw hgrow
       clear hj1
       refine hKK.out _ _ ⟨(HVF0.out.later HD8.out).cell 0 (.slice a ni p) rfl, (HVF0.out.later HD8.out).cell 2 (.slice c no r) rfl⟩ (fun _ => ?_)
       clear hKK KK
       try simp only [mz1, mz2, mz3, Act.put, mz4, mz5, mz6]
       refine wtkq 9 ?vt9_7 rfl (by kernel_rfl) (fun _ _ _ h => h) (by rfl) ?yt9_7 ⟨(HVF0.out.later HD8.out).cell 0 (.slice a ni p) rfl, (HVF0.out.later HD8.out).cell 2 (.slice c no r) rfl⟩ ?zt9_7
       case yt9_7 => (intro w hSw; (try dsimp only at hSw); go_simp; try with_reducible rfl)
       try simp only [mz1, mz2, mz3, Act.put, mz4, mz5, mz6]
       refine wpAnyH_done (by kernel_rfl) ?_ _
       refine qa3 rfl (fun KK hKK => ?_)
       refine qa1 rfl 28 _ _ rfl (w.heap.size + 1) _ #[.slice d1 ni dd1, .slice b4 k q4, .slice d2 no dd2] rfl rfl (HVR0.out.later HD8.out) sizeFl rfl (qan _ _ _ _ _ _ _ _ _) ?_
       intro w9 HV9 HG9
       refine hKK.out _ _ ?_
       clear hKK KK
       try simp only [mz1, mz2, mz3, Act.put]
       have z0 := HV9.out.cell 0 (.slice d1 ni dd1) rfl
       have z1 := HV9.out.cell 1 (.slice b4 k q4) rfl
       have z2 := HV9.out.cell 2 (.slice d2 no dd2) rfl
       go_wp2
       try rw [Exit.noGoto_ret]
       refine bodyPost_ret (v := flv d1 ni dd1 b4 k q4 d2 no dd2) (by simp [results, Try.results24, go_sem, z0, z1, z2, flv]) rfl ?_
       exact HFin.out y8 w9 _ _ _ _ HD8.out HBl8.out HJ8.out HG9.out
   ·go_simp
    have HD10 : Hid (Below x0.heap.size x0 (x0.alloc (.cells #[] 3))) := jtwo HDr.out (jlow x0 (.cells #[] 3))
    have HAl10 : Hid ((x0.alloc (.cells #[] 3)).ownsRow x0.heap.size 3 1 (.slice (some ⟨x0.heap.size, 0, none⟩) 0 0) 0 []) := World.ownsRow_lit x0 #[] 0 (Nat.le_refl _) (by unfold maxLen; omega) rfl
    have hlt10 : x0.heap.size < (x0.alloc (.cells #[] 3)).heap.size := by simp
    refine hKK.out _ _ ⟨(HVF0.out.later HD10.out).cell 0 (.slice a ni p) rfl, (HVF0.out.later HD10.out).cell 2 (.slice c no r) rfl⟩ (fun _ => ?_)
    clear hKK KK
    try simp only [mz1, mz2, mz3, Act.put, mz4, mz5, mz6]
    obtain ⟨y10, HW10⟩ : ∃ y, Hid (x0.alloc (.cells #[] 3) = y) := ⟨_, rfl⟩
    rw [HW10.out] at HAl10 HD10 hlt10 ⊢
    refine wpAnyH_ready (rs := [0]) (by kernel_rfl) (by simp) ?_
    refine AllReadyH.cons rfl (fun KK hKK => ?_) AllReadyH.nil
    ·go_simp
     have HD11 : Hid (Below x0.heap.size x0 (y10.alloc (.cells #[] 3))) := jtwo HD10.out (jlow y10 (.cells #[] 3))
     have HAl11 : Hid ((y10.alloc (.cells #[] 3)).ownsRow y10.heap.size 3 1 (.slice (some ⟨y10.heap.size, 0, none⟩) 0 0) 0 []) := World.ownsRow_lit y10 #[] 0 (Nat.le_refl _) (by unfold maxLen; omega) rfl
     have HBl11 := qa0 (qa8 HAl10.out (jlow y10 (.cells #[] 3)))
     have hlt11 : y10.heap.size < (y10.alloc (.cells #[] 3)).heap.size := by simp
     refine hKK.out _ _ ⟨(HVF0.out.later HD11.out).cell 0 (.slice a ni p) rfl, (HVF0.out.later HD11.out).cell 2 (.slice c no r) rfl⟩ (fun _ => ?_)
     clear hKK KK
     try simp only [mz1, mz2, mz3, Act.put, mz4, mz5, mz6]
     obtain ⟨y11, HW11⟩ : ∃ y, Hid (y10.alloc (.cells #[] 3) = y) := ⟨_, rfl⟩
     rw [HW11.out] at HAl11 HD11 hlt11 HBl11 ⊢
     refine wpAnyH_ready (rs := [3]) (by kernel_rfl) (by simp) ?_
     refine AllReadyH.cons rfl (fun KK hKK => ?_) AllReadyH.nil
     ·refine qaa rfl _ _ rfl y10.heap.size ni p _ F.inp a rfl HAl11.out rfl (HInp0.out.later HD11.out) HA0.out HI8.out ?hb12 ?_
      case hb12 => exact Nat.le_of_lt (by omega)
      intro v y12 hiw hgrow
      have HD12 : Hid (Below x0.heap.size x0 y12) := HD11.out.trans (jbelow hgrow HD11.out.size (fun k9 e => by { have e9 : some (y10.heap.size) = some k9 := e; have e9 := Option.some.inj e9; omega }))
      obtain ⟨d1, dd1, rfl, hj1, hk1⟩ := iw_off (g1 := y10.heap.size) (g2 := x0.heap.size) hiw hgrow HBl11.out (by omega)
      have HJ12 := qa0 hj1
      have HK12 := qa0 hk1
      have HBl12 := qa0 (World.ownsRow.kept HBl11.out hgrow (.inr (fun e => by { have e9 : some (x0.heap.size) = some (y10.heap.size) := e; have e9 := Option.some.inj e9; omega })))
      have hz12 := hgrow.size
      clear hiw hgrow
      clear hj1 hk1
      refine hKK.out _ _ ⟨(HVF0.out.later HD12.out).cell 0 (.slice a ni p) rfl, (HVF0.out.later HD12.out).cell 2 (.slice c no r) rfl⟩ (fun _ => ?_)
      clear hKK KK
      try simp only [mz1, mz2, mz3, Act.put, mz4, mz5, mz6]
      refine wpAnyH_ready (rs := [8]) (by kernel_rfl) (by simp) ?_
      refine AllReadyH.cons rfl (fun KK hKK => ?_) AllReadyH.nil
      ·refine qaa rfl _ _ rfl x0.heap.size no r _ F.out c rfl HBl12.out rfl (HOut0.out.later HD12.out) HC0.out HO8.out ?hb13 ?_
       case hb13 => exact Nat.le_of_lt (by omega)
       intro v y13 hiw hgrow
       have HD13 : Hid (Below x0.heap.size x0 y13) := HD12.out.trans (jbelow hgrow HD12.out.size (fun k9 e => by { have e9 : some (x0.heap.size) = some k9 := e; have e9 := Option.some.inj e9; omega }))
       obtain ⟨d2, dd2, rfl, hj1⟩ := hiw.jt
       have HJ13 := qa0 hj1
       have HBl13 := qa0 (HK12.out _ hgrow)
       have hz13 := hgrow.size
       clear hiw hgrow
       clear hj1
       refine hKK.out _ _ ⟨(HVF0.out.later HD13.out).cell 0 (.slice a ni p) rfl, (HVF0.out.later HD13.out).cell 2 (.slice c no r) rfl⟩ (fun _ => ?_)
       clear hKK KK
       try simp only [mz1, mz2, mz3, Act.put, mz4, mz5, mz6]
       refine wtkq 9 ?vt9_8 rfl (by kernel_rfl) (fun _ _ _ h => h) (by rfl) ?yt9_8 ⟨(HVF0.out.later HD13.out).cell 0 (.slice a ni p) rfl, (HVF0.out.later HD13.out).cell 2 (.slice c no r) rfl⟩ ?zt9_8
       case yt9_8 => (intro w hSw; (try dsimp only at hSw); go_simp; try with_reducible rfl)
       try simp only [mz1, mz2, mz3, Act.put, mz4, mz5, mz6]
       refine wpAnyH_done (by kernel_rfl) ?_ _
       refine qa3 rfl (fun KK hKK => ?_)
       refine qa1 rfl 28 _ _ rfl (w.heap.size + 1) _ #[.slice d1 ni dd1, .slice b4 k q4, .slice d2 no dd2] rfl rfl (HVR0.out.later HD13.out) sizeFl rfl (qan _ _ _ _ _ _ _ _ _) ?_
       intro w9 HV9 HG9
       refine hKK.out _ _ ?_
       clear hKK KK
       try simp only [mz1, mz2, mz3, Act.put]
       have z0 := HV9.out.cell 0 (.slice d1 ni dd1) rfl
       have z1 := HV9.out.cell 1 (.slice b4 k q4) rfl
       have z2 := HV9.out.cell 2 (.slice d2 no dd2) rfl
       go_wp2
       try rw [Exit.noGoto_ret]
       refine bodyPost_ret (v := flv d1 ni dd1 b4 k q4 d2 no dd2) (by simp [results, Try.results24, go_sem, z0, z1, z2, flv]) rfl ?_
       exact HFin.out y13 w9 _ _ _ _ HD13.out HBl13.out HJ13.out HG9.out
end Go.Proofs.Ytkfnedpnkeacpaa
