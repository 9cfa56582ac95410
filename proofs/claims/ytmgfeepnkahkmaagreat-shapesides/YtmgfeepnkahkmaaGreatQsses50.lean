/-
  shape.Same of any two codes: bytes.Equal, slices.Equal.
  A code that came in, opened: a struct of a matrix and of a list.
  The anchor of the laws of codes.
  Codes that came in; shape.May and shape.Same beside the reference's.
  Of a Join the first blocks hang on the first data alone, the others on the others.
-/
import Derived.Test.YtmgfeepnkahkmaaGreatQsses00
import Derived.Test.YtmgfeepnkahkmaaGreatQsses36
import Derived.Deep.LoopGhost
import Derived.Test.YtmgfeepnkahkmaaGreatQsses02
import Derived.Lib.SmallJoins
import Derived.Test.YtmgfeepnkahkmaaGreatQsses42
import Derived.Test.YtmgfeepnkahkmaaGreatQsses35
import Derived.Test.YtmgfeepnkahkmaaGreatQsses47
import Derived.Deep.RegionHeld3
import Derived.Test.YtmgfeepnkahkmaaGreatQsses49
import Derived.Test.YtmgfeepnkahkmaaGreatQsses08
import Derived.Laws.AppendOwnNone
set_option maxRecDepth 100000
set_option maxHeartbeats 16000000
namespace Go.Proofs.YtmgfeepnkahkmaaGreat
open Go.ChangeShapes Go.WideShapes Go.ChangeAt Go.RowKit Go.Joins
theorem array4 {α : Type} {cs : Array α} (h : cs.size = 4) : ∃ c0 c1 c2 c3, cs = #[c0, c1, c2, c3] := by
 obtain ⟨l⟩ := cs
 match l, h with
 | [c0, c1, c2, c3], _ => exact ⟨c0, c1, c2, c3, rfl⟩
theorem qfv {H : Type} {enc : TypeId × Value → H} {P : Program} {w : World} {base : Nat} {spare : Nat → Bool} {held : Bool} {r : Reach} {b0 : Nat} {t : TypeId} {f0 f1 g0 g1 g2 : Field} {v : Value} {d : DataW H} {p : List MemPlace} (hs : P.underlying t = some (.struct #[f0, f1])) (hm : P.underlying f0.type = some (.struct #[g0, g1, g2])) (hone : Go.Deep.oneCellFields P #[g0, g1, g2] = true) (o0 : f0.offset = 0) (o1 : f1.offset = 3) (k0 : P.cellsOf f0.type = 3) (k1 : P.cellsOf f1.type = 1) (hC : P.cellsOf t = 4)
  (hv : Value.okWide P w r b0 t v) (h : DataW.Trod enc P w base spare held t v d p) :
  ∃ (v0 v1 v2 v3 : Value) (y0 y1 y2 y3 : DataW H × List MemPlace) (n n' : Nat), v = .agg #[v0, v1, v2, v3] ∧ d = .agg [.agg [y0.1, y1.1, y2.1], y3.1] ∧ p = (y0.2 ++ (y1.2 ++ y2.2)) ++ y3.2 ∧
   DataW.trod enc P w base spare held n' g0.type [v0] = some y0 ∧ DataW.trod enc P w base spare held n' g1.type [v1] = some y1 ∧ DataW.trod enc P w base spare held n' g2.type [v2] = some y2 ∧ DataW.trod enc P w base spare held n f1.type [v3] = some y3 := by
 obtain ⟨cs, rfl, hsz⟩ := okWide_struct hs hv
 obtain ⟨c0, c1, c2, c3, rfl⟩ := array4 (hsz.trans hC)
 obtain ⟨fuel, hf⟩ := h
 obtain ⟨xs, n, _, hx, hl, hlen, hff⟩ := DataW.trod_struct hs hf
 match xs, hlen with
 | [z0, y3], _ =>
  have h0 := hff 0 f0 rfl
  have h1 := hff 1 f1 rfl
  rw [o0, k0] at h0
  rw [o1, k1] at h1
  simp [Value.cells] at h0 h1
  obtain ⟨xs', n', _, hx', hl', hlen', hff'⟩ := DataW.trod_struct hm h0
  match xs', hlen' with
  | [y0, y1, y2], _ =>
   obtain ⟨q0, j0⟩ := Go.Deep.hone_of hone 0 g0 rfl
   obtain ⟨q1, j1⟩ := Go.Deep.hone_of hone 1 g1 rfl
   obtain ⟨q2, j2⟩ := Go.Deep.hone_of hone 2 g2 rfl
   have e0 := hff' 0 g0 rfl
   have e1 := hff' 1 g1 rfl
   have e2 := hff' 2 g2 rfl
   simp only [Prod.mk.injEq] at hx
   subst hx'
   exact ⟨c0, c1, c2, c3, y0, y1, y2, y3, n, n', rfl, by simpa using hx.1, by simpa using hx.2, by simpa [q0, j0] using e0, by simpa [q1, j1] using e1, by simpa [q2, j2] using e2, h1⟩
open Go.RowKit
/-- The anchor's code: 1 / 1 with the group of both blocks. -/
def anF (q : Nat) : Nat := ptf 1 1 1 (fun _ => 1) (fun q => crf 1 (1 * 1 + q)) q
theorem qfb : ∀ q, q < 2 → anF q = 1 := fun q hq => by
 rcases (by omega : q = 0 ∨ q = 1) with rfl | rfl
 ·rfl
 ·rfl
theorem two_ones {w : World} {b : Nat} (h : Vq w b 5 #[.int .u8 1, .int .u8 1]) : Sl w (some ⟨b, 0, none⟩) 2 (fun _ => 1) := ⟨fun _ _ => by show 1 < 256; omega, fun i hi => ⟨b, 0, rfl, by
 rcases (by omega : i = 0 ∨ i = 1) with rfl | rfl
 ·exact h.cell 0 _ rfl
 ·exact h.cell 1 _ rfl⟩⟩
theorem one_set {w : World} {b : Nat} (h : Vq w b 52 #[.int .u64 3]) : Jl w (some ⟨b, 0, none⟩) .u64 1 (fun _ => ((3 : Nat) : Int)) := fun i hi => ⟨b, 0, rfl, by
 obtain rfl : i = 0 := by omega
 exact h.cell 0 _ rfl⟩
theorem an_hang : HangP anF 2 1 3 := by
 have R : Rt 2 1 2 := ⟨by omega, by omega, rfl⟩
 have hM : El2 (m2 anF 2 1) := qez (fun i hi => by rw [qfb i hi]; omega) R
 have e : m2 anF 2 1 0 = m2 anF 2 1 1 := by
  funext j
  by_cases hj : j < 1
  ·rw [qb9 _ (by omega) hj, qb9 _ (by omega) hj, qfb _ (by omega), qfb _ (by omega)]
  ·rw [qat anF (by omega), qat anF (by omega)]
 refine ⟨by decide, fun i hi hb => ?_⟩
 rcases (by omega : i = 0 ∨ i = 1) with rfl | rfl
 ·rw [e]; exact qej hM (by omega) (by rfl)
 ·rw [← e]; exact qej hM (by omega) (by rfl)
theorem an_local (w : World) : Calls Tryz.prog 21 #[.int .i64 1, .int .i64 1, .int .i64 0] w fun e w' => ∃ s d t e2, e = .returned (.tuple #[cv 2 1 s 2 d t 1 e2, .int .i64 0]) ∧ Mt w' s 2 d anF ∧ Jl w' t .u64 1 (fun _ => ((3 : Nat) : Int)) ∧ Below w.heap.size w w' := by
 have h := qii w 1 1 1 0 2 2 (by omega) (by omega) (by omega) (qfm rfl) (qfm rfl) (by omega) (qfm rfl)
 refine h.mono (fun e w' h => ?_)
 obtain ⟨s, d, t, e2, h1, h2, h3, h4⟩ := h
 exact ⟨s, d, t, e2, h1, h2, fun i hi => by
  obtain rfl : i = 0 := by omega
  obtain ⟨x, o, ex, hc⟩ := h3 0 (by omega)
  exact ⟨x, o, ex, by rw [hc]; rfl⟩, h4⟩
theorem ql2 (w : World) : Calls Tryz.prog 20 #[] w fun e w' => e = .returned (.bool true) ∧ Below w.heap.size w w' := by
 have HLo := jhidv an_local
 go_enter Tryz.func20, Tryz.ntmps20
 go_wp2_with (first
  | (go_at_call 21; refine (HLo.out _).mono ?_; rintro e w1 ⟨s1, d1, t1, e1, rfl, hm1, hj1, hb1⟩; have HV : Hid (Vq (w1.alloc (.cells #[.int .i64 2, .int .i64 1, .slice s1 2 d1, .slice t1 1 e1] 27)) w1.heap.size 27 #[.int .i64 2, .int .i64 1, .slice s1 2 d1, .slice t1 1 e1]) := Vq.new w1 _ _; have HBd : Hid (Below w.heap.size w (((w1.alloc (.cells #[.int .i64 2, .int .i64 1, .slice s1 2 d1, .slice t1 1 e1] 27)).alloc (.cells #[.int .u8 1, .int .u8 1] 5)).alloc (.cells #[.int .u64 3] 52))) := qa0 (qa0 (qa0 hb1 (qa1 _ _)) (qa1 _ _)) (qa1 _ _); have HMd : Hid (Mt (((w1.alloc (.cells #[.int .i64 2, .int .i64 1, .slice s1 2 d1, .slice t1 1 e1] 27)).alloc (.cells #[.int .u8 1, .int .u8 1] 5)).alloc (.cells #[.int .u64 3] 52)) s1 2 d1 anF) := ((hm1.later (qa1 _ _)).later (qa1 _ _)).later (qa1 _ _); have HJd : Hid (Jl (((w1.alloc (.cells #[.int .i64 2, .int .i64 1, .slice s1 2 d1, .slice t1 1 e1] 27)).alloc (.cells #[.int .u8 1, .int .u8 1] 5)).alloc (.cells #[.int .u64 3] 52)) t1 .u64 1 (fun _ => ((3 : Nat) : Int))) := ((hj1.later (qa1 _ _)).later (qa1 _ _)).later (qa1 _ _); have HVd : Hid (Vq (((w1.alloc (.cells #[.int .i64 2, .int .i64 1, .slice s1 2 d1, .slice t1 1 e1] 27)).alloc (.cells #[.int .u8 1, .int .u8 1] 5)).alloc (.cells #[.int .u64 3] 52)) w1.heap.size 27 #[.int .i64 2, .int .i64 1, .slice s1 2 d1, .slice t1 1 e1]) := (HV.out.later (qa1 _ _)).later (qa1 _ _); have HLb : Hid (Vq (((w1.alloc (.cells #[.int .i64 2, .int .i64 1, .slice s1 2 d1, .slice t1 1 e1] 27)).alloc (.cells #[.int .u8 1, .int .u8 1] 5)).alloc (.cells #[.int .u64 3] 52)) (w1.heap.size + 1) 5 #[.int .u8 1, .int .u8 1]) := (Vq.new1 w1 _ _ _).later (qa1 _ _); have HLs : Hid (Vq (((w1.alloc (.cells #[.int .i64 2, .int .i64 1, .slice s1 2 d1, .slice t1 1 e1] 27)).alloc (.cells #[.int .u8 1, .int .u8 1] 5)).alloc (.cells #[.int .u64 3] 52)) (w1.heap.size + 1 + 1) 52 #[.int .u64 3]) := Vq.new2 w1 _ _ _ _; have c0 := HV.out.cell 0 _ rfl; have c1 := HV.out.cell 1 _ rfl; have c2 := HV.out.cell 2 _ rfl; have c3 := HV.out.cell 3 _ rfl; clear hm1 hj1 hb1)
  | (go_at_call 19; refine (rsame16 _ 2 1 2 1 s1 t1 (some ⟨w1.heap.size + 1, 0, none⟩) (some ⟨w1.heap.size + 1 + 1, 0, none⟩) 2 d1 1 e1 2 2 1 1 anF (fun _ => 1) (fun _ => 3) (fun _ => 3) HMd.out.sl (two_ones HLb.out) HJd.out (one_set HLs.out) (by omega) true (qfm (by rw [qi3 (fun i hi => qfb i hi), gsB_self]; rfl))).mono ?_; rintro e w2 ⟨rfl, hb2⟩; have HB2 : Hid (Below w.heap.size w w2) := qa0 HBd.out hb2; have HM2 : Hid (Mt w2 s1 2 d1 anF) := HMd.out.later hb2; have HJ2 : Hid (Jl w2 t1 .u64 1 (fun _ => ((3 : Nat) : Int))) := HJd.out.later hb2; have k0 := (HVd.out.later hb2).cell 0 _ rfl; have k1 := (HVd.out.later hb2).cell 1 _ rfl; have k2 := (HVd.out.later hb2).cell 2 _ rfl; have k3 := (HVd.out.later hb2).cell 3 _ rfl; clear hb2)
  | (go_at_call 16; refine (may1 _ 2 1 2 d1 e1 3 s1 t1 anF HM2.out HJ2.out ⟨by omega, by omega, rfl⟩ (by omega) (by omega) (by omega) an_hang).mono ?_; rintro e w3 ⟨rfl, hb3⟩; have HB3 : Hid (Below w.heap.size w w3) := qa0 HB2.out hb3; clear hb3))
 go_ret
 exact ⟨rfl, HB3.out⟩
open Go.RowKit
theorem qfw {n : Int} (h : (Lit.int .u64 n).wf = true) : 0 ≤ n ∧ n < 18446744073709551616 := by
 simp [Lit.wf, IntKind.min, IntKind.max, IntKind.bits, IntKind.signed] at h
 omega
theorem qfx (w : World) (a : Option Addr) (len cap : Nat) (zs : List Int)
  (h : (a = none ∧ len = 0 ∧ cap = 0 ∧ zs = []) ∨ ∃ x, a = some x ∧ len ≤ cap ∧ cap ≤ 140737488351232 ∧ zs.length = cap ∧ (∀ i, i < zs.length → w.cell? (x.add i) = some (.int .u64 (zs.getD i 0))) ∧ ∀ n ∈ zs, (Lit.int .u64 n).wf = true) :
  ∃ q : Nat → Nat, Jl w a .u64 len (fun i => (q i : Int)) ∧ ∀ i, i < len → q i < 18446744073709551616 := by
 rcases h with ⟨rfl, rfl, rfl, rfl⟩ | ⟨x, rfl, hl, hm, hz, hcell, hwz⟩
 ·exact ⟨fun _ => 0, fun i hi => by omega, fun i hi => by omega⟩
 ·refine ⟨fun i => (zs.getD i 0).toNat, fun i hi => ?_, fun i hi => ?_⟩
  ·have hi' : i < zs.length := by omega
   have hc := hcell i hi'
   obtain ⟨b, off, spot⟩ := x
   have hspot : spot = none := by
    have h0 := hcell 0 (by omega)
    simpa [Addr.add] using World.cell?_spot h0
   subst hspot
   refine ⟨b, off, rfl, ?_⟩
   have hplain : (⟨b, off, none⟩ : Addr).add i = ⟨b, off + i, none⟩ := by unfold Addr.add; split <;> simp_all
   rw [hplain] at hc
   rw [hc]
   have hw := qfw (hwz zs[i] (List.getElem_mem hi'))
   have e : zs.getD i 0 = zs[i] := by simp [List.getD, hi']
   have hw0 := hw.1
   simp only [e]
   congr 2
   omega
  ·have hi' : i < zs.length := by omega
   have hw := qfw (hwz zs[i] (List.getElem_mem hi'))
   have e : zs.getD i 0 = zs[i] := by simp [List.getD, hi']
   show (zs.getD i 0).toNat < _
   rw [e]
   omega
open Go.RowKit
theorem qfy {F F' : Nat → Nat} {ra ca rb cb i t : Nat} (ht : t < ca + cb) (hi : i < ra + rb) : joF F F' ra ca rb cb (i * (ca + cb) + t) = if i < ra then (if t < ca then F (i * ca + t) else 0) else (if t < ca then 0 else F' ((i - ra) * cb + (t - ca))) := by
 have e1 : (i * (ca + cb) + t) / (ca + cb) = i := by rw [Nat.mul_comm, Nat.mul_add_div (by omega), Nat.div_eq_of_lt ht, Nat.add_zero]
 have e2 : (i * (ca + cb) + t) % (ca + cb) = t := by rw [Nat.mul_comm, Nat.mul_add_mod, Nat.mod_eq_of_lt ht]
 unfold joF lyf
 rw [e1, e2]
 by_cases h1 : i < ra
 ·rw [if_pos h1, if_neg (by omega)]
  by_cases h2 : t < ca
  ·rw [if_pos h2, if_pos (by omega), Nat.sub_zero, Nat.sub_zero]
  ·rw [if_neg h2, if_neg (by omega)]
 ·rw [if_neg h1]
  by_cases h2 : t < ca
  ·rw [if_pos h2, if_neg (by omega), if_neg (by omega)]
  ·rw [if_neg h2, if_pos (by omega)]
theorem joF_ap {F F' X : Nat → Nat} {ra ca rb cb i : Nat} (hi : i < ra + rb) : apf (joF F F' ra ca rb cb) X (ca + cb) i = if i < ra then apf F X ca i else apf F' (fun j => X (ca + j)) cb (i - ra) := by
 unfold apf
 rw [xs_app]
 by_cases h1 : i < ra
 ·rw [if_pos h1, qag (f := fun t => fm (joF F F' ra ca rb cb (i * (ca + cb) + (ca + t))) (X (ca + t))) (fun t ht => by
   show fm (joF F F' ra ca rb cb (i * (ca + cb) + (ca + t))) (X (ca + t)) = 0
   rw [qfy (by omega) hi, if_pos h1, if_neg (by omega)]; exact qab _), Nat.xor_zero]
  exact qa7 fun t ht => by rw [qfy (by omega) hi, if_pos h1, if_pos ht]
 ·rw [if_neg h1, qag (f := fun t => fm (joF F F' ra ca rb cb (i * (ca + cb) + t)) (X t)) (fun t ht => by
   show fm (joF F F' ra ca rb cb (i * (ca + cb) + t)) (X t) = 0
   rw [qfy (by omega) hi, if_neg h1, if_pos ht]; exact qab _), Nat.zero_xor]
  exact qa7 fun t ht => by rw [qfy (by omega) hi, if_neg h1, if_neg (by omega), show ca + t - ca = t by omega]
theorem joF_lt {F F' : Nat → Nat} {ra ca na rb cb nb q : Nat} (hF : ∀ i, i < na → F i < 256) (hF' : ∀ i, i < nb → F' i < 256) (RA : Rt ra ca na) (RB : Rt rb cb nb) (hc : 0 < ca) (hc' : 0 < cb) (hq : q < (ra + rb) * (ca + cb)) : joF F F' ra ca rb cb q < 256 := by
 have h1 : q / (ca + cb) < ra + rb := (Nat.div_lt_iff_lt_mul (by omega)).2 hq
 have h2 : q % (ca + cb) < ca + cb := Nat.mod_lt _ (by omega)
 have e : q = q / (ca + cb) * (ca + cb) + q % (ca + cb) := by rw [Nat.mul_comm]; exact (Nat.div_add_mod _ _).symm
 rw [e, qfy h2 h1]
 by_cases h3 : q / (ca + cb) < ra
 ·rw [if_pos h3]
  by_cases h4 : q % (ca + cb) < ca
  ·rw [if_pos h4]; exact hF _ (RA.at h3 h4)
  ·rw [if_neg h4]; omega
 ·rw [if_neg h3]
  by_cases h4 : q % (ca + cb) < ca
  ·rw [if_pos h4]; omega
  ·rw [if_neg h4]; exact hF' _ (RB.at (by omega) (by omega))
theorem sl_of_jl {w : World} {a : Option Addr} {n : Nat} {f : Nat → Nat} (h : Jl w a .u8 n (fun i => (f i : Int))) (hf : ∀ i, i < n → f i < 256) : Sl w a n f := ⟨hf, fun i hi => h i hi⟩
theorem jbyte16 : (Tryz.prog.info? 5).map (fun i => (i.zero, i.size, i.bytes)) = some (some (.int .u8 0), 1, 1) := by kernel_rfl
theorem qe5 {ops : Array Oper} {rest : List Oper} {o : Oper} {a : Act} {Q : Exit → Act → World → Prop} {w : World} (hw : Region.wanted o (yielded ops a.tmps) = true) (h : wpList Tryz.prog ops Q ({ o with guard := none } :: rest) a w) : wpList Tryz.prog ops Q (o :: rest) a w := by
 have h2 : if Region.wanted { o with guard := none } (yielded ops a.tmps) = true then _ else _ := h
 rw [if_pos (show Region.wanted { o with guard := none } (yielded ops a.tmps) = true from rfl)] at h2
 show if _ then _ else _
 rw [if_pos hw]
 exact h2
theorem row_news {w : World} {ad : Option Addr} {y : Addr} {m : Nat} {g : Nat → Nat} (h : Sl w ad m g) (e : ad = some y) : ∀ j u, (row m g).toList[j]? = some u → w.cell? (y.add j) = some u := by
 intro j u hj
 have hjm : j < m := by
  rcases Nat.lt_or_ge j m with h | h
  ·exact h
  ·rw [List.getElem?_eq_none (by simp [row]; omega)] at hj; cases hj
 obtain ⟨b, o, eb, hc⟩ := h.2 j hjm
 rw [e] at eb
 cases eb
 simp [row, hjm] at hj
 subst hj
 rw [show (⟨b, o, none⟩ : Addr).add j = ⟨b, o + j, none⟩ by unfold Addr.add; split <;> simp_all]
 exact hc
theorem qho (n m : Nat) (f g : Nat → Nat) : (row n f).toList ++ (row m g).toList = (jrow .u8 (n + m) (catG f g n)).toList := by
 apply List.ext_getElem?
 intro i
 have hl : (row n f).toList.length = n := by simp [row]
 by_cases h1 : i < n
 ·rw [List.getElem?_append_left (by omega), Array.getElem?_toList, Array.getElem?_toList, qaj .u8 (n + m) _ i (by omega), catG, if_pos h1]
  simp [row, h1]
 ·rw [List.getElem?_append_right (by omega), hl]
  by_cases h2 : i < n + m
  ·rw [Array.getElem?_toList, Array.getElem?_toList, qaj .u8 (n + m) _ i (by omega), catG, if_neg h1]
   simp [row, show i - n < m by omega]
  ·rw [List.getElem?_eq_none (by simp [row]; omega), List.getElem?_eq_none (by simp [qah]; omega)]
theorem row_ones (m : Nat) (g : Nat → Nat) : ∀ u ∈ (row m g).toList, u.oneCell' = true := by
 intro u hu
 simp [row] at hu
 obtain ⟨i, _, rfl⟩ := hu
 rfl
/-- A list of bytes of the call's own, and any other one behind it. -/
theorem qch {ops : Array Oper} {rest : List Oper} {o : Oper} {a : Act} {Q : Exit → Act → World → Prop} {w : World}
  (hgd : o.guard = none) (s x : Operand) (ho : o.op = Op.call { callee := Callee.builtin Builtin.append, args := #[s, x], argTypes := #[22, 22] })
  (B n : Nat) (v : Value) (f : Nat → Nat) (hs : a.eval s = v) (hown : w.ownsRow B 5 1 v n (row n f).toList)
  (ad : Option Addr) (m c : Nat) (g : Nat → Nat) (hx : a.eval x = .slice ad m c) (hg : Sl w ad m g) (h0 : ad = none → m = 0 ∧ c = 0) (hlim : n + m ≤ 17592186044416) (hB : B ≤ w.heap.size)
  (hK : ∀ v' w', Jo w' B 5 .u8 v' (n + m) (catG f g n) → w.grownBy w' v.ownBlock → Below B w w' → wpList Tryz.prog ops Q rest (a.put o.dst v') w') :
  wpList Tryz.prog ops Q (o :: rest) a w := by
 obtain ⟨i0, hi, hz0, hz1, hz2⟩ := info_parts jbyte16
 cases ad with
 | none =>
  obtain ⟨rfl, rfl⟩ := h0 rfl
  refine wpList_append_own_none hgd s x 22 ho B 5 i0 1 Tryz.underlying22 hi v n _ hs hown hx ?_
  refine hK v w ?_ (World.grownBy.refl _ _) ((Below.refl _ _).mono hB)
  have e : (row n f).toList = (jrow .u8 (n + 0) (catG f g n)).toList := by rw [← qho]; simp [row]
  show World.ownsRow _ _ _ _ _ _ _
  rw [← e]
  exact hown
 | some y =>
  refine wpList_append_own _ hgd s x 22 ho B 5 i0 (.int .u8 0) 1 1 Tryz.underlying22 hi hz0 hz1 hz2 rfl (by decide) v n _ hs hown y m c (row m g).toList hx (by simp [row]) (row_news hg rfl) (row_ones m g) (by unfold maxLen; omega) (by omega) hB ?_
  intro v' w' ho' hg' _
  rw [qho] at ho'
  exact hK v' w' ho' hg' (jbelow hg' hB (qaa hown))
theorem qfz (w : World) (r c r' c' E : Int) (a b a' b' x : Option Addr) (n k m d n' k' m' d' L K : Nat) (hE : (E != 0) = true)
  (hj : ∀ w', Below w.heap.size w w' → Calls Tryz.prog 11 #[cv r c a n k b m d, cv r' c' a' n' k' b' m' d'] w' fun e w'' => e = .returned (.tuple #[cv 0 0 none 0 0 none 0 0, .int .i64 E]) ∧ Below w'.heap.size w' w'') :
  Calls Tryz.prog 7 #[cv r c a n k b m d, cv r' c' a' n' k' b' m' d', .slice x L K] w fun e w' => e = .returned (.bool true) ∧ Below w.heap.size w w' := by
 obtain ⟨wb, HW⟩ : ∃ wb, Hid ((w.alloc (.cells #[.int .i64 r, .int .i64 c, .slice a n k, .slice b m d] 27)).alloc (.cells #[.int .i64 r', .int .i64 c', .slice a' n' k', .slice b' m' d'] 27) = wb) := ⟨_, rfl⟩
 have HB0 : Hid (Below w.heap.size w wb) := by rw [← HW.out]; exact qa0 (qa1 _ _) (qa1 _ _)
 have HA : Hid (Vq wb w.heap.size 27 #[.int .i64 r, .int .i64 c, .slice a n k, .slice b m d]) := by rw [← HW.out]; exact (Vq.new w _ _).later (qa1 _ _)
 have HBv : Hid (Vq wb (w.heap.size + 1) 27 #[.int .i64 r', .int .i64 c', .slice a' n' k', .slice b' m' d']) := by rw [← HW.out]; exact Vq.new1 _ _ _ _
 have HR0 : Hid (Below wb.heap.size wb wb) := Below.refl _ _
 have HJ : Hid (∀ w', Below w.heap.size w w' → Calls Tryz.prog 11 #[cv r c a n k b m d, cv r' c' a' n' k' b' m' d'] w' fun e w'' => e = .returned (.tuple #[cv 0 0 none 0 0 none 0 0, .int .i64 E]) ∧ Below w'.heap.size w' w'') := hj
 have hE0 : (E == 0) = false := by simpa using hE
 have a_00 := (HA.out.later HR0.out).cell 0 _ rfl
 have a_01 := (HA.out.later HR0.out).cell 1 _ rfl
 have a_02 := (HA.out.later HR0.out).cell 2 _ rfl
 have a_03 := (HA.out.later HR0.out).cell 3 _ rfl
 have b_00 := (HBv.out.later HR0.out).cell 0 _ rfl
 have b_01 := (HBv.out.later HR0.out).cell 1 _ rfl
 have b_02 := (HBv.out.later HR0.out).cell 2 _ rfl
 have b_03 := (HBv.out.later HR0.out).cell 3 _ rfl
 clear hj
 go_enter Tryz.func7, Tryz.ntmps7
 go_upto_region 2 with (go_at_call 11; rw [HW.out]; refine (HJ.out _ HB0.out).mono ?_; rintro e w1 ⟨rfl, hb1⟩; have HB1 : Hid (Below w.heap.size w w1) := qa0 HB0.out hb1; clear hb1)
 obtain ⟨w3, HW3⟩ : ∃ w3, Hid (w1.alloc (.cells #[.int .i64 0, .int .i64 0, .slice none 0 0, .slice none 0 0] 27) = w3) := ⟨_, rfl⟩
 have HB3 : Hid (Below w.heap.size w w3) := by rw [← HW3.out]; exact qa0 HB1.out (qa1 _ _)
 rw [HW3.out]
 clear HW3 HB1 HJ
 go_wp2_with (go_at_call 20; refine (ql2 _).mono ?_; rintro e w2 ⟨rfl, hb2⟩; have HB2 : Hid (Below w.heap.size w w2) := qa0 HB3.out hb2; clear hb2)
 go_ret
 exact ⟨rfl, HB2.out⟩
theorem ql3 (w : World) (ra ca na ka ma da rb cb nb kb mb db L K : Nat) (a b a' b' x : Option Addr) (F F' q q' : Nat → Nat) (ha : Mt w a na ka F) (ha' : Mt w a' nb kb F') (hb : Jl w b .u64 ma (fun i => (q i : Int))) (hb' : Jl w b' .u64 mb (fun i => (q' i : Int))) (h0 : b = none → ma = 0 ∧ da = 0) (RA : Rt ra ca na) (RB : Rt rb cb nb) (hc : 1 ≤ ca) (hr : ca ≤ ra) (hc' : 1 ≤ cb) (hr' : cb ≤ rb) (hg : ∀ i, i < ma → HangP F ra ca (q i)) (hg' : ∀ i, i < mb → HangP F' rb cb (q' i)) (hrr : ra + rb ≤ 64) (hmm : ma + mb ≤ 16384) (hL : L ≠ ca + cb) :
  Calls Tryz.prog 7 #[cv ra ca a na ka b ma da, cv rb cb a' nb kb b' mb db, .slice x L K] w fun e w' => e = .returned (.bool true) ∧ Below w.heap.size w w' := by
 obtain ⟨wb, HW⟩ : ∃ wb, Hid ((w.alloc (.cells #[.int .i64 (ra : Int), .int .i64 (ca : Int), .slice a na ka, .slice b ma da] 27)).alloc (.cells #[.int .i64 (rb : Int), .int .i64 (cb : Int), .slice a' nb kb, .slice b' mb db] 27) = wb) := ⟨_, rfl⟩
 have HB0 : Hid (Below w.heap.size w wb) := by rw [← HW.out]; exact qa0 (qa1 _ _) (qa1 _ _)
 have HA : Hid (Vq wb w.heap.size 27 #[.int .i64 (ra : Int), .int .i64 (ca : Int), .slice a na ka, .slice b ma da]) := by rw [← HW.out]; exact (Vq.new w _ _).later (qa1 _ _)
 have HBv : Hid (Vq wb (w.heap.size + 1) 27 #[.int .i64 (rb : Int), .int .i64 (cb : Int), .slice a' nb kb, .slice b' mb db]) := by rw [← HW.out]; exact Vq.new1 _ _ _ _
 have HR0 : Hid (Below wb.heap.size wb wb) := Below.refl _ _
 obtain ⟨R, HR⟩ : ∃ R : Nat, Hid (ra + rb = R) := ⟨_, rfl⟩
 obtain ⟨C, HC⟩ : ∃ C : Nat, Hid (ca + cb = C) := ⟨_, rfl⟩
 obtain ⟨M, HM⟩ : ∃ M : Nat, Hid (ma + mb = M) := ⟨_, rfl⟩
 obtain ⟨Jf, HJf⟩ : ∃ Jf : Nat → Nat, Hid (joF F F' ra ca rb cb = Jf) := ⟨_, rfl⟩
 have HJ : Hid (∀ w', Below w.heap.size w w' → Calls Tryz.prog 11 #[cv ra ca a na ka b ma da, cv rb cb a' nb kb b' mb db] w' fun e w'' => ∃ g N s2 d2, e = .returned (.tuple #[cv (R : Int) (C : Int) (some ⟨g, 0, none⟩) N N s2 M d2, .int .i64 0]) ∧ R * C = N ∧ RowAt w'' g 5 N Jf ∧ w'.heap.size ≤ g ∧ Below w'.heap.size w' w'') := fun w' h => (qkz w' ra ca na ka ma da rb cb nb kb mb db a b a' b' F F' q q' (ha.later h) (ha'.later h) (hb.later h) (hb'.later h) h0 RA RB hc hr hc' hr' hg hg' hrr hmm).mono (fun e w'' ⟨g, N, s2, d2, h1, h2, h3, h4, _, h6⟩ => ⟨g, N, s2, d2, by rw [h1, HR.out, HC.out, HM.out], by rw [← HR.out, ← HC.out]; exact h2, by rw [← HJf.out]; exact h3, h4, h6⟩)
 have hra := RA.r64
 have hrb := RB.r64
 have GA : GenP ra ca na := ⟨RA.p, by omega, by omega⟩
 have GB : GenP rb cb nb := ⟨RB.p, by omega, by omega⟩
 have HMa : Hid (∀ w', Below w.heap.size w w' → Calls Tryz.prog 17 #[cv ra ca a na ka b ma da] w' fun e w'' => e = .returned (.bool true) ∧ Below w'.heap.size w' w'') := fun w' h => rmay16 w' ra ca na ka da ma a b F q (ha.later h) (hb.later h) (by omega) (fun i hi => qcg (hg i hi) hra) true ⟨fun _ => ⟨GA, by simpa using hg⟩, fun _ => rfl⟩
 have HMb : Hid (∀ w', Below w.heap.size w w' → Calls Tryz.prog 17 #[cv rb cb a' nb kb b' mb db] w' fun e w'' => e = .returned (.bool true) ∧ Below w'.heap.size w' w'') := fun w' h => rmay16 w' rb cb nb kb db mb a' b' F' q' (ha'.later h) (hb'.later h) (by omega) (fun i hi => qcg (hg' i hi) hrb) true ⟨fun _ => ⟨GB, by simpa using hg'⟩, fun _ => rfl⟩
 have eC : (ca : Int) + (cb : Int) = (C : Int) := by rw [← HC.out]; simp
 have hC64 : C ≤ 128 := by rw [← HC.out]; have := RA.c64; have := RB.c64; omega
 have hLC : ((L : Int) != (C : Int)) = true := by have := HC.out; simp; omega
 have a_00 := (HA.out.later HR0.out).cell 0 _ rfl
 have a_01 := (HA.out.later HR0.out).cell 1 _ rfl
 have a_02 := (HA.out.later HR0.out).cell 2 _ rfl
 have a_03 := (HA.out.later HR0.out).cell 3 _ rfl
 have b_00 := (HBv.out.later HR0.out).cell 0 _ rfl
 have b_01 := (HBv.out.later HR0.out).cell 1 _ rfl
 have b_02 := (HBv.out.later HR0.out).cell 2 _ rfl
 have b_03 := (HBv.out.later HR0.out).cell 3 _ rfl
 have M1 : Hid True := trivial
 clear ha ha' hb hb' h0 RA RB hg hg' GA GB hL
 go_enter Tryz.func7, Tryz.ntmps7
 go_upto_region 2 with (go_at_call 11; rw [HW.out]; refine (HJ.out _ HB0.out).mono ?_; rintro e w1 ⟨g1, N1, s1, d1, rfl, hN1, hr1, hg1, hb1⟩; have HB1 : Hid (Below wb.heap.size wb w1) := hb1; have HN1 : Hid (R * C = N1) := hN1; have HR1 : Hid (RowAt w1 g1 5 N1 Jf) := hr1; clear hb1 hN1 hr1 hg1)
 obtain ⟨w2, HW2⟩ : ∃ w2, Hid (w1.alloc (.cells #[.int .i64 (R : Int), .int .i64 (C : Int), .slice (some ⟨g1, 0, none⟩) N1 N1, .slice s1 M d1] 27) = w2) := ⟨_, rfl⟩
 have HB2 : Hid (Below wb.heap.size wb w2) := by rw [← HW2.out]; exact qa0 HB1.out (qa1 _ _)
 have HV2 : Hid (Vq w2 w1.heap.size 27 #[.int .i64 (R : Int), .int .i64 (C : Int), .slice (some ⟨g1, 0, none⟩) N1 N1, .slice s1 M d1]) := by rw [← HW2.out]; exact Vq.new w1 _ _
 have HR2 : Hid (RowAt w2 g1 5 N1 Jf) := by rw [← HW2.out]; exact HR1.out.later (qa1 _ _)
 rw [HW2.out]
 clear HW2 HJ HR1 HB1
 clear a_00 a_01 a_02 a_03 b_00 b_01 b_02 b_03
 have a_20 := (HA.out.later HB2.out).cell 0 _ rfl
 have a_21 := (HA.out.later HB2.out).cell 1 _ rfl
 have a_22 := (HA.out.later HB2.out).cell 2 _ rfl
 have a_23 := (HA.out.later HB2.out).cell 3 _ rfl
 have b_20 := (HBv.out.later HB2.out).cell 0 _ rfl
 have b_21 := (HBv.out.later HB2.out).cell 1 _ rfl
 have b_22 := (HBv.out.later HB2.out).cell 2 _ rfl
 have b_23 := (HBv.out.later HB2.out).cell 3 _ rfl
 have c20 := HV2.out.cell 0 _ rfl
 have c21 := HV2.out.cell 1 _ rfl
 go_wp2_with (first
  | (go_at_call 20; refine (ql2 _).mono ?_; rintro e w3 ⟨rfl, hb3⟩; have HB3 : Hid (Below wb.heap.size wb w3) := qa0 HB2.out hb3; clear a_20 a_21 a_22 a_23 b_20 b_21 b_22 b_23; have a_30 := (HA.out.later HB3.out).cell 0 _ rfl; have a_31 := (HA.out.later HB3.out).cell 1 _ rfl; have a_32 := (HA.out.later HB3.out).cell 2 _ rfl; have a_33 := (HA.out.later HB3.out).cell 3 _ rfl; have b_30 := (HBv.out.later HB3.out).cell 0 _ rfl; have b_31 := (HBv.out.later HB3.out).cell 1 _ rfl; have b_32 := (HBv.out.later HB3.out).cell 2 _ rfl; have b_33 := (HBv.out.later HB3.out).cell 3 _ rfl; clear hb3)
  | (go_at_call 17; clear M1; refine (HMa.out _ (qa0 HB0.out HB3.out)).mono ?_; rintro e w4 ⟨rfl, hb4⟩; have HB4 : Hid (Below wb.heap.size wb w4) := qa0 HB3.out hb4; clear a_30 a_31 a_32 a_33 b_30 b_31 b_32 b_33; have a_40 := (HA.out.later HB4.out).cell 0 _ rfl; have a_41 := (HA.out.later HB4.out).cell 1 _ rfl; have a_42 := (HA.out.later HB4.out).cell 2 _ rfl; have a_43 := (HA.out.later HB4.out).cell 3 _ rfl; have b_40 := (HBv.out.later HB4.out).cell 0 _ rfl; have b_41 := (HBv.out.later HB4.out).cell 1 _ rfl; have b_42 := (HBv.out.later HB4.out).cell 2 _ rfl; have b_43 := (HBv.out.later HB4.out).cell 3 _ rfl; clear hb4)
  | (go_at_call 17; refine (HMb.out _ (qa0 HB0.out HB4.out)).mono ?_; rintro e w5 ⟨rfl, hb5⟩; have HB5 : Hid (Below wb.heap.size wb w5) := qa0 HB4.out hb5; clear hb5))
 go_ret
 exact ⟨rfl, qa0 HB0.out HB5.out⟩
theorem qil (w : World) (ra ca na ka ma da rb cb nb kb mb db C K : Nat) (a b a' b' x : Option Addr) (F F' q q' X : Nat → Nat) (ha : Mt w a na ka F) (ha' : Mt w a' nb kb F') (hx : Mt w x C K X) (hb : Jl w b .u64 ma (fun i => (q i : Int))) (hb' : Jl w b' .u64 mb (fun i => (q' i : Int))) (h0 : b = none → ma = 0 ∧ da = 0) (RA : Rt ra ca na) (RB : Rt rb cb nb) (hc : 1 ≤ ca) (hr : ca ≤ ra) (hc' : 1 ≤ cb) (hr' : cb ≤ rb) (hg : ∀ i, i < ma → HangP F ra ca (q i)) (hg' : ∀ i, i < mb → HangP F' rb cb (q' i)) (hrr : ra + rb ≤ 64) (hmm : ma + mb ≤ 16384) (HC : Hid (ca + cb = C)) :
  Calls Tryz.prog 7 #[cv ra ca a na ka b ma da, cv rb cb a' nb kb b' mb db, .slice x C K] w fun e w' => e = .returned (.bool true) ∧ Below w.heap.size w w' := by
 obtain ⟨wb, HW⟩ : ∃ wb, Hid ((w.alloc (.cells #[.int .i64 (ra : Int), .int .i64 (ca : Int), .slice a na ka, .slice b ma da] 27)).alloc (.cells #[.int .i64 (rb : Int), .int .i64 (cb : Int), .slice a' nb kb, .slice b' mb db] 27) = wb) := ⟨_, rfl⟩
 have HB0 : Hid (Below w.heap.size w wb) := by rw [← HW.out]; exact qa0 (qa1 _ _) (qa1 _ _)
 have HA : Hid (Vq wb w.heap.size 27 #[.int .i64 (ra : Int), .int .i64 (ca : Int), .slice a na ka, .slice b ma da]) := by rw [← HW.out]; exact (Vq.new w _ _).later (qa1 _ _)
 have HBv : Hid (Vq wb (w.heap.size + 1) 27 #[.int .i64 (rb : Int), .int .i64 (cb : Int), .slice a' nb kb, .slice b' mb db]) := by rw [← HW.out]; exact Vq.new1 _ _ _ _
 have HR0 : Hid (Below wb.heap.size wb wb) := Below.refl _ _
 obtain ⟨R, HR⟩ : ∃ R : Nat, Hid (ra + rb = R) := ⟨_, rfl⟩
 obtain ⟨M, HM⟩ : ∃ M : Nat, Hid (ma + mb = M) := ⟨_, rfl⟩
 obtain ⟨Jf, HJf⟩ : ∃ Jf : Nat → Nat, Hid (joF F F' ra ca rb cb = Jf) := ⟨_, rfl⟩
 have HJ : Hid (∀ w', Below w.heap.size w w' → Calls Tryz.prog 11 #[cv ra ca a na ka b ma da, cv rb cb a' nb kb b' mb db] w' fun e w'' => ∃ g N s2 d2, e = .returned (.tuple #[cv (R : Int) (C : Int) (some ⟨g, 0, none⟩) N N s2 M d2, .int .i64 0]) ∧ R * C = N ∧ RowAt w'' g 5 N Jf ∧ w'.heap.size ≤ g ∧ Below w'.heap.size w' w'') := fun w' h => (qkz w' ra ca na ka ma da rb cb nb kb mb db a b a' b' F F' q q' (ha.later h) (ha'.later h) (hb.later h) (hb'.later h) h0 RA RB hc hr hc' hr' hg hg' hrr hmm).mono (fun e w'' ⟨g, N, s2, d2, h1, h2, h3, h4, _, h6⟩ => ⟨g, N, s2, d2, by rw [h1, HR.out, HC.out, HM.out], by rw [← HR.out, ← HC.out]; exact h2, by rw [← HJf.out]; exact h3, h4, h6⟩)
 have hra := RA.r64
 have hca := RA.c64
 have hrb := RB.r64
 have hcb := RB.c64
 have eC : (ca : Int) + (cb : Int) = (C : Int) := by rw [← HC.out]; simp
 have hC64 : C ≤ 64 := by rw [← HC.out]; omega
 have hR64 : R ≤ 64 := by rw [← HR.out]; exact hrr
 have hLC : ((C : Int) != (C : Int)) = false := by simp
 have hcaC : ca ≤ C := by rw [← HC.out]; omega
 have hcaK : ca ≤ K := Nat.le_trans hcaC hx.room
 have hCK := hx.room
 have HMA : Hid (Mt w a na ka F) := ha
 have HMB : Hid (Mt w a' nb kb F') := ha'
 have HMX : Hid (Mt w x C K X) := hx
 have HRA : Hid (Rt ra ca na) := RA
 have HRB : Hid (Rt rb cb nb) := RB
 obtain ⟨xb, xo, ex⟩ : ∃ xb xo, x = some ⟨xb, xo, none⟩ := by
  obtain ⟨xb, xo, e, _⟩ := hx.sl.2 0 (by omega)
  exact ⟨xb, xo, e⟩
 subst ex
 have a_00 := (HA.out.later HR0.out).cell 0 _ rfl
 have a_01 := (HA.out.later HR0.out).cell 1 _ rfl
 have a_02 := (HA.out.later HR0.out).cell 2 _ rfl
 have a_03 := (HA.out.later HR0.out).cell 3 _ rfl
 have b_00 := (HBv.out.later HR0.out).cell 0 _ rfl
 have b_01 := (HBv.out.later HR0.out).cell 1 _ rfl
 have b_02 := (HBv.out.later HR0.out).cell 2 _ rfl
 have b_03 := (HBv.out.later HR0.out).cell 3 _ rfl
 clear ha ha' hx hb hb' h0 RA RB hg hg'
 go_enter Tryz.func7, Tryz.ntmps7
 go_upto_region 2 with (go_at_call 11; rw [HW.out]; refine (HJ.out _ HB0.out).mono ?_; rintro e w1 ⟨g1, N1, s1, d1, rfl, hN1, hr1, hg1, hb1⟩; have HB1 : Hid (Below wb.heap.size wb w1) := hb1; have HN1 : Hid (R * C = N1) := hN1; have HR1 : Hid (RowAt w1 g1 5 N1 Jf) := hr1; clear hb1 hN1 hr1 hg1)
 obtain ⟨w2, HW2⟩ : ∃ w2, Hid (w1.alloc (.cells #[.int .i64 (R : Int), .int .i64 (C : Int), .slice (some ⟨g1, 0, none⟩) N1 N1, .slice s1 M d1] 27) = w2) := ⟨_, rfl⟩
 have HB2 : Hid (Below wb.heap.size wb w2) := by rw [← HW2.out]; exact qa0 HB1.out (qa1 _ _)
 have HV2 : Hid (Vq w2 w1.heap.size 27 #[.int .i64 (R : Int), .int .i64 (C : Int), .slice (some ⟨g1, 0, none⟩) N1 N1, .slice s1 M d1]) := by rw [← HW2.out]; exact Vq.new w1 _ _
 have HR2 : Hid (RowAt w2 g1 5 N1 Jf) := by rw [← HW2.out]; exact HR1.out.later (qa1 _ _)
 rw [HW2.out]
 clear HW2 HJ HR1 HB1
 clear a_00 a_01 a_02 a_03 b_00 b_01 b_02 b_03
 have a_20 := (HA.out.later HB2.out).cell 0 _ rfl
 have a_21 := (HA.out.later HB2.out).cell 1 _ rfl
 have a_22 := (HA.out.later HB2.out).cell 2 _ rfl
 have a_23 := (HA.out.later HB2.out).cell 3 _ rfl
 have b_20 := (HBv.out.later HB2.out).cell 0 _ rfl
 have b_21 := (HBv.out.later HB2.out).cell 1 _ rfl
 have b_22 := (HBv.out.later HB2.out).cell 2 _ rfl
 have b_23 := (HBv.out.later HB2.out).cell 3 _ rfl
 have c20 := HV2.out.cell 0 _ rfl
 have c21 := HV2.out.cell 1 _ rfl
 have c22 := HV2.out.cell 2 _ rfl
 have HAp : Hid (∀ w', Below w2.heap.size w2 w' → Calls Tryz.prog 23 #[mv R C (some ⟨g1, 0, none⟩) N1 N1, .slice (some ⟨xb, xo, none⟩) C K] w' fun e w'' => ∃ g, e = .returned (.tuple #[.slice (some ⟨g, 0, none⟩) R R, .int .i64 0]) ∧ RowAt w'' g 5 R (apf Jf X C) ∧ w'.heap.size ≤ g ∧ Below w'.heap.size w' w'') := fun w' h => qdw w' R C N1 N1 K _ _ Jf X (by have := (HR2.out.later h).sl (fun i hi => by rw [← HJf.out]; exact joF_lt HMA.out.sl.1 HMB.out.sl.1 HRA.out HRB.out (by omega) (by omega) (by rw [HR.out, HC.out, HN1.out]; exact hi)); exact this) (HMX.out.later (qa0 (qa0 HB0.out HB2.out) h)).sl ⟨hR64, hC64, HN1.out⟩
 go_upto_region 5 with (go_at_call 23; refine (HAp.out _ (Below.refl _ _)).mono ?_; rintro e w3 ⟨g3, rfl, hr3, hg3, hb3⟩; have HB3 : Hid (Below wb.heap.size wb w3) := qa0 HB2.out hb3; have HR3 : Hid (RowAt w3 g3 5 R (apf Jf X C)) := hr3; clear a_20 a_21 a_22 a_23 b_20 b_21 b_22 b_23; clear c20 c21 c22; have a_30 := (HA.out.later HB3.out).cell 0 _ rfl; have a_31 := (HA.out.later HB3.out).cell 1 _ rfl; have a_32 := (HA.out.later HB3.out).cell 2 _ rfl; have a_33 := (HA.out.later HB3.out).cell 3 _ rfl; have b_30 := (HBv.out.later HB3.out).cell 0 _ rfl; have b_31 := (HBv.out.later HB3.out).cell 1 _ rfl; have b_32 := (HBv.out.later HB3.out).cell 2 _ rfl; have b_33 := (HBv.out.later HB3.out).cell 3 _ rfl; clear hb3 hr3 hg3)
 obtain ⟨fy, HFy⟩ : ∃ fy, Hid (apf Jf X C = fy) := ⟨_, rfl⟩
 obtain ⟨fa, HFa⟩ : ∃ fa, Hid (apf F X ca = fa) := ⟨_, rfl⟩
 obtain ⟨fb, HFb⟩ : ∃ fb, Hid (apf F' (fun j => X (ca + j)) cb = fb) := ⟨_, rfl⟩
 rw [HFy.out] at HR3
 have hcb2 : C - ca = cb := by rw [← HC.out]; omega
 have HEq : Hid (∀ i, i < R → fy i = catG fa fb ra i) := fun i hi => by
  rw [← HFy.out, ← HJf.out, ← HC.out, joF_ap (by rw [HR.out]; exact hi), catG, HFa.out, HFb.out]
 have HAa : Hid (∀ w', Below wb.heap.size wb w' → Calls Tryz.prog 23 #[mv ra ca a na ka, .slice (some ⟨xb, xo, none⟩) ca K] w' fun e w'' => ∃ g, e = .returned (.tuple #[.slice (some ⟨g, 0, none⟩) ra ra, .int .i64 0]) ∧ RowAt w'' g 5 ra fa ∧ w'.heap.size ≤ g ∧ Below w'.heap.size w' w'') := fun w' h => by
  rw [← HFa.out]
  have hx := (HMX.out.later (qa0 HB0.out h)).sl
  exact qdw w' ra ca na ka K _ _ F X (HMA.out.later (qa0 HB0.out h)).sl ⟨fun i hi => hx.1 i (by omega), fun i hi => hx.2 i (by omega)⟩ HRA.out
 have HAb : Hid (∀ w', Below wb.heap.size wb w' → Calls Tryz.prog 23 #[mv rb cb a' nb kb, .slice (some ⟨xb, xo + ca, none⟩) (C - ca) (K - ca)] w' fun e w'' => ∃ g, e = .returned (.tuple #[.slice (some ⟨g, 0, none⟩) rb rb, .int .i64 0]) ∧ RowAt w'' g 5 rb fb ∧ w'.heap.size ≤ g ∧ Below w'.heap.size w' w'') := fun w' h => by
  rw [← HFb.out, hcb2]
  have hx := (HMX.out.later (qa0 HB0.out h)).sl
  refine qdw w' rb cb nb kb (K - ca) _ _ F' (fun j => X (ca + j)) (HMB.out.later (qa0 HB0.out h)).sl ⟨fun i hi => hx.1 (ca + i) (by omega), fun i hi => ?_⟩ HRB.out
  obtain ⟨xb', xo', e, hcx⟩ := hx.2 (ca + i) (by omega)
  cases e
  exact ⟨xb, xo + ca, rfl, by rw [show xo + ca + i = xo + (ca + i) by omega]; exact hcx⟩
 have HBa : Hid (∀ i, i < ra → fa i < 256) := fun i hi => by rw [← HFa.out]; exact apf_lt X HMA.out.sl.1 HRA.out i hi
 have HBb : Hid (∀ i, i < rb → fb i < 256) := fun i hi => by rw [← HFb.out]; exact apf_lt _ HMB.out.sl.1 HRB.out i hi
 have HBc : Hid (∀ i, i < ra + rb → catG fa fb ra i < 256) := fun i hi => by
  show (if i < ra then fa i else fb (i - ra)) < 256
  by_cases h : i < ra
  ·rw [if_pos h]; exact HBa.out i h
  ·rw [if_neg h]; exact HBb.out _ (by omega)
 have HBy : Hid (∀ i, i < R → fy i < 256) := fun i hi => by rw [HEq.out i hi]; exact HBc.out i (by rw [HR.out]; exact hi)
 clear hcb2 HFy HFa HFb HJf HAp HMX HMA HMB HRA HRB
 have HBd3 : Hid (Below wb.heap.size wb w3.drew) := HB3.out.trans ⟨rfl, rfl, rfl, Nat.le_refl _, fun _ _ => rfl⟩
 have HD3 : Hid (w3.drew.cell? ⟨w.heap.size, 0, none⟩ = some (.int .i64 (ra : Int)) ∧ w3.drew.cell? ⟨w.heap.size, 1, none⟩ = some (.int .i64 (ca : Int)) ∧ w3.drew.cell? ⟨w.heap.size, 2, none⟩ = some (.slice a na ka) ∧ w3.drew.cell? ⟨w.heap.size + 1, 0, none⟩ = some (.int .i64 (rb : Int)) ∧ w3.drew.cell? ⟨w.heap.size + 1, 1, none⟩ = some (.int .i64 (cb : Int)) ∧ w3.drew.cell? ⟨w.heap.size + 1, 2, none⟩ = some (.slice a' nb kb)) := ⟨(HA.out.later HBd3.out).cell 0 _ rfl, (HA.out.later HBd3.out).cell 1 _ rfl, (HA.out.later HBd3.out).cell 2 _ rfl, (HBv.out.later HBd3.out).cell 0 _ rfl, (HBv.out.later HBd3.out).cell 1 _ rfl, (HBv.out.later HBd3.out).cell 2 _ rfl⟩
 have p0 : (0 : Int) ≤ (ca : Int) := Int.natCast_nonneg _
 have p1 : (ca : Int) ≤ (K : Int) := by omega
 have p2 : (ca : Int) ≤ (C : Int) := by omega
 have p3 : ¬ K = ca := by omega
 have HG3 : Hid (g3 < w3.heap.size) := lt_of_block HR3.out
 go_region_held3 (fun w' => w'.cell? ⟨w.heap.size, 0, none⟩ = some (.int .i64 (ra : Int)) ∧ w'.cell? ⟨w.heap.size, 1, none⟩ = some (.int .i64 (ca : Int)) ∧ w'.cell? ⟨w.heap.size, 2, none⟩ = some (.slice a na ka) ∧ w'.cell? ⟨w.heap.size + 1, 0, none⟩ = some (.int .i64 (rb : Int)) ∧ w'.cell? ⟨w.heap.size + 1, 1, none⟩ = some (.int .i64 (cb : Int)) ∧ w'.cell? ⟨w.heap.size + 1, 2, none⟩ = some (.slice a' nb kb))
  (first
   | exact HK4.out
   | exact HD3.out)
  (first | (go_at_call 23; refine (HAa.out _ HBd3.out).mono ?_; rintro e w4 ⟨g4, rfl, hr4, hg4, hb4⟩; have HB4 : Hid (Below wb.heap.size wb w4) := qa0 HBd3.out hb4; have HR4 : Hid (RowAt w4 g4 5 ra fa) := hr4; have HY4 : Hid (RowAt w4 g3 5 R fy) := HR3.out.later (qa0 (qb7 _) hb4); have HG4 : Hid (w3.heap.size ≤ g4) := hg4; have HK4 : Hid (w4.cell? ⟨w.heap.size, 0, none⟩ = some (.int .i64 (ra : Int)) ∧ w4.cell? ⟨w.heap.size, 1, none⟩ = some (.int .i64 (ca : Int)) ∧ w4.cell? ⟨w.heap.size, 2, none⟩ = some (.slice a na ka) ∧ w4.cell? ⟨w.heap.size + 1, 0, none⟩ = some (.int .i64 (rb : Int)) ∧ w4.cell? ⟨w.heap.size + 1, 1, none⟩ = some (.int .i64 (cb : Int)) ∧ w4.cell? ⟨w.heap.size + 1, 2, none⟩ = some (.slice a' nb kb)) := ⟨(HA.out.later HB4.out).cell 0 _ rfl, (HA.out.later HB4.out).cell 1 _ rfl, (HA.out.later HB4.out).cell 2 _ rfl, (HBv.out.later HB4.out).cell 0 _ rfl, (HBv.out.later HB4.out).cell 1 _ rfl, (HBv.out.later HB4.out).cell 2 _ rfl⟩; clear hb4 hr4 hg4))
 have HBd4 : Hid (Below wb.heap.size wb w4.drew) := HB4.out.trans ⟨rfl, rfl, rfl, Nat.le_refl _, fun _ _ => rfl⟩
 have HD5 : Hid (w4.drew.cell? ⟨w.heap.size, 0, none⟩ = some (.int .i64 (ra : Int)) ∧ w4.drew.cell? ⟨w.heap.size, 1, none⟩ = some (.int .i64 (ca : Int)) ∧ w4.drew.cell? ⟨w.heap.size, 2, none⟩ = some (.slice a na ka) ∧ w4.drew.cell? ⟨w.heap.size + 1, 0, none⟩ = some (.int .i64 (rb : Int)) ∧ w4.drew.cell? ⟨w.heap.size + 1, 1, none⟩ = some (.int .i64 (cb : Int)) ∧ w4.drew.cell? ⟨w.heap.size + 1, 2, none⟩ = some (.slice a' nb kb)) := ⟨(HA.out.later HBd4.out).cell 0 _ rfl, (HA.out.later HBd4.out).cell 1 _ rfl, (HA.out.later HBd4.out).cell 2 _ rfl, (HBv.out.later HBd4.out).cell 0 _ rfl, (HBv.out.later HBd4.out).cell 1 _ rfl, (HBv.out.later HBd4.out).cell 2 _ rfl⟩
 have a_40 := (HA.out.later HB4.out).cell 0 _ rfl
 have a_41 := (HA.out.later HB4.out).cell 1 _ rfl
 have a_42 := (HA.out.later HB4.out).cell 2 _ rfl
 have a_43 := (HA.out.later HB4.out).cell 3 _ rfl
 have b_40 := (HBv.out.later HB4.out).cell 0 _ rfl
 have b_41 := (HBv.out.later HB4.out).cell 1 _ rfl
 have b_42 := (HBv.out.later HB4.out).cell 2 _ rfl
 have b_43 := (HBv.out.later HB4.out).cell 3 _ rfl
 go_wp2
 go_region_held3 (fun w' => w'.cell? ⟨w.heap.size, 0, none⟩ = some (.int .i64 (ra : Int)) ∧ w'.cell? ⟨w.heap.size, 1, none⟩ = some (.int .i64 (ca : Int)) ∧ w'.cell? ⟨w.heap.size, 2, none⟩ = some (.slice a na ka) ∧ w'.cell? ⟨w.heap.size + 1, 0, none⟩ = some (.int .i64 (rb : Int)) ∧ w'.cell? ⟨w.heap.size + 1, 1, none⟩ = some (.int .i64 (cb : Int)) ∧ w'.cell? ⟨w.heap.size + 1, 2, none⟩ = some (.slice a' nb kb))
  (first
   | exact HK5.out
   | exact HD5.out)
  (first | (go_at_call 23; refine (HAb.out _ HBd4.out).mono ?_; rintro e w5 ⟨g5, rfl, hr5, hg5, hb5⟩; have HB5 : Hid (Below wb.heap.size wb w5) := qa0 HBd4.out hb5; have HR5 : Hid (RowAt w5 g5 5 rb fb) := hr5; have HA5 : Hid (RowAt w5 g4 5 ra fa) := HR4.out.later (qa0 (qb7 _) hb5); have HY5 : Hid (RowAt w5 g3 5 R fy) := HY4.out.later (qa0 (qb7 _) hb5); have HK5 : Hid (w5.cell? ⟨w.heap.size, 0, none⟩ = some (.int .i64 (ra : Int)) ∧ w5.cell? ⟨w.heap.size, 1, none⟩ = some (.int .i64 (ca : Int)) ∧ w5.cell? ⟨w.heap.size, 2, none⟩ = some (.slice a na ka) ∧ w5.cell? ⟨w.heap.size + 1, 0, none⟩ = some (.int .i64 (rb : Int)) ∧ w5.cell? ⟨w.heap.size + 1, 1, none⟩ = some (.int .i64 (cb : Int)) ∧ w5.cell? ⟨w.heap.size + 1, 2, none⟩ = some (.slice a' nb kb)) := ⟨(HA.out.later HB5.out).cell 0 _ rfl, (HA.out.later HB5.out).cell 1 _ rfl, (HA.out.later HB5.out).cell 2 _ rfl, (HBv.out.later HB5.out).cell 0 _ rfl, (HBv.out.later HB5.out).cell 1 _ rfl, (HBv.out.later HB5.out).cell 2 _ rfl⟩; clear hb5 hr5 hg5))
 have HS : Hid (∀ w' s cap, RowAt w' g3 5 R fy → Sl w' s (ra + rb) (catG fa fb ra) → Calls Tryz.prog 25 #[.slice (some ⟨g3, 0, none⟩) R R, .slice s (ra + rb) cap] w' fun e w'' => e = .returned (.bool true) ∧ w' = w'') := fun w' s cap h1 h2 => by
  have := qe9 w' _ s R (ra + rb) R cap fy (catG fa fb ra) (h1.sl HBy.out) h2
  rwa [show sameB R (ra + rb) fy (catG fa fb ra) = true from decide_eq_true ⟨HR.out.symm, HEq.out⟩] at this
 clear HAa HAb HK4 HK5 HD3 HD5 HEq
 go_wp2_with (first
  | (go_at_call 20; refine (ql2 _).mono ?_; rintro e w6 ⟨rfl, hb6⟩; have HB6 : Hid (Below wb.heap.size wb w6) := qa0 HB5.out hb6; have HR6 : Hid (RowAt w6 g5 5 rb fb) := HR5.out.later hb6; have HA6 : Hid (RowAt w6 g4 5 ra fa) := HA5.out.later hb6; have HY6 : Hid (RowAt w6 g3 5 R fy) := HY5.out.later hb6; clear hb6)
  | (at_builtin; refine qe5 (by rfl) ?_; refine qch rfl _ _ rfl w.heap.size ra _ fa rfl (qkj HA6.out (by omega) (by have := HB3.out.size; have := HB0.out.size; have := HG4.out; omega)) _ rb rb fb rfl (HR6.out.sl HBb.out) (fun e => by cases e) (by omega) (by have := HB6.out.size; have := HB0.out.size; omega) ?_; intro v7 w7 ho7 hg7 hb7; obtain ⟨s7, d7, e7, _⟩ := ho7.form; subst e7; have HO7 : Hid (Jo w7 w.heap.size 5 .u8 (.slice s7 (ra + rb) d7) (ra + rb) (catG fa fb ra)) := ho7; have HY7 : Hid (RowAt w7 g3 5 R fy) := HY6.out.kept (show World.grownBy w6 w7 (some g4) from hg7) (by have := HG3.out; have := HG4.out; omega); have HB7 : Hid (Below w.heap.size w w7) := (qa0 HB0.out HB6.out).trans hb7; clear ho7 hg7 hb7)
  | (go_at_call 25; refine (HS.out _ _ _ HY7.out (sl_of_jl HO7.out.jl HBc.out)).mono ?_; rintro e w' ⟨rfl, rfl⟩))
 go_ret
 exact ⟨rfl, HB7.out⟩
end Go.Proofs.YtmgfeepnkahkmaaGreat
