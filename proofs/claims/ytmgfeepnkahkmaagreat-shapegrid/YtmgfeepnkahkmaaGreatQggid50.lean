/-
  shape.Same of any two codes: bytes.Equal, slices.Equal.
  A code that came in, opened: a struct of a matrix and of a list.
  The anchor of the laws of codes.
  Codes that came in; shape.May and shape.Same beside the reference's.
  Of a Join the first blocks hang on the first data alone, the others on the others.
  A Product's blocks are what the first code makes of what the second makes of each row of data.
-/
import Derived.Test.YtmgfeepnkahkmaaGreatQggid00
import Derived.Test.YtmgfeepnkahkmaaGreatQggid37
import Derived.Deep.LoopGhost
import Derived.Test.YtmgfeepnkahkmaaGreatQggid02
import Derived.Lib.SmallJoins
import Derived.Test.YtmgfeepnkahkmaaGreatQggid42
import Derived.Test.YtmgfeepnkahkmaaGreatQggid36
import Derived.Test.YtmgfeepnkahkmaaGreatQggid47
import Derived.Deep.RegionHeld3
import Derived.Test.YtmgfeepnkahkmaaGreatQggid48
import Derived.Test.YtmgfeepnkahkmaaGreatQggid08
import Derived.Laws.AppendOwnNone
import Derived.Test.YtmgfeepnkahkmaaGreatQggid49
import Derived.Test.YtmgfeepnkahkmaaGreatQggid07
import Derived.Test.YtmgfeepnkahkmaaGreatQggid16
set_option maxRecDepth 100000
set_option maxHeartbeats 16000000
namespace Go.Proofs.YtmgfeepnkahkmaaGreat
open Go.ChangeShapes Go.WideShapes Go.ChangeAt Go.RowKit Go.Joins
theorem array4 {α : Type} {cs : Array α} (h : cs.size = 4) : ∃ c0 c1 c2 c3, cs = #[c0, c1, c2, c3] := by
 obtain ⟨l⟩ := cs
 match l, h with
 | [c0, c1, c2, c3], _ => exact ⟨c0, c1, c2, c3, rfl⟩
theorem qfz {H : Type} {enc : TypeId × Value → H} {P : Program} {w : World} {base : Nat} {spare : Nat → Bool} {held : Bool} {r : Reach} {b0 : Nat} {t : TypeId} {f0 f1 g0 g1 g2 : Field} {v : Value} {d : DataW H} {p : List MemPlace} (hs : P.underlying t = some (.struct #[f0, f1])) (hm : P.underlying f0.type = some (.struct #[g0, g1, g2])) (hone : Go.Deep.oneCellFields P #[g0, g1, g2] = true) (o0 : f0.offset = 0) (o1 : f1.offset = 3) (k0 : P.cellsOf f0.type = 3) (k1 : P.cellsOf f1.type = 1) (hC : P.cellsOf t = 4)
  (hv : Value.okWide P w r b0 t v) (h : DataW.Trod enc P w base spare held t v d p) :
  ∃ (v0 v1 v2 v3 : Value) (y0 y1 y2 y3 : DataW H × List MemPlace) (n n' : Nat), v = .agg #[v0, v1, v2, v3] ∧ d = .agg [.agg [y0.1, y1.1, y2.1], y3.1] ∧ p = (y0.2 ++ (y1.2 ++ y2.2)) ++ y3.2 ∧
   DataW.trod enc P w base spare held n' g0.type [v0] = some y0 ∧ DataW.trod enc P w base spare held n' g1.type [v1] = some y1 ∧ DataW.trod enc P w base spare held n' g2.type [v2] = some y2 ∧ DataW.trod enc P w base spare held n f1.type [v3] = some y3 := by
 obtain ⟨cs, rfl, hsz⟩ := okWide_struct hs hv
 obtain ⟨c0, c1, c2, c3, rfl⟩ := array4 (hsz.trans hC)
 obtain ⟨fuel, hf⟩ := h
 obtain ⟨xs, n, _, hx, hl, hlen, hff⟩ := DataW.trod_struct hs hf
 match xs, hlen with
 | [z0, y3], _ =>
  have h0 := hff 0 f0 rfl
  have h1 := hff 1 f1 rfl
  rw [o0, k0] at h0
  rw [o1, k1] at h1
  simp [Value.cells] at h0 h1
  obtain ⟨xs', n', _, hx', hl', hlen', hff'⟩ := DataW.trod_struct hm h0
  match xs', hlen' with
  | [y0, y1, y2], _ =>
   obtain ⟨q0, j0⟩ := Go.Deep.hone_of hone 0 g0 rfl
   obtain ⟨q1, j1⟩ := Go.Deep.hone_of hone 1 g1 rfl
   obtain ⟨q2, j2⟩ := Go.Deep.hone_of hone 2 g2 rfl
   have e0 := hff' 0 g0 rfl
   have e1 := hff' 1 g1 rfl
   have e2 := hff' 2 g2 rfl
   simp only [Prod.mk.injEq] at hx
   subst hx'
   exact ⟨c0, c1, c2, c3, y0, y1, y2, y3, n, n', rfl, by simpa using hx.1, by simpa using hx.2, by simpa [q0, j0] using e0, by simpa [q1, j1] using e1, by simpa [q2, j2] using e2, h1⟩
open Go.RowKit
/-- The anchor's code: 1 / 1 with the group of both blocks. -/
def anF (q : Nat) : Nat := ptf 1 1 1 (fun _ => 1) (fun q => crf 1 (1 * 1 + q)) q
theorem qfd : ∀ q, q < 2 → anF q = 1 := fun q hq => by
 rcases (by omega : q = 0 ∨ q = 1) with rfl | rfl
 ·rfl
 ·rfl
theorem two_ones {w : World} {b : Nat} (h : Vq w b 5 #[.int .u8 1, .int .u8 1]) : Sl w (some ⟨b, 0, none⟩) 2 (fun _ => 1) := ⟨fun _ _ => by show 1 < 256; omega, fun i hi => ⟨b, 0, rfl, by
 rcases (by omega : i = 0 ∨ i = 1) with rfl | rfl
 ·exact h.cell 0 _ rfl
 ·exact h.cell 1 _ rfl⟩⟩
theorem one_set {w : World} {b : Nat} (h : Vq w b 52 #[.int .u64 3]) : Jl w (some ⟨b, 0, none⟩) .u64 1 (fun _ => ((3 : Nat) : Int)) := fun i hi => ⟨b, 0, rfl, by
 obtain rfl : i = 0 := by omega
 exact h.cell 0 _ rfl⟩
theorem an_hang : HangP anF 2 1 3 := by
 have R : Rt 2 1 2 := ⟨by omega, by omega, rfl⟩
 have hM : El2 (m2 anF 2 1) := qf0 (fun i hi => by rw [qfd i hi]; omega) R
 have e : m2 anF 2 1 0 = m2 anF 2 1 1 := by
  funext j
  by_cases hj : j < 1
  ·rw [qb9 _ (by omega) hj, qb9 _ (by omega) hj, qfd _ (by omega), qfd _ (by omega)]
  ·rw [qat anF (by omega), qat anF (by omega)]
 refine ⟨by decide, fun i hi hb => ?_⟩
 rcases (by omega : i = 0 ∨ i = 1) with rfl | rfl
 ·rw [e]; exact qek hM (by omega) (by rfl)
 ·rw [← e]; exact qek hM (by omega) (by rfl)
theorem an_local (w : World) : Calls Tryz.prog 21 #[.int .i64 1, .int .i64 1, .int .i64 0] w fun e w' => ∃ s d t e2, e = .returned (.tuple #[cv 2 1 s 2 d t 1 e2, .int .i64 0]) ∧ Mt w' s 2 d anF ∧ Jl w' t .u64 1 (fun _ => ((3 : Nat) : Int)) ∧ Below w.heap.size w w' := by
 have h := qil w 1 1 1 0 2 2 (by omega) (by omega) (by omega) (qfr rfl) (qfr rfl) (by omega) (qfr rfl)
 refine h.mono (fun e w' h => ?_)
 obtain ⟨s, d, t, e2, h1, h2, h3, h4⟩ := h
 exact ⟨s, d, t, e2, h1, h2, fun i hi => by
  obtain rfl : i = 0 := by omega
  obtain ⟨x, o, ex, hc⟩ := h3 0 (by omega)
  exact ⟨x, o, ex, by rw [hc]; rfl⟩, h4⟩
theorem ql1 (w : World) : Calls Tryz.prog 20 #[] w fun e w' => e = .returned (.bool true) ∧ Below w.heap.size w w' := by
 have HLo := jhidv an_local
 go_enter Tryz.func20, Tryz.ntmps20
 go_wp2_with (first
  | (go_at_call 21; refine (HLo.out _).mono ?_; rintro e w1 ⟨s1, d1, t1, e1, rfl, hm1, hj1, hb1⟩; have HV : Hid (Vq (w1.alloc (.cells #[.int .i64 2, .int .i64 1, .slice s1 2 d1, .slice t1 1 e1] 27)) w1.heap.size 27 #[.int .i64 2, .int .i64 1, .slice s1 2 d1, .slice t1 1 e1]) := Vq.new w1 _ _; have HBd : Hid (Below w.heap.size w (((w1.alloc (.cells #[.int .i64 2, .int .i64 1, .slice s1 2 d1, .slice t1 1 e1] 27)).alloc (.cells #[.int .u8 1, .int .u8 1] 5)).alloc (.cells #[.int .u64 3] 52))) := qa0 (qa0 (qa0 hb1 (qa1 _ _)) (qa1 _ _)) (qa1 _ _); have HMd : Hid (Mt (((w1.alloc (.cells #[.int .i64 2, .int .i64 1, .slice s1 2 d1, .slice t1 1 e1] 27)).alloc (.cells #[.int .u8 1, .int .u8 1] 5)).alloc (.cells #[.int .u64 3] 52)) s1 2 d1 anF) := ((hm1.later (qa1 _ _)).later (qa1 _ _)).later (qa1 _ _); have HJd : Hid (Jl (((w1.alloc (.cells #[.int .i64 2, .int .i64 1, .slice s1 2 d1, .slice t1 1 e1] 27)).alloc (.cells #[.int .u8 1, .int .u8 1] 5)).alloc (.cells #[.int .u64 3] 52)) t1 .u64 1 (fun _ => ((3 : Nat) : Int))) := ((hj1.later (qa1 _ _)).later (qa1 _ _)).later (qa1 _ _); have HVd : Hid (Vq (((w1.alloc (.cells #[.int .i64 2, .int .i64 1, .slice s1 2 d1, .slice t1 1 e1] 27)).alloc (.cells #[.int .u8 1, .int .u8 1] 5)).alloc (.cells #[.int .u64 3] 52)) w1.heap.size 27 #[.int .i64 2, .int .i64 1, .slice s1 2 d1, .slice t1 1 e1]) := (HV.out.later (qa1 _ _)).later (qa1 _ _); have HLb : Hid (Vq (((w1.alloc (.cells #[.int .i64 2, .int .i64 1, .slice s1 2 d1, .slice t1 1 e1] 27)).alloc (.cells #[.int .u8 1, .int .u8 1] 5)).alloc (.cells #[.int .u64 3] 52)) (w1.heap.size + 1) 5 #[.int .u8 1, .int .u8 1]) := (Vq.new1 w1 _ _ _).later (qa1 _ _); have HLs : Hid (Vq (((w1.alloc (.cells #[.int .i64 2, .int .i64 1, .slice s1 2 d1, .slice t1 1 e1] 27)).alloc (.cells #[.int .u8 1, .int .u8 1] 5)).alloc (.cells #[.int .u64 3] 52)) (w1.heap.size + 1 + 1) 52 #[.int .u64 3]) := Vq.new2 w1 _ _ _ _; have c0 := HV.out.cell 0 _ rfl; have c1 := HV.out.cell 1 _ rfl; have c2 := HV.out.cell 2 _ rfl; have c3 := HV.out.cell 3 _ rfl; clear hm1 hj1 hb1)
  | (go_at_call 19; refine (rsame16 _ 2 1 2 1 s1 t1 (some ⟨w1.heap.size + 1, 0, none⟩) (some ⟨w1.heap.size + 1 + 1, 0, none⟩) 2 d1 1 e1 2 2 1 1 anF (fun _ => 1) (fun _ => 3) (fun _ => 3) HMd.out.sl (two_ones HLb.out) HJd.out (one_set HLs.out) (by omega) true (qfr (by rw [qi6 (fun i hi => qfd i hi), gsB_self]; rfl))).mono ?_; rintro e w2 ⟨rfl, hb2⟩; have HB2 : Hid (Below w.heap.size w w2) := qa0 HBd.out hb2; have HM2 : Hid (Mt w2 s1 2 d1 anF) := HMd.out.later hb2; have HJ2 : Hid (Jl w2 t1 .u64 1 (fun _ => ((3 : Nat) : Int))) := HJd.out.later hb2; have k0 := (HVd.out.later hb2).cell 0 _ rfl; have k1 := (HVd.out.later hb2).cell 1 _ rfl; have k2 := (HVd.out.later hb2).cell 2 _ rfl; have k3 := (HVd.out.later hb2).cell 3 _ rfl; clear hb2)
  | (go_at_call 16; refine (may1 _ 2 1 2 d1 e1 3 s1 t1 anF HM2.out HJ2.out ⟨by omega, by omega, rfl⟩ (by omega) (by omega) (by omega) an_hang).mono ?_; rintro e w3 ⟨rfl, hb3⟩; have HB3 : Hid (Below w.heap.size w w3) := qa0 HB2.out hb3; clear hb3))
 go_ret
 exact ⟨rfl, HB3.out⟩
open Go.RowKit
theorem qg0 {n : Int} (h : (Lit.int .u64 n).wf = true) : 0 ≤ n ∧ n < 18446744073709551616 := by
 simp [Lit.wf, IntKind.min, IntKind.max, IntKind.bits, IntKind.signed] at h
 omega
theorem qg1 (w : World) (a : Option Addr) (len cap : Nat) (zs : List Int)
  (h : (a = none ∧ len = 0 ∧ cap = 0 ∧ zs = []) ∨ ∃ x, a = some x ∧ len ≤ cap ∧ cap ≤ 140737488351232 ∧ zs.length = cap ∧ (∀ i, i < zs.length → w.cell? (x.add i) = some (.int .u64 (zs.getD i 0))) ∧ ∀ n ∈ zs, (Lit.int .u64 n).wf = true) :
  ∃ q : Nat → Nat, Jl w a .u64 len (fun i => (q i : Int)) ∧ ∀ i, i < len → q i < 18446744073709551616 := by
 rcases h with ⟨rfl, rfl, rfl, rfl⟩ | ⟨x, rfl, hl, hm, hz, hcell, hwz⟩
 ·exact ⟨fun _ => 0, fun i hi => by omega, fun i hi => by omega⟩
 ·refine ⟨fun i => (zs.getD i 0).toNat, fun i hi => ?_, fun i hi => ?_⟩
  ·have hi' : i < zs.length := by omega
   have hc := hcell i hi'
   obtain ⟨b, off, spot⟩ := x
   have hspot : spot = none := by
    have h0 := hcell 0 (by omega)
    simpa [Addr.add] using World.cell?_spot h0
   subst hspot
   refine ⟨b, off, rfl, ?_⟩
   have hplain : (⟨b, off, none⟩ : Addr).add i = ⟨b, off + i, none⟩ := by unfold Addr.add; split <;> simp_all
   rw [hplain] at hc
   rw [hc]
   have hw := qg0 (hwz zs[i] (List.getElem_mem hi'))
   have e : zs.getD i 0 = zs[i] := by simp [List.getD, hi']
   have hw0 := hw.1
   simp only [e]
   congr 2
   omega
  ·have hi' : i < zs.length := by omega
   have hw := qg0 (hwz zs[i] (List.getElem_mem hi'))
   have e : zs.getD i 0 = zs[i] := by simp [List.getD, hi']
   show (zs.getD i 0).toNat < _
   rw [e]
   omega
open Go.RowKit
theorem sl_of_jl {w : World} {a : Option Addr} {n : Nat} {f : Nat → Nat} (h : Jl w a .u8 n (fun i => (f i : Int))) (hf : ∀ i, i < n → f i < 256) : Sl w a n f := ⟨hf, fun i hi => h i hi⟩
theorem jbyte16 : (Tryz.prog.info? 5).map (fun i => (i.zero, i.size, i.bytes)) = some (some (.int .u8 0), 1, 1) := by kernel_rfl
theorem row_news {w : World} {ad : Option Addr} {y : Addr} {m : Nat} {g : Nat → Nat} (h : Sl w ad m g) (e : ad = some y) : ∀ j u, (row m g).toList[j]? = some u → w.cell? (y.add j) = some u := by
 intro j u hj
 have hjm : j < m := by
  rcases Nat.lt_or_ge j m with h | h
  ·exact h
  ·rw [List.getElem?_eq_none (by simp [row]; omega)] at hj; cases hj
 obtain ⟨b, o, eb, hc⟩ := h.2 j hjm
 rw [e] at eb
 cases eb
 simp [row, hjm] at hj
 subst hj
 rw [show (⟨b, o, none⟩ : Addr).add j = ⟨b, o + j, none⟩ by unfold Addr.add; split <;> simp_all]
 exact hc
theorem qhq (n m : Nat) (f g : Nat → Nat) : (row n f).toList ++ (row m g).toList = (jrow .u8 (n + m) (catG f g n)).toList := by
 apply List.ext_getElem?
 intro i
 have hl : (row n f).toList.length = n := by simp [row]
 by_cases h1 : i < n
 ·rw [List.getElem?_append_left (by omega), Array.getElem?_toList, Array.getElem?_toList, qb5 .u8 (n + m) _ i (by omega), catG, if_pos h1]
  simp [row, h1]
 ·rw [List.getElem?_append_right (by omega), hl]
  by_cases h2 : i < n + m
  ·rw [Array.getElem?_toList, Array.getElem?_toList, qb5 .u8 (n + m) _ i (by omega), catG, if_neg h1]
   simp [row, show i - n < m by omega]
  ·rw [List.getElem?_eq_none (by simp [row]; omega), List.getElem?_eq_none (by simp [qbc]; omega)]
theorem row_ones (m : Nat) (g : Nat → Nat) : ∀ u ∈ (row m g).toList, u.oneCell' = true := by
 intro u hu
 simp [row] at hu
 obtain ⟨i, _, rfl⟩ := hu
 rfl
/-- A list of bytes of the call's own, and any other one behind it. -/
theorem qcl {ops : Array Oper} {rest : List Oper} {o : Oper} {a : Act} {Q : Exit → Act → World → Prop} {w : World}
  (hgd : o.guard = none) (s x : Operand) (ho : o.op = Op.call { callee := Callee.builtin Builtin.append, args := #[s, x], argTypes := #[22, 22] })
  (B n : Nat) (v : Value) (f : Nat → Nat) (hs : a.eval s = v) (hown : w.ownsRow B 5 1 v n (row n f).toList)
  (ad : Option Addr) (m c : Nat) (g : Nat → Nat) (hx : a.eval x = .slice ad m c) (hg : Sl w ad m g) (h0 : ad = none → m = 0 ∧ c = 0) (hlim : n + m ≤ 17592186044416) (hB : B ≤ w.heap.size)
  (hK : ∀ v' w', Jo w' B 5 .u8 v' (n + m) (catG f g n) → w.grownBy w' v.ownBlock → Below B w w' → wpList Tryz.prog ops Q rest (a.put o.dst v') w') :
  wpList Tryz.prog ops Q (o :: rest) a w := by
 obtain ⟨i0, hi, hz0, hz1, hz2⟩ := info_parts jbyte16
 cases ad with
 | none =>
  obtain ⟨rfl, rfl⟩ := h0 rfl
  refine wpList_append_own_none hgd s x 22 ho B 5 i0 1 Tryz.underlying22 hi v n _ hs hown hx ?_
  refine hK v w ?_ (World.grownBy.refl _ _) ((Below.refl _ _).mono hB)
  have e : (row n f).toList = (jrow .u8 (n + 0) (catG f g n)).toList := by rw [← qhq]; simp [row]
  show World.ownsRow _ _ _ _ _ _ _
  rw [← e]
  exact hown
 | some y =>
  refine wpList_append_own _ hgd s x 22 ho B 5 i0 (.int .u8 0) 1 1 Tryz.underlying22 hi hz0 hz1 hz2 rfl (by decide) v n _ hs hown y m c (row m g).toList hx (by simp [row]) (row_news hg rfl) (row_ones m g) (by unfold maxLen; omega) (by omega) hB ?_
  intro v' w' ho' hg' _
  rw [qhq] at ho'
  exact hK v' w' ho' hg' (jbelow hg' hB (qab hown))
open Go.RowKit
theorem grid_ap {F F' X Y : Nat → Nat} {ra ca rb cb na nb CC i k : Nat} (hF : ∀ i, i < na → F i < 256) (hF' : ∀ i, i < nb → F' i < 256) (RA : Rt ra ca na) (RB : Rt rb cb nb) (eC : ca * cb = CC) (hY : ∀ t k, t < ca → k < rb → Y (t * rb + k) = apf F' (fun l => X (t * cb + l)) cb k) (hi : i < ra) (hk : k < rb) :
  apf (krf F F' ca rb cb CC) X CC (i * rb + k) = prk F Y ca rb ca (i * rb + k) := by
 rw [prk_at F Y ca rb i k hk]
 unfold apf
 rw [← eC, xs_prod]
 refine qa7 (fun s hs => ?_)
 rw [hY s k hs hk]
 unfold apf
 rw [qca]
 refine qa7 (fun t ht => ?_)
 rw [krf_pair F F' ca rb cb (ca * cb) i k s t rfl hk hs ht, qah _ _ _ (hF _ (RA.at hi hs)) (hF' _ (RB.at hk ht))]
theorem qhr (w : World) (r c r' c' E : Int) (a b a' b' x : Option Addr) (n k m d n' k' m' d' L K : Nat) (hE : (E != 0) = true)
  (hj : ∀ w', Below w.heap.size w w' → Calls Tryz.prog 9 #[cv r c a n k b m d, cv r' c' a' n' k' b' m' d'] w' fun e w'' => e = .returned (.tuple #[cv 0 0 none 0 0 none 0 0, .int .i64 E]) ∧ Below w'.heap.size w' w'') :
  Calls Tryz.prog 6 #[cv r c a n k b m d, cv r' c' a' n' k' b' m' d', .slice x L K] w fun e w' => e = .returned (.bool true) ∧ Below w.heap.size w w' := by
 obtain ⟨wb, HW⟩ : ∃ wb, Hid ((w.alloc (.cells #[.int .i64 r, .int .i64 c, .slice a n k, .slice b m d] 27)).alloc (.cells #[.int .i64 r', .int .i64 c', .slice a' n' k', .slice b' m' d'] 27) = wb) := ⟨_, rfl⟩
 have HB0 : Hid (Below w.heap.size w wb) := by rw [← HW.out]; exact qa0 (qa1 _ _) (qa1 _ _)
 have HA : Hid (Vq wb w.heap.size 27 #[.int .i64 r, .int .i64 c, .slice a n k, .slice b m d]) := by rw [← HW.out]; exact (Vq.new w _ _).later (qa1 _ _)
 have HBv : Hid (Vq wb (w.heap.size + 1) 27 #[.int .i64 r', .int .i64 c', .slice a' n' k', .slice b' m' d']) := by rw [← HW.out]; exact Vq.new1 _ _ _ _
 have HR0 : Hid (Below wb.heap.size wb wb) := Below.refl _ _
 have HJ : Hid (∀ w', Below w.heap.size w w' → Calls Tryz.prog 9 #[cv r c a n k b m d, cv r' c' a' n' k' b' m' d'] w' fun e w'' => e = .returned (.tuple #[cv 0 0 none 0 0 none 0 0, .int .i64 E]) ∧ Below w'.heap.size w' w'') := hj
 have hE0 : (E == 0) = false := by simpa using hE
 have a_00 := (HA.out.later HR0.out).cell 0 _ rfl
 have a_01 := (HA.out.later HR0.out).cell 1 _ rfl
 have a_02 := (HA.out.later HR0.out).cell 2 _ rfl
 have a_03 := (HA.out.later HR0.out).cell 3 _ rfl
 have b_00 := (HBv.out.later HR0.out).cell 0 _ rfl
 have b_01 := (HBv.out.later HR0.out).cell 1 _ rfl
 have b_02 := (HBv.out.later HR0.out).cell 2 _ rfl
 have b_03 := (HBv.out.later HR0.out).cell 3 _ rfl
 clear hj
 go_enter Tryz.func6, Tryz.ntmps6
 go_upto_region 2 with (go_at_call 9; rw [HW.out]; refine (HJ.out _ HB0.out).mono ?_; rintro e w1 ⟨rfl, hb1⟩; have HB1 : Hid (Below w.heap.size w w1) := qa0 HB0.out hb1; clear hb1)
 obtain ⟨w3, HW3⟩ : ∃ w3, Hid (w1.alloc (.cells #[.int .i64 0, .int .i64 0, .slice none 0 0, .slice none 0 0] 27) = w3) := ⟨_, rfl⟩
 have HB3 : Hid (Below w.heap.size w w3) := by rw [← HW3.out]; exact qa0 HB1.out (qa1 _ _)
 rw [HW3.out]
 clear HW3 HB1 HJ
 go_wp2_with (go_at_call 20; refine (ql1 _).mono ?_; rintro e w2 ⟨rfl, hb2⟩; have HB2 : Hid (Below w.heap.size w w2) := qa0 HB3.out hb2; clear hb2)
 go_ret
 exact ⟨rfl, HB2.out⟩
theorem grid_len (w : World) (ra ca na ka ma da rb cb nb kb mb db RR CC M L K : Nat) (a b a' b' x : Option Addr) (F F' q q' : Nat → Nat) (ha : Mt w a na ka F) (ha' : Mt w a' nb kb F') (hb : Jl w b .u64 ma (fun i => (q i : Int))) (hb' : Jl w b' .u64 mb (fun i => (q' i : Int))) (RA : Rt ra ca na) (RB : Rt rb cb nb) (hc : 1 ≤ ca) (hr : ca ≤ ra) (hc' : 1 ≤ cb) (hr' : cb ≤ rb) (hg : ∀ i, i < ma → HangP F ra ca (q i)) (hg' : ∀ i, i < mb → HangP F' rb cb (q' i)) (hR : ra * rb = RR) (hC : ca * cb = CC) (hM : ma * rb + ra * mb = M) (hrr : RR ≤ 64) (hmm : M ≤ 16384) (hL : L ≠ CC) :
  Calls Tryz.prog 6 #[cv ra ca a na ka b ma da, cv rb cb a' nb kb b' mb db, .slice x L K] w fun e w' => e = .returned (.bool true) ∧ Below w.heap.size w w' := by
 obtain ⟨wb, HW⟩ : ∃ wb, Hid ((w.alloc (.cells #[.int .i64 (ra : Int), .int .i64 (ca : Int), .slice a na ka, .slice b ma da] 27)).alloc (.cells #[.int .i64 (rb : Int), .int .i64 (cb : Int), .slice a' nb kb, .slice b' mb db] 27) = wb) := ⟨_, rfl⟩
 have HB0 : Hid (Below w.heap.size w wb) := by rw [← HW.out]; exact qa0 (qa1 _ _) (qa1 _ _)
 have HA : Hid (Vq wb w.heap.size 27 #[.int .i64 (ra : Int), .int .i64 (ca : Int), .slice a na ka, .slice b ma da]) := by rw [← HW.out]; exact (Vq.new w _ _).later (qa1 _ _)
 have HBv : Hid (Vq wb (w.heap.size + 1) 27 #[.int .i64 (rb : Int), .int .i64 (cb : Int), .slice a' nb kb, .slice b' mb db]) := by rw [← HW.out]; exact Vq.new1 _ _ _ _
 have HR0 : Hid (Below wb.heap.size wb wb) := Below.refl _ _
 obtain ⟨kf, HKf⟩ : ∃ kf, Hid (krf F F' ca rb cb CC = kf) := ⟨_, rfl⟩
 have HJ : Hid (∀ w', Below w.heap.size w w' → Calls Tryz.prog 9 #[cv ra ca a na ka b ma da, cv rb cb a' nb kb b' mb db] w' fun e w'' => ∃ g N s2 d2, e = .returned (.tuple #[cv (RR : Int) (CC : Int) (some ⟨g, 0, none⟩) N N s2 M d2, .int .i64 0]) ∧ RR * CC = N ∧ RowAt w'' g 5 N kf ∧ w'.heap.size ≤ g ∧ Below w'.heap.size w' w'') := fun w' h => (ql5 w' ra ca na ka ma da rb cb nb kb mb db RR CC M a b a' b' F F' q q' (ha.later h) (ha'.later h) (hb.later h) (hb'.later h) RA RB hc hr hc' hr' hg hg' hR hC hM hrr hmm).mono (fun e w'' ⟨g, N, s2, d2, h1, h2, h3, h4, _, h6⟩ => ⟨g, N, s2, d2, h1, h2, by rw [← HKf.out]; exact h3, h4, h6⟩)
 have hra := RA.r64
 have hca := RA.c64
 have hrb := RB.r64
 have hcb := RB.c64
 have hma : ma ≤ 16384 := by have := Nat.mul_le_mul_left ma (show 1 ≤ rb by omega); omega
 have hmb : mb ≤ 16384 := by have := Nat.mul_le_mul_right mb (show 1 ≤ ra by omega); omega
 have eC : (ca : Int) * (cb : Int) = (CC : Int) := by rw [← hC]; simp
 have hCC : CC ≤ 64 := by rw [← hC]; exact Nat.le_trans (Nat.mul_le_mul hr hr') (by rw [hR]; exact hrr)
 have GA : GenP ra ca na := ⟨RA.p, by omega, by omega⟩
 have GB : GenP rb cb nb := ⟨RB.p, by omega, by omega⟩
 have HMa : Hid (∀ w', Below w.heap.size w w' → Calls Tryz.prog 17 #[cv ra ca a na ka b ma da] w' fun e w'' => e = .returned (.bool true) ∧ Below w'.heap.size w' w'') := fun w' h => rmay16 w' ra ca na ka da ma a b F q (ha.later h) (hb.later h) (by omega) (fun i hi => qbb (hg i hi) hra) true ⟨fun _ => ⟨GA, by simpa using hg⟩, fun _ => rfl⟩
 have HMb : Hid (∀ w', Below w.heap.size w w' → Calls Tryz.prog 17 #[cv rb cb a' nb kb b' mb db] w' fun e w'' => e = .returned (.bool true) ∧ Below w'.heap.size w' w'') := fun w' h => rmay16 w' rb cb nb kb db mb a' b' F' q' (ha'.later h) (hb'.later h) (by omega) (fun i hi => qbb (hg' i hi) hrb) true ⟨fun _ => ⟨GB, by simpa using hg'⟩, fun _ => rfl⟩
 have hLC : ((L : Int) != (CC : Int)) = true := by simp; omega
 have a_00 := (HA.out.later HR0.out).cell 0 _ rfl
 have a_01 := (HA.out.later HR0.out).cell 1 _ rfl
 have a_02 := (HA.out.later HR0.out).cell 2 _ rfl
 have a_03 := (HA.out.later HR0.out).cell 3 _ rfl
 have b_00 := (HBv.out.later HR0.out).cell 0 _ rfl
 have b_01 := (HBv.out.later HR0.out).cell 1 _ rfl
 have b_02 := (HBv.out.later HR0.out).cell 2 _ rfl
 have b_03 := (HBv.out.later HR0.out).cell 3 _ rfl
 have M1 : Hid True := trivial
 clear ha ha' hb hb' RA RB hg hg' GA GB hL hR hC hM
 go_enter Tryz.func6, Tryz.ntmps6
 go_upto_region 2 with (go_at_call 9; rw [HW.out]; refine (HJ.out _ HB0.out).mono ?_; rintro e w1 ⟨g1, N1, s1, d1, rfl, hN1, hr1, hg1, hb1⟩; have HB1 : Hid (Below wb.heap.size wb w1) := hb1; have HN1 : Hid (RR * CC = N1) := hN1; have HR1 : Hid (RowAt w1 g1 5 N1 kf) := hr1; clear hb1 hN1 hr1 hg1)
 obtain ⟨w2, HW2⟩ : ∃ w2, Hid (w1.alloc (.cells #[.int .i64 (RR : Int), .int .i64 (CC : Int), .slice (some ⟨g1, 0, none⟩) N1 N1, .slice s1 M d1] 27) = w2) := ⟨_, rfl⟩
 have HB2 : Hid (Below wb.heap.size wb w2) := by rw [← HW2.out]; exact qa0 HB1.out (qa1 _ _)
 have HV2 : Hid (Vq w2 w1.heap.size 27 #[.int .i64 (RR : Int), .int .i64 (CC : Int), .slice (some ⟨g1, 0, none⟩) N1 N1, .slice s1 M d1]) := by rw [← HW2.out]; exact Vq.new w1 _ _
 have HR2 : Hid (RowAt w2 g1 5 N1 kf) := by rw [← HW2.out]; exact HR1.out.later (qa1 _ _)
 rw [HW2.out]
 clear HW2 HJ HR1 HB1
 clear a_00 a_01 a_02 a_03 b_00 b_01 b_02 b_03
 have a_20 := (HA.out.later HB2.out).cell 0 _ rfl
 have a_21 := (HA.out.later HB2.out).cell 1 _ rfl
 have a_22 := (HA.out.later HB2.out).cell 2 _ rfl
 have a_23 := (HA.out.later HB2.out).cell 3 _ rfl
 have b_20 := (HBv.out.later HB2.out).cell 0 _ rfl
 have b_21 := (HBv.out.later HB2.out).cell 1 _ rfl
 have b_22 := (HBv.out.later HB2.out).cell 2 _ rfl
 have b_23 := (HBv.out.later HB2.out).cell 3 _ rfl
 go_wp2_with (first
  | (go_at_call 20; refine (ql1 _).mono ?_; rintro e w3 ⟨rfl, hb3⟩; have HB3 : Hid (Below wb.heap.size wb w3) := qa0 HB2.out hb3; clear a_20 a_21 a_22 a_23 b_20 b_21 b_22 b_23; have a_30 := (HA.out.later HB3.out).cell 0 _ rfl; have a_31 := (HA.out.later HB3.out).cell 1 _ rfl; have a_32 := (HA.out.later HB3.out).cell 2 _ rfl; have a_33 := (HA.out.later HB3.out).cell 3 _ rfl; have b_30 := (HBv.out.later HB3.out).cell 0 _ rfl; have b_31 := (HBv.out.later HB3.out).cell 1 _ rfl; have b_32 := (HBv.out.later HB3.out).cell 2 _ rfl; have b_33 := (HBv.out.later HB3.out).cell 3 _ rfl; clear hb3)
  | (go_at_call 17; clear M1; refine (HMa.out _ (qa0 HB0.out HB3.out)).mono ?_; rintro e w4 ⟨rfl, hb4⟩; have HB4 : Hid (Below wb.heap.size wb w4) := qa0 HB3.out hb4; clear a_30 a_31 a_32 a_33 b_30 b_31 b_32 b_33; have a_40 := (HA.out.later HB4.out).cell 0 _ rfl; have a_41 := (HA.out.later HB4.out).cell 1 _ rfl; have a_42 := (HA.out.later HB4.out).cell 2 _ rfl; have a_43 := (HA.out.later HB4.out).cell 3 _ rfl; have b_40 := (HBv.out.later HB4.out).cell 0 _ rfl; have b_41 := (HBv.out.later HB4.out).cell 1 _ rfl; have b_42 := (HBv.out.later HB4.out).cell 2 _ rfl; have b_43 := (HBv.out.later HB4.out).cell 3 _ rfl; clear hb4)
  | (go_at_call 17; refine (HMb.out _ (qa0 HB0.out HB4.out)).mono ?_; rintro e w5 ⟨rfl, hb5⟩; have HB5 : Hid (Below wb.heap.size wb w5) := qa0 HB4.out hb5; clear hb5))
 go_ret
 exact ⟨rfl, qa0 HB0.out HB5.out⟩
theorem ql6 (w : World) (ra ca na ka ma da rb cb nb kb mb db RR CC M K : Nat) (a b a' b' x : Option Addr) (F F' q q' X : Nat → Nat) (ha : Mt w a na ka F) (ha' : Mt w a' nb kb F') (hx : Mt w x CC K X) (hb : Jl w b .u64 ma (fun i => (q i : Int))) (hb' : Jl w b' .u64 mb (fun i => (q' i : Int))) (RA : Rt ra ca na) (RB : Rt rb cb nb) (hc : 1 ≤ ca) (hr : ca ≤ ra) (hc' : 1 ≤ cb) (hr' : cb ≤ rb) (hg : ∀ i, i < ma → HangP F ra ca (q i)) (hg' : ∀ i, i < mb → HangP F' rb cb (q' i)) (hR : ra * rb = RR) (hC : ca * cb = CC) (hM : ma * rb + ra * mb = M) (hrr : RR ≤ 64) (hmm : M ≤ 16384) :
  Calls Tryz.prog 6 #[cv ra ca a na ka b ma da, cv rb cb a' nb kb b' mb db, .slice x CC K] w fun e w' => e = .returned (.bool true) ∧ Below w.heap.size w w' := by
 obtain ⟨wb, HW⟩ : ∃ wb, Hid ((w.alloc (.cells #[.int .i64 (ra : Int), .int .i64 (ca : Int), .slice a na ka, .slice b ma da] 27)).alloc (.cells #[.int .i64 (rb : Int), .int .i64 (cb : Int), .slice a' nb kb, .slice b' mb db] 27) = wb) := ⟨_, rfl⟩
 have HB0 : Hid (Below w.heap.size w wb) := by rw [← HW.out]; exact qa0 (qa1 _ _) (qa1 _ _)
 have HA : Hid (Vq wb w.heap.size 27 #[.int .i64 (ra : Int), .int .i64 (ca : Int), .slice a na ka, .slice b ma da]) := by rw [← HW.out]; exact (Vq.new w _ _).later (qa1 _ _)
 have HBv : Hid (Vq wb (w.heap.size + 1) 27 #[.int .i64 (rb : Int), .int .i64 (cb : Int), .slice a' nb kb, .slice b' mb db]) := by rw [← HW.out]; exact Vq.new1 _ _ _ _
 have HR0 : Hid (Below wb.heap.size wb wb) := Below.refl _ _
 obtain ⟨kf, HKf⟩ : ∃ kf, Hid (krf F F' ca rb cb CC = kf) := ⟨_, rfl⟩
 have HJ : Hid (∀ w', Below w.heap.size w w' → Calls Tryz.prog 9 #[cv ra ca a na ka b ma da, cv rb cb a' nb kb b' mb db] w' fun e w'' => ∃ g N s2 d2, e = .returned (.tuple #[cv (RR : Int) (CC : Int) (some ⟨g, 0, none⟩) N N s2 M d2, .int .i64 0]) ∧ RR * CC = N ∧ RowAt w'' g 5 N kf ∧ w'.heap.size ≤ g ∧ Below w'.heap.size w' w'') := fun w' h => (ql5 w' ra ca na ka ma da rb cb nb kb mb db RR CC M a b a' b' F F' q q' (ha.later h) (ha'.later h) (hb.later h) (hb'.later h) RA RB hc hr hc' hr' hg hg' hR hC hM hrr hmm).mono (fun e w'' ⟨g, N, s2, d2, h1, h2, h3, h4, _, h6⟩ => ⟨g, N, s2, d2, h1, h2, by rw [← HKf.out]; exact h3, h4, h6⟩)
 have hra := RA.r64
 have hca := RA.c64
 have hrb := RB.r64
 have hcb := RB.c64
 have hma : ma ≤ 16384 := by have := Nat.mul_le_mul_left ma (show 1 ≤ rb by omega); omega
 have hmb : mb ≤ 16384 := by have := Nat.mul_le_mul_right mb (show 1 ≤ ra by omega); omega
 have eC : (ca : Int) * (cb : Int) = (CC : Int) := by rw [← hC]; simp
 have hCC : CC ≤ 64 := by rw [← hC]; exact Nat.le_trans (Nat.mul_le_mul hr hr') (by rw [hR]; exact hrr)
 have hLC : ((CC : Int) != (CC : Int)) = false := by simp
 have hCK := hx.room
 have HMA : Hid (Mt w a na ka F) := ha
 have HMB : Hid (Mt w a' nb kb F') := ha'
 have HMX : Hid (Mt w x CC K X) := hx
 have HRA : Hid (Rt ra ca na) := RA
 have HRB : Hid (Rt rb cb nb) := RB
 have HRR : Hid (ra * rb = RR) := hR
 have HCC : Hid (ca * cb = CC) := hC
 have hC1 : 1 ≤ CC := by rw [← hC]; exact Nat.mul_le_mul hc hc'
 obtain ⟨xb, xo, ex⟩ : ∃ xb xo, x = some ⟨xb, xo, none⟩ := by
  obtain ⟨xb, xo, e, _⟩ := hx.sl.2 0 (by omega)
  exact ⟨xb, xo, e⟩
 subst ex
 have a_00 := (HA.out.later HR0.out).cell 0 _ rfl
 have a_01 := (HA.out.later HR0.out).cell 1 _ rfl
 have a_02 := (HA.out.later HR0.out).cell 2 _ rfl
 have a_03 := (HA.out.later HR0.out).cell 3 _ rfl
 have b_00 := (HBv.out.later HR0.out).cell 0 _ rfl
 have b_01 := (HBv.out.later HR0.out).cell 1 _ rfl
 have b_02 := (HBv.out.later HR0.out).cell 2 _ rfl
 have b_03 := (HBv.out.later HR0.out).cell 3 _ rfl
 clear ha ha' hx hb hb' RA RB hg hg' hR hC hM
 go_enter Tryz.func6, Tryz.ntmps6
 go_upto_region 2 with (go_at_call 9; rw [HW.out]; refine (HJ.out _ HB0.out).mono ?_; rintro e w1 ⟨g1, N1, s1, d1, rfl, hN1, hr1, hg1, hb1⟩; have HB1 : Hid (Below wb.heap.size wb w1) := hb1; have HN1 : Hid (RR * CC = N1) := hN1; have HR1 : Hid (RowAt w1 g1 5 N1 kf) := hr1; clear hb1 hN1 hr1 hg1)
 obtain ⟨w2, HW2⟩ : ∃ w2, Hid (w1.alloc (.cells #[.int .i64 (RR : Int), .int .i64 (CC : Int), .slice (some ⟨g1, 0, none⟩) N1 N1, .slice s1 M d1] 27) = w2) := ⟨_, rfl⟩
 have HB2 : Hid (Below wb.heap.size wb w2) := by rw [← HW2.out]; exact qa0 HB1.out (qa1 _ _)
 have HV2 : Hid (Vq w2 w1.heap.size 27 #[.int .i64 (RR : Int), .int .i64 (CC : Int), .slice (some ⟨g1, 0, none⟩) N1 N1, .slice s1 M d1]) := by rw [← HW2.out]; exact Vq.new w1 _ _
 have HR2 : Hid (RowAt w2 g1 5 N1 kf) := by rw [← HW2.out]; exact HR1.out.later (qa1 _ _)
 rw [HW2.out]
 clear HW2 HJ HR1 HB1
 clear a_00 a_01 a_02 a_03 b_00 b_01 b_02 b_03
 have a_20 := (HA.out.later HB2.out).cell 0 _ rfl
 have a_21 := (HA.out.later HB2.out).cell 1 _ rfl
 have a_22 := (HA.out.later HB2.out).cell 2 _ rfl
 have a_23 := (HA.out.later HB2.out).cell 3 _ rfl
 have b_20 := (HBv.out.later HB2.out).cell 0 _ rfl
 have b_21 := (HBv.out.later HB2.out).cell 1 _ rfl
 have b_22 := (HBv.out.later HB2.out).cell 2 _ rfl
 have b_23 := (HBv.out.later HB2.out).cell 3 _ rfl
 have c20 := HV2.out.cell 0 _ rfl
 have c21 := HV2.out.cell 1 _ rfl
 have c22 := HV2.out.cell 2 _ rfl
 obtain ⟨Y, HYf⟩ : ∃ Y : Nat → Nat, Hid ((fun t => apf F' (fun l => X (t / rb * cb + l)) cb (t % rb)) = Y) := ⟨_, rfl⟩
 have HY : Hid (∀ t k, k < rb → Y (t * rb + k) = apf F' (fun l => X (t * cb + l)) cb k) := fun t k hk => by
  rw [← HYf.out]
  show apf F' (fun l => X ((t * rb + k) / rb * cb + l)) cb ((t * rb + k) % rb) = _
  rw [(qbi t rb k hk).1, (qbi t rb k hk).2]
 obtain ⟨fy, HFy⟩ : ∃ fy, Hid (apf kf X CC = fy) := ⟨_, rfl⟩
 obtain ⟨fz, HFz⟩ : ∃ fz, Hid (prk F Y ca rb ca = fz) := ⟨_, rfl⟩
 have HEq : Hid (∀ i, i < RR → fy i = fz i) := fun i hi => by
  rw [← HRR.out] at hi
  obtain ⟨s, t, hs, ht, rfl⟩ := qk5 hi
  rw [← HFy.out, ← HFz.out, ← HKf.out]
  exact grid_ap HMA.out.sl.1 HMB.out.sl.1 HRA.out HRB.out HCC.out (fun t k _ hk => HY.out t k hk) hs ht
 have hRR := hrr
 have HRt1 : Hid (Rt RR CC N1) := ⟨hrr, hCC, HN1.out⟩
 have HRt2 : Hid (Rt ra rb RR) := ⟨hra, hrb, HRR.out⟩
 have HBkf : Hid (∀ p, p < N1 → kf p < 256) := fun p hp => by rw [← HKf.out]; exact krf_all F' HMA.out.sl.1 HRA.out HRR.out HCC.out HRt1.out p hp
 have HBy : Hid (∀ i, i < RR → fy i < 256) := fun i hi => by rw [← HFy.out]; exact qk4 X HBkf.out HRt1.out i hi
 have HBz : Hid (∀ i, i < RR → fz i < 256) := fun i hi => by rw [← HEq.out i hi]; exact HBy.out i hi
 have HBY : Hid (∀ t, t < ca * rb → Y t < 256) := fun t ht => by
  obtain ⟨s, u, hs, hu, rfl⟩ := qk5 ht
  rw [HY.out s u hu]
  exact qk4 _ HMB.out.sl.1 HRB.out u hu
 have HAp : Hid (∀ w', Below w2.heap.size w2 w' → Calls Tryz.prog 23 #[mv RR CC (some ⟨g1, 0, none⟩) N1 N1, .slice (some ⟨xb, xo, none⟩) CC K] w' fun e w'' => ∃ g, e = .returned (.tuple #[.slice (some ⟨g, 0, none⟩) RR RR, .int .i64 0]) ∧ RowAt w'' g 5 RR fy ∧ w'.heap.size ≤ g ∧ Below w'.heap.size w' w'') := fun w' h => by
  rw [← HFy.out]
  exact qfm w' RR CC N1 N1 K _ _ kf X ((HR2.out.later h).sl HBkf.out) (HMX.out.later (qa0 (qa0 HB0.out HB2.out) h)).sl HRt1.out
 have HAb : Hid (∀ w' p fr, Below wb.heap.size wb w' → p + cb ≤ CC → apf F' (fun l => X (p + l)) cb = fr → Calls Tryz.prog 23 #[mv rb cb a' nb kb, .slice (some ⟨xb, xo + p, none⟩) cb (K - p)] w' fun e w'' => ∃ g, e = .returned (.tuple #[.slice (some ⟨g, 0, none⟩) rb rb, .int .i64 0]) ∧ RowAt w'' g 5 rb fr ∧ w'.heap.size ≤ g ∧ Below w'.heap.size w' w'') := fun w' p fr h hp e => by
  rw [← e]
  have hx := (HMX.out.later (qa0 HB0.out h)).sl
  refine qfm w' rb cb nb kb (K - p) _ _ F' (fun l => X (p + l)) (HMB.out.later (qa0 HB0.out h)).sl ⟨fun i hi => hx.1 (p + i) (by omega), fun i hi => ?_⟩ HRB.out
  obtain ⟨xb', xo', e, hcx⟩ := hx.2 (p + i) (by omega)
  cases e
  exact ⟨xb, xo + p, rfl, by rw [show xo + p + i = xo + (p + i) by omega]; exact hcx⟩
 have HBr : Hid (∀ p u, u < rb → apf F' (fun l => X (p + l)) cb u < 256) := fun p u hu => qk4 _ HMB.out.sl.1 HRB.out u hu
 have HMl : Hid (∀ w' s cp, Below wb.heap.size wb w' → Sl w' s (ca * rb) Y → Calls Tryz.prog 24 #[mv ra ca a na ka, mv ca rb s (ca * rb) cp] w' fun e w'' => ∃ g, e = .returned (.tuple #[mv ra rb (some ⟨g, 0, none⟩) RR RR, .int .i64 0]) ∧ RowAt w'' g 5 RR fz ∧ w'.heap.size ≤ g ∧ Below w'.heap.size w' w'') := fun w' s cp h hs => by
  rw [← HFz.out]
  exact qh2 w' ra ca rb na (ca * rb) RR ka cp a s F Y (HMA.out.later (qa0 HB0.out h)).sl hs HRA.out ⟨hca, hrb, rfl⟩ HRt2.out
 have HS : Hid (∀ w' g g', RowAt w' g 5 RR fy → RowAt w' g' 5 RR fz → Calls Tryz.prog 25 #[.slice (some ⟨g, 0, none⟩) RR RR, .slice (some ⟨g', 0, none⟩) RR RR] w' fun e w'' => e = .returned (.bool true) ∧ w' = w'') := fun w' g g' h1 h2 => by
  have := qeb w' _ _ RR RR RR RR fy fz (h1.sl HBy.out) (h2.sl HBz.out)
  rwa [show sameB RR RR fy fz = true from decide_eq_true ⟨rfl, HEq.out⟩] at this
 clear HKf HFy HFz HEq HMX HMA HMB HRA HRB HRt1 HRt2 HBkf HYf HN1
 go_upto_region 5 with (go_at_call 23; refine (HAp.out _ (Below.refl _ _)).mono ?_; rintro e w3 ⟨g3, rfl, hr3, hg3, hb3⟩; have HB3 : Hid (Below wb.heap.size wb w3) := qa0 HB2.out hb3; have HR3 : Hid (RowAt w3 g3 5 RR fy) := hr3; clear a_20 a_21 a_22 a_23 b_20 b_21 b_22 b_23; clear c20 c21 c22 hb3 hr3 hg3)
 clear HAp HR2 HV2 HB2
 go_wp2
 go_loopg [11, 12, 13, 14] ca (fun gh v11 vi _ _ wr => ∃ (i n1 cp : Nat) (s : Option Addr), vi = .int .i64 (i : Int) ∧ v11 = .slice s n1 cp ∧ i ≤ ca ∧ ca - i ≤ gh ∧ i * rb = n1 ∧ Jo wr w3.heap.size 5 .u8 (.slice s n1 cp) n1 Y ∧ Below w3.heap.size w3 wr)
 case atStart => exact ⟨0, 0, 0, none, rfl, rfl, by omega, by omega, by simp, Jo.nil _ _ _ _ _, Below.refl _ _⟩
 case round =>
  obtain ⟨i, n1, cp, s, rfl, rfl, hi, hgh, hn1, ho, hbr⟩ := hrel
  have HN1 : Hid (i * rb = n1) := hn1
  have HO : Hid (Jo wr w3.heap.size 5 .u8 (.slice s n1 cp) n1 Y) := ho
  have HB : Hid (Below w3.heap.size w3 wr) := hbr
  have HBw : Hid (Below wb.heap.size wb wr) := qa0 HB3.out hbr
  have a_r0 := (HA.out.later HBw.out).cell 0 _ rfl
  have a_r1 := (HA.out.later HBw.out).cell 1 _ rfl
  have a_r2 := (HA.out.later HBw.out).cell 2 _ rfl
  have a_r3 := (HA.out.later HBw.out).cell 3 _ rfl
  have b_r0 := (HBv.out.later HBw.out).cell 0 _ rfl
  have b_r1 := (HBv.out.later HBw.out).cell 1 _ rfl
  have b_r2 := (HBv.out.later HBw.out).cell 2 _ rfl
  have b_r3 := (HBv.out.later HBw.out).cell 3 _ rfl
  clear hn1
  by_cases hlt : i < ca
  ·have hlt2 : (i : Int) < (ca : Int) := by omega
   obtain ⟨p, HP⟩ : ∃ p : Nat, Hid (i * cb = p) := ⟨_, rfl⟩
   obtain ⟨p2, HP2⟩ : ∃ p2 : Nat, Hid (p + cb = p2) := ⟨_, rfl⟩
   have e1 : (i : Int) * (cb : Int) = (p : Int) := by rw [← HP.out]; simp
   have e2 : ((i : Int) + 1) * (cb : Int) = (p2 : Int) := by rw [Int.add_mul, e1, Int.one_mul, ← HP2.out]; simp
   have hp2 : p2 ≤ CC := by
    rw [← HP2.out, ← HP.out, ← HCC.out]
    have : (i + 1) * cb ≤ ca * cb := Nat.mul_le_mul_right cb hlt
    rw [Nat.add_mul] at this
    omega
   have hpp : p ≤ p2 := by rw [← HP2.out]; omega
   have w1x : IntKind.i64.wrap (p : Int) = (p : Int) := by rw [IntKind.wrap_i64]; omega
   have w2x : IntKind.i64.wrap (p2 : Int) = (p2 : Int) := by rw [IntKind.wrap_i64]; omega
   have q0 : (0 : Int) ≤ (p : Int) := Int.natCast_nonneg _
   have q1 : (p : Int) ≤ (p2 : Int) := by omega
   have q2 : (p2 : Int) ≤ (K : Int) := by omega
   have q3 : ¬ K = p := by have := HP2.out; omega
   have q4 : (0 : Int) ≤ (p2 : Int) := Int.natCast_nonneg _
   have q5 : p2 ≤ K := by omega
   have q6 : p ≤ K := by omega
   have q7 : (p : Int) ≤ (K : Int) := by omega
   have wi : IntKind.i64.wrap ((i : Int) + 1) = (i : Int) + 1 := by rw [IntKind.wrap_i64]; omega
   have hsub : p2 - p = cb := by rw [← HP2.out]; omega
   obtain ⟨fr, HFr⟩ : ∃ fr, Hid (apf F' (fun l => X (p + l)) cb = fr) := ⟨_, rfl⟩
   have HYr : Hid (∀ u, u < rb → Y (n1 + u) = fr u) := fun u hu => by rw [← HN1.out, HY.out i u hu, ← HFr.out, HP.out]
   have HBf : Hid (∀ u, u < rb → fr u < 256) := fun u hu => by rw [← HFr.out]; exact HBr.out p u hu
   have HBdr : Hid (Below wb.heap.size wb wr.drew) := HBw.out.trans ⟨rfl, rfl, rfl, Nat.le_refl _, fun _ _ => rfl⟩
   have HAc : Hid (Calls Tryz.prog 23 #[mv rb cb a' nb kb, .slice (some ⟨xb, xo + p, none⟩) (p2 - p) (K - p)] wr.drew fun e w'' => ∃ g, e = .returned (.tuple #[.slice (some ⟨g, 0, none⟩) rb rb, .int .i64 0]) ∧ RowAt w'' g 5 rb fr ∧ wr.drew.heap.size ≤ g ∧ Below wr.drew.heap.size wr.drew w'') := by
    rw [hsub]
    exact HAb.out wr.drew p fr HBdr.out (by have := HP2.out; omega) HFr.out
   have HDr : Hid (wr.drew.cell? ⟨w.heap.size, 0, none⟩ = some (.int .i64 (ra : Int)) ∧ wr.drew.cell? ⟨w.heap.size, 1, none⟩ = some (.int .i64 (ca : Int)) ∧ wr.drew.cell? ⟨w.heap.size, 2, none⟩ = some (.slice a na ka) ∧ wr.drew.cell? ⟨w.heap.size + 1, 0, none⟩ = some (.int .i64 (rb : Int)) ∧ wr.drew.cell? ⟨w.heap.size + 1, 1, none⟩ = some (.int .i64 (cb : Int)) ∧ wr.drew.cell? ⟨w.heap.size + 1, 2, none⟩ = some (.slice a' nb kb)) := ⟨(HA.out.later HBdr.out).cell 0 _ rfl, (HA.out.later HBdr.out).cell 1 _ rfl, (HA.out.later HBdr.out).cell 2 _ rfl, (HBv.out.later HBdr.out).cell 0 _ rfl, (HBv.out.later HBdr.out).cell 1 _ rfl, (HBv.out.later HBdr.out).cell 2 _ rfl⟩
   have hn1l : n1 + rb ≤ 4096 := by
    rw [← HN1.out]
    have : (i + 1) * rb ≤ 64 * 64 := Nat.mul_le_mul (by omega) hrb
    rw [Nat.add_mul] at this
    omega
   clear ho hbr HFr HP hsub
   go_wp2
   go_region_held3 (fun w' => w'.cell? ⟨w.heap.size, 0, none⟩ = some (.int .i64 (ra : Int)) ∧ w'.cell? ⟨w.heap.size, 1, none⟩ = some (.int .i64 (ca : Int)) ∧ w'.cell? ⟨w.heap.size, 2, none⟩ = some (.slice a na ka) ∧ w'.cell? ⟨w.heap.size + 1, 0, none⟩ = some (.int .i64 (rb : Int)) ∧ w'.cell? ⟨w.heap.size + 1, 1, none⟩ = some (.int .i64 (cb : Int)) ∧ w'.cell? ⟨w.heap.size + 1, 2, none⟩ = some (.slice a' nb kb))
    (first
     | exact HK4.out
     | exact HDr.out)
    (first | (go_at_call 23; refine HAc.out.mono ?_; rintro e w4 ⟨g4, rfl, hr4, hg4, hb4⟩; have HB4 : Hid (Below wb.heap.size wb w4) := qa0 HBdr.out hb4; have HR4 : Hid (RowAt w4 g4 5 rb fr) := hr4; have HO4 : Hid (Jo w4 w3.heap.size 5 .u8 (.slice s n1 cp) n1 Y) := HO.out.later (qa0 (qbp _) hb4); have HC4 : Hid (Below w3.heap.size w3 w4) := HB.out.trans ((qa0 (qbp _) hb4).mono HB.out.size); have HK4 : Hid (w4.cell? ⟨w.heap.size, 0, none⟩ = some (.int .i64 (ra : Int)) ∧ w4.cell? ⟨w.heap.size, 1, none⟩ = some (.int .i64 (ca : Int)) ∧ w4.cell? ⟨w.heap.size, 2, none⟩ = some (.slice a na ka) ∧ w4.cell? ⟨w.heap.size + 1, 0, none⟩ = some (.int .i64 (rb : Int)) ∧ w4.cell? ⟨w.heap.size + 1, 1, none⟩ = some (.int .i64 (cb : Int)) ∧ w4.cell? ⟨w.heap.size + 1, 2, none⟩ = some (.slice a' nb kb)) := ⟨(HA.out.later HB4.out).cell 0 _ rfl, (HA.out.later HB4.out).cell 1 _ rfl, (HA.out.later HB4.out).cell 2 _ rfl, (HBv.out.later HB4.out).cell 0 _ rfl, (HBv.out.later HB4.out).cell 1 _ rfl, (HBv.out.later HB4.out).cell 2 _ rfl⟩; clear hb4 hr4 hg4))
   go_wp2_with (at_builtin; refine qcl rfl _ _ rfl w3.heap.size n1 _ Y rfl (show World.ownsRow _ _ _ _ _ _ (row n1 Y).toList from HO4.out) _ rb rb fr rfl (HR4.out.sl HBf.out) (fun e => by cases e) (by omega) HC4.out.size ?_; intro v7 w7 ho7 hg7 hb7; obtain ⟨s7, d7, e7, _⟩ := ho7.form; subst e7; have HO7 : Hid (Jo w7 w3.heap.size 5 .u8 (.slice s7 (n1 + rb) d7) (n1 + rb) Y) := ho7.congr (fun t ht => (by show (if t < n1 then Y t else fr (t - n1)) = Y t; by_cases h : t < n1 <;> simp only [h, if_true, if_false]; rw [← HYr.out (t - n1) (by omega), show n1 + (t - n1) = t by omega])); have HB7 : Hid (Below w3.heap.size w3 w7) := HC4.out.trans hb7; clear ho7 hg7 hb7)
   go_roundg (gk - 1)
   case measure => omega
   case rel => exact ⟨i + 1, n1 + rb, d7, s7, by go_num, rfl, by omega, by omega, by rw [Nat.add_mul, HN1.out]; omega, HO7.out, HB7.out⟩
  ·have hlt2 : ¬ (i : Int) < (ca : Int) := by omega
   obtain rfl : i = ca := by omega
   have hn1 := HN1.out
   subst hn1
   have HMc : Hid (Calls Tryz.prog 24 #[mv ra i a na ka, mv i rb s (i * rb) cp] wr fun e w'' => ∃ g, e = .returned (.tuple #[mv ra rb (some ⟨g, 0, none⟩) RR RR, .int .i64 0]) ∧ RowAt w'' g 5 RR fz ∧ wr.heap.size ≤ g ∧ Below wr.heap.size wr w'') := HMl.out wr s cp HBw.out (sl_of_jl HO.out.jl HBY.out)
   have HR5 : Hid (RowAt wr g3 5 RR fy) := HR3.out.later hbr
   clear ho hbr HMl HAb HN1
   go_upto_region 12 with (go_at_call 24; refine HMc.out.mono ?_; rintro e w5 ⟨g5, rfl, hr5, hg5, hb5⟩; have HB5 : Hid (Below wb.heap.size wb w5) := qa0 HBw.out hb5; have HZ5 : Hid (RowAt w5 g5 5 RR fz) := hr5; have HY5 : Hid (RowAt w5 g3 5 RR fy) := HR5.out.later hb5; clear hb5 hr5 hg5)
   obtain ⟨w6, HW6⟩ : ∃ w6, Hid (w5.alloc (.cells #[.int .i64 (ra : Int), .int .i64 (rb : Int), .slice (some ⟨g5, 0, none⟩) RR RR] 24) = w6) := ⟨_, rfl⟩
   have HB6 : Hid (Below wb.heap.size wb w6) := by rw [← HW6.out]; exact qa0 HB5.out (qa1 _ _)
   have HZ6 : Hid (RowAt w6 g5 5 RR fz) := by rw [← HW6.out]; exact HZ5.out.later (qa1 _ _)
   have HY6 : Hid (RowAt w6 g3 5 RR fy) := by rw [← HW6.out]; exact HY5.out.later (qa1 _ _)
   have HV6 : Hid (Vq w6 w5.heap.size 24 #[.int .i64 (ra : Int), .int .i64 (rb : Int), .slice (some ⟨g5, 0, none⟩) RR RR]) := by rw [← HW6.out]; exact Vq.new w5 _ _
   rw [HW6.out]
   go_wp2_with (first
    | (go_at_call 20; refine (ql1 _).mono ?_; rintro e w8 ⟨rfl, hb8⟩; have HB8 : Hid (Below wb.heap.size wb w8) := qa0 HB6.out hb8; have HZ8 : Hid (RowAt w8 g5 5 RR fz) := HZ6.out.later hb8; have HY8 : Hid (RowAt w8 g3 5 RR fy) := HY6.out.later hb8; have m2 := (HV6.out.later hb8).cell 2 _ rfl; clear hb8)
    | (go_at_call 25; refine (HS.out _ _ _ HY8.out HZ8.out).mono ?_; rintro e w' ⟨rfl, rfl⟩))
   go_ret
   exact ⟨rfl, qa0 HB0.out HB8.out⟩
end Go.Proofs.YtmgfeepnkahkmaaGreat
