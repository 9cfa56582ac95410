/-
  What Join is made of: counts of groups, groups moved, a list of groups of its own.
  shape.Join of any two codes.
-/
import Derived.Test.YtmgfeepnkahkmaaGreatQsses00
import Derived.Test.YtmgfeepnkahkmaaGreatQsses47
import Derived.Test.YtmgfeepnkahkmaaGreatQsses32
import Derived.Test.YtmgfeepnkahkmaaGreatQsses45
import Derived.Laws.AppendOwnNone
import Derived.Lib.AppendZeros
import Derived.Lib.MinMax
import Derived.Deep.LoopGhost
import Derived.Test.YtmgfeepnkahkmaaGreatQsses34
import Derived.Test.YtmgfeepnkahkmaaGreatQsses33
import Derived.Laws.ResultCell
import Derived.Laws.Rows
set_option maxRecDepth 100000
set_option maxHeartbeats 16000000
namespace Go.Proofs.YtmgfeepnkahkmaaGreat
open Go.RowKit
theorem tmg16 (w : World) (r c r' c' : Int) (a b a' b' : Option Addr) (n k m d n' k' m' d' x y : Nat) (hm : m ≤ 17592186044416) (hm' : m' ≤ 17592186044416) (hx : 1 ≤ x) (hx2 : x ≤ 64) (hy : 1 ≤ y) (hy2 : y ≤ 64) (t : Bool) (ht : t = true ↔ 16384 < m * x + m' * y) :
  Calls Tryz.prog 28 #[cv r c a n k b m d, .int .i64 (x : Int), cv r' c' a' n' k' b' m' d', .int .i64 (y : Int)] w fun e w' => e = .returned (.bool t) ∧ Below w.heap.size w w' := by
 obtain ⟨wb, HW⟩ : ∃ wb, Hid ((w.alloc (.cells #[.int .i64 r, .int .i64 c, .slice a n k, .slice b m d] 27)).alloc (.cells #[.int .i64 r', .int .i64 c', .slice a' n' k', .slice b' m' d'] 27) = wb) := ⟨_, rfl⟩
 have HB0 : Hid (Below w.heap.size w wb) := by rw [← HW.out]; exact qa0 (qa1 _ _) (qa1 _ _)
 have HA : Hid (Vq wb w.heap.size 27 #[.int .i64 r, .int .i64 c, .slice a n k, .slice b m d]) := by rw [← HW.out]; exact (Vq.new w _ _).later (qa1 _ _)
 have HC : Hid (Vq wb (w.heap.size + 1) 27 #[.int .i64 r', .int .i64 c', .slice a' n' k', .slice b' m' d']) := by rw [← HW.out]; exact Vq.new1 _ _ _ _
 have a3 := HA.out.cell 3 _ rfl
 have c3 := HC.out.cell 3 _ rfl
 obtain ⟨mx, HX⟩ : ∃ mx : Nat, Hid (max (m : Int) (m' : Int) = (mx : Int)) := ⟨max m m', by show _ = _; omega⟩
 have hx3 := HX.out
 by_cases hbig : 16384 < mx
 ·have HT : Hid (t = true) := ht.2 (by
   have h1 : m * 1 ≤ m * x := Nat.mul_le_mul_left m hx
   have h2 : m' * 1 ≤ m' * y := Nat.mul_le_mul_left m' hy
   have := HX.out
   omega)
  have hb2 : (16384 : Int) < (mx : Int) := by omega
  clear ht
  go_enter Tryz.func28, Tryz.ntmps28
  go_wp2
  rw [HW.out]
  go_wp2
  go_ret
  exact ⟨by rw [HT.out]; rfl, HB0.out⟩
 ·have hb2 : ¬ (16384 : Int) < (mx : Int) := by omega
  have hmm : m ≤ 16384 := by omega
  have hmm' : m' ≤ 16384 := by omega
  obtain ⟨p1, HP1⟩ : ∃ p : Nat, Hid (m * x = p) := ⟨_, rfl⟩
  obtain ⟨p2, HP2⟩ : ∃ p : Nat, Hid (m' * y = p) := ⟨_, rfl⟩
  have e1 : (m : Int) * (x : Int) = (p1 : Int) := by rw [← HP1.out]; simp
  have e2 : (m' : Int) * (y : Int) = (p2 : Int) := by rw [← HP2.out]; simp
  have l1 : p1 ≤ 16384 * 64 := by rw [← HP1.out]; exact Nat.mul_le_mul hmm hx2
  have l2 : p2 ≤ 16384 * 64 := by rw [← HP2.out]; exact Nat.mul_le_mul hmm' hy2
  have w1 : IntKind.i64.wrap (p1 : Int) = (p1 : Int) := by rw [IntKind.wrap_i64]; omega
  have w2 : IntKind.i64.wrap (p2 : Int) = (p2 : Int) := by rw [IntKind.wrap_i64]; omega
  have w3 : IntKind.i64.wrap ((p1 : Int) + (p2 : Int)) = (p1 : Int) + (p2 : Int) := by rw [IntKind.wrap_i64]; omega
  have HT : Hid (t = decide ((16384 : Int) < (p1 : Int) + (p2 : Int))) := by
   show t = _
   rw [HP1.out, HP2.out] at ht
   cases t with
   | true => have := ht.1 rfl; symm; simp; omega
   | false =>
    have : ¬ 16384 < p1 + p2 := fun h => by have := ht.2 h; cases this
    symm; simp; omega
  clear ht
  go_enter Tryz.func28, Tryz.ntmps28
  go_wp2
  rw [HW.out]
  go_wp2
  go_ret
  exact ⟨by rw [HT.out]; rfl, HB0.out⟩
theorem joinat16 (w : World) (b0 R i : Nat) (h : w.cell? ⟨b0, 0, none⟩ = some (.int .i64 (R : Int))) (hR : R ≤ 64) (hi : i ≤ 64) :
  Calls Tryz.prog 40 #[.int .i64 (i : Int), .pointer (some ⟨b0, 0, none⟩)] w fun e w' => e = .returned (.int .i64 ((R + i : Nat) : Int)) ∧ w = w' := by
 go_enter Tryz.func40, Tryz.ntmps40
 go_wp2
 go_ret
 exact ⟨by simp, rfl⟩
theorem mov_join (s : Nat) (w : World) (hs : s < 18446744073709551616) (b0 n : Nat) (q : Nat → Nat) (HN : Hid (cn s 64 = n)) (hq : ∀ t, t < n → q t < 64)
  (hcl : ∀ t, t < n → ∀ w', Below w.heap.size w w' → Calls Tryz.prog 40 #[.int .i64 ((lf s 64 t) : Int), .pointer (some ⟨b0, 0, none⟩)] w' fun e w'' => e = .returned (.int .i64 (q t : Int)) ∧ w' = w'') :
  Calls Tryz.prog 31 #[.int .u64 (s : Int), .func (.func 40) #[] #[.pointer (some ⟨b0, 0, none⟩)]] w fun e w' => e = .returned (.int .u64 (ofs q n : Int)) ∧ Below w.heap.size w w' := by
 obtain ⟨L, HL⟩ : ∃ L : Nat → Nat, Hid (lf s 64 = L) := ⟨_, rfl⟩
 have HLt : Hid (∀ t, t < n → L t < 64) := fun t ht => by rw [← HL.out]; exact (qaq (by rw [HN.out]; exact ht)).1
 have hn64 : n ≤ 64 := by rw [← HN.out]; exact qb0 64 s
 have HCl : Hid (∀ t, t < n → ∀ w', Below w.heap.size w w' → Calls Tryz.prog 40 #[.int .i64 (L t : Int), .pointer (some ⟨b0, 0, none⟩)] w' fun e w'' => e = .returned (.int .i64 (q t : Int)) ∧ w' = w'') := fun t ht w' hb => by rw [← HL.out]; exact hcl t ht w' hb
 have HQ : Hid (∀ t, t < n → q t < 64) := hq
 have HLi : Hid (∀ w, Calls Tryz.prog 65 #[.int .u64 (s : Int)] w fun e w' => ∃ v, e = .returned v ∧ Jo w' w.heap.size 3 .i64 v n L ∧ Below w.heap.size w w') := fun w => by rw [← HN.out, ← HL.out]; exact qdh s w hs
 obtain ⟨u, HU⟩ : ∃ u, Hid (ofs q n = u) := ⟨_, rfl⟩
 rw [HU.out]
 clear hcl hq HN HL
 go_enter Tryz.func31, Tryz.ntmps31
 go_wp2_with (first
  | (go_at_call 65; refine (HLi.out _).mono ?_; rintro e w1 ⟨v, rfl, ho1, hb1⟩; obtain ⟨sl, d, rfl, hnil⟩ := ho1.form; have HO1 : Hid (Jo w1 w.heap.size 3 .i64 (.slice sl n d) n L) := ho1; have HB1 : Hid (Below w.heap.size w w1) := hb1; clear ho1 hb1 hnil))
 clear HLi
 go_loopw [6, 7, 14] (fun _ _ j wr => ∃ i : Nat, i ≤ n ∧ j = .int .i64 (i : Int) ∧ Jo wr w.heap.size 3 .i64 (.slice sl n d) n (fun t => if t < i then q t else L t) ∧ Below w.heap.size w wr) (fun _ _ j _ => n - (intOf j).toNat)
 case atStart => exact ⟨0, by omega, rfl, HO1.out.congr (fun t _ => by rw [if_neg (by omega)]), HB1.out⟩
 case round =>
  clear HO1 HB1
  obtain ⟨i, hi, rfl, hrow, hbw⟩ := hrel
  have HO : Hid (Jo wr w.heap.size 3 .i64 (.slice sl n d) n (fun t => if t < i then q t else L t)) := hrow
  have HB : Hid (Below w.heap.size w wr) := hbw
  clear hrow hbw
  by_cases hlt : i < n
  ·obtain ⟨g, rfl, hgB, hgw⟩ := HO.out.addr (by omega)
   have hcell := HO.out.cell i hlt
   have hfree := HO.out.free i
   rw [if_neg (Nat.lt_irrefl i)] at hcell
   obtain ⟨y, HY⟩ : ∃ y, Hid (L i = y) := ⟨_, rfl⟩
   rw [HY.out] at hcell
   obtain ⟨z, HZ⟩ : ∃ z, Hid (q i = z) := ⟨_, rfl⟩
   have HC : Hid (Calls Tryz.prog 40 #[.int .i64 (y : Int), .pointer (some ⟨b0, 0, none⟩)] wr fun e w'' => e = .returned (.int .i64 (z : Int)) ∧ wr = w'') := by have := HCl.out i hlt wr HB.out; rw [HY.out, HZ.out] at this; exact this
   have HS : Hid (Jo (wr.setCell ⟨g, i, none⟩ (.int .i64 (z : Int))) w.heap.size 3 .i64 (.slice (some ⟨g, 0, none⟩) n d) n (fun t => if t < i + 1 then q t else L t)) := by
    refine (HO.out.set16 i z).congr (fun t _ => ?_)
    by_cases e1 : t = i
    ·subst e1; rw [if_pos rfl, if_pos (by omega), HZ.out]
    ·rw [if_neg e1]
     by_cases e2 : t < i
     ·rw [if_pos e2, if_pos (by omega)]
     ·rw [if_neg e2, if_neg (by omega)]
   have HBs : Hid (Below w.heap.size w (wr.setCell ⟨g, i, none⟩ (.int .i64 (z : Int)))) := HB.out.setCell hgB _
   have i0 : (0 : Int) ≤ (i : Int) := Int.natCast_nonneg _
   have i1 : (i : Int) < (n : Int) := by omega
   go_wp2_with (go_at_call 40; refine HC.out.mono ?_; rintro e w' ⟨rfl, rfl⟩)
   exact ⟨⟨i + 1, by omega, by go_num, HS.out, HBs.out⟩, by simp [intOf]; omega⟩
  ·obtain rfl : i = n := by omega
   have HJ : Hid (Jl wr sl .i64 i (fun t => (q t : Int))) := (HO.out.congr (f' := q) (fun t ht => if_pos ht)).jl
   have HOf : Hid (∀ cap, Calls Tryz.prog 66 #[.slice sl i cap] wr fun e w' => e = .returned (.tuple #[.int .u64 (u : Int), .int .i64 0]) ∧ wr = w') := fun cap => by
    have := qjx wr i cap sl (fun t => (q t : Int)) (by omega) HJ.out
    rw [qgd (fun t ht => by have := HQ.out t ht; omega)] at this
    rw [← HU.out]
    exact this
   go_wp2_with (go_at_call 66; refine (HOf.out _).mono ?_; rintro e w' ⟨rfl, rfl⟩)
   go_ret
   exact ⟨rfl, HB.out⟩
theorem wpList_append_run {ops : Array Oper} {rest : List Oper} {o : Oper} {a : Act} {Q : Exit → Act → World → Prop} {w : World} (hgd : o.guard = none) (s x : Operand) (ho : o.op = Op.call { callee := Callee.builtin Builtin.append, args := #[s, x], argTypes := #[25, 3] })
  (v vx v' : Value) (w' : World) (hs : a.eval s = v) (hx : a.eval x = vx) (hrun : ∀ ty, (Builtin.append_ #[25, 3] ty #[v, vx]).run Tryz.prog w = .ok v' w') (h : wpList Tryz.prog ops Q rest (a.put o.dst v') w') : wpList Tryz.prog ops Q (o :: rest) a w := by
 refine wpList_plain hgd fun K hK => ?_
 unfold Oper.wp
 simp [execOp, ho, resolve, invoke, builtin, hs, hx, hrun, Result.andThen]
 exact hK _ _ h
theorem growz16 (w : World) (m : Nat) (q : Nat → Nat) (hm : m ≤ 1048576) :
  Calls Tryz.prog 69 #[.slice none 0 0, .int .i64 (m : Int)] w fun e w' => ∃ s cp, e = .returned (.slice s 0 cp) ∧ Jo w' w.heap.size 52 .u64 (.slice s 0 cp) 0 q ∧ Below w.heap.size w w' := by
 by_cases h0 : m = 0
 ·subst h0
  go_enter Tryz.func69, Tryz.ntmps69
  go_wp2
  go_ret
  exact ⟨none, 0, rfl, Jo.nil _ _ _ _ _, Below.refl _ _⟩
 ·obtain ⟨u0, hu0, hy0, hy1, hy2⟩ := info_parts ju64
  have hrun0 : ∀ ty, (Builtin.append_ #[25, 3] ty #[.slice none 0 0, .int .i64 (m : Int)]).run Tryz.prog w = _ := fun ty => Lib.run_append_nil_zeros w 25 3 ty 52 u0 (.int .u64 0) .i64 .i64 Tryz.underlying25 Tryz.underlying3 hu0 hy0 m (by omega) (by rw [hy1]; omega) (by omega) (by rw [hy2]; omega)
  have hm0 : (0 : Int) < (m : Int) := by omega
  have hg1 := grownCap_ge w m 0 52
  have hg2 := grownCap_le_maxLen w m 0 52 (by unfold maxLen; omega)
  generalize grownCap w m 0 52 = cp at hrun0 hg1 hg2
  obtain ⟨arr, harr⟩ : ∃ arr, Builtin.zeroCells (Value.int .u64 0).cells m ++ Builtin.zeroCells (Value.int .u64 0).cells (cp - m) = arr := ⟨_, rfl⟩
  have HSz : Hid (arr.size = cp) := by
   show _ = _
   rw [← harr]
   simp [Builtin.zeroCells, Value.cells]
   omega
  obtain ⟨w1, HW1⟩ : ∃ w1, Hid (w.drew.alloc (.cells arr 52) = w1) := ⟨_, rfl⟩
  have hrun : ∀ ty, (Builtin.append_ #[25, 3] ty #[.slice none 0 0, .int .i64 (m : Int)]).run Tryz.prog w = .ok (.slice (some ⟨w.heap.size, 0, none⟩) m cp) w1 := fun ty => by rw [hrun0 ty, harr, HW1.out]
  have HRun : Hid (∀ ty, (Builtin.append_ #[25, 3] ty #[.slice none 0 0, .int .i64 (m : Int)]).run Tryz.prog w = .ok (.slice (some ⟨w.heap.size, 0, none⟩) m cp) w1) := hrun
  have HB1 : Hid (Below w.heap.size w w1) := by
   rw [← HW1.out]
   exact (Below.refl _ _).drew.trans (show Below w.heap.size w.drew _ from jlow w.drew _)
  have HJ1 : Hid (Jo w1 w.heap.size 52 .u64 (.slice (some ⟨w.heap.size, 0, none⟩) 0 cp) 0 q) := by
   rw [← HW1.out]
   refine ⟨by simp [qah], .inr ⟨w.heap.size, cp, arr, rfl, Nat.le_refl _, qg3 w.drew _, Nat.zero_le _, hg2, by rw [HSz.out]; omega, by simp [jrow]⟩⟩
  clear hrun0 harr hrun
  go_enter Tryz.func69, Tryz.ntmps69
  go_wp2_with (at_builtin; refine wpList_append_run rfl _ _ rfl _ _ _ _ rfl rfl HRun.out ?_)
  go_ret
  exact ⟨_, cp, rfl, HJ1.out, HB1.out⟩
theorem jl_news {w : World} {ad : Option Addr} {y : Addr} {m : Nat} {g : Nat → Nat} (h : Jl w ad .u64 m (fun i => (g i : Int))) (e : ad = some y) : ∀ j u, (jrow .u64 m g).toList[j]? = some u → w.cell? (y.add j) = some u := by
 intro j u hj
 have hjm : j < m := by
  rcases Nat.lt_or_ge j m with h | h
  ·exact h
  ·rw [List.getElem?_eq_none (by simp [qah]; omega)] at hj; cases hj
 obtain ⟨b, o, eb, hc⟩ := h j hjm
 rw [e] at eb
 cases eb
 rw [Array.getElem?_toList, qaj .u64 m g j hjm] at hj
 cases hj
 rw [show (⟨b, o, none⟩ : Addr).add j = ⟨b, o + j, none⟩ by unfold Addr.add; split <;> simp_all]
 exact hc
theorem qkw (m : Nat) (g : Nat → Nat) : ∀ u ∈ (jrow .u64 m g).toList, u.oneCell' = true := by
 intro u hu
 simp [jrow] at hu
 obtain ⟨i, _, rfl⟩ := hu
 rfl
/-- A list, and another one behind it. -/
def catG (f g : Nat → Nat) (n : Nat) : Nat → Nat := fun i => if i < n then f i else g (i - n)
theorem qkx (n m : Nat) (f g : Nat → Nat) : (jrow .u64 n f).toList ++ (jrow .u64 m g).toList = (jrow .u64 (n + m) (catG f g n)).toList := by
 apply List.ext_getElem?
 intro i
 have hl : (jrow .u64 n f).toList.length = n := by simp [qah]
 by_cases h1 : i < n
 ·rw [List.getElem?_append_left (by omega), Array.getElem?_toList, Array.getElem?_toList, qaj .u64 n f i h1, qaj .u64 (n + m) _ i (by omega), catG, if_pos h1]
 ·rw [List.getElem?_append_right (by omega), hl]
  by_cases h2 : i < n + m
  ·rw [Array.getElem?_toList, Array.getElem?_toList, qaj .u64 m g (i - n) (by omega), qaj .u64 (n + m) _ i (by omega), catG, if_neg h1]
  ·rw [List.getElem?_eq_none (by simp [qah]; omega), List.getElem?_eq_none (by simp [qah]; omega)]
/-- A list of sets of the call's own, and any other one behind it. -/
theorem qct {ops : Array Oper} {rest : List Oper} {o : Oper} {a : Act} {Q : Exit → Act → World → Prop} {w : World}
  (hgd : o.guard = none) (s x : Operand) (ho : o.op = Op.call { callee := Callee.builtin Builtin.append, args := #[s, x], argTypes := #[25, 25] })
  (B n : Nat) (v : Value) (f : Nat → Nat) (hs : a.eval s = v) (hown : Jo w B 52 .u64 v n f)
  (ad : Option Addr) (m c : Nat) (g : Nat → Nat) (hx : a.eval x = .slice ad m c) (hg : Jl w ad .u64 m (fun i => (g i : Int))) (h0 : ad = none → m = 0 ∧ c = 0) (hlim : n + m ≤ 17592186044416) (hB : B ≤ w.heap.size)
  (hK : ∀ v' w', Jo w' B 52 .u64 v' (n + m) (catG f g n) → w.grownBy w' v.ownBlock → Below B w w' → wpList Tryz.prog ops Q rest (a.put o.dst v') w') :
  wpList Tryz.prog ops Q (o :: rest) a w := by
 obtain ⟨i0, hi, hz0, hz1, hz2⟩ := info_parts ju64
 cases ad with
 | none =>
  obtain ⟨rfl, rfl⟩ := h0 rfl
  refine wpList_append_own_none hgd s x 25 ho B 52 i0 1 Tryz.underlying25 hi v n _ hs hown hx ?_
  exact hK v w (hown.congr (fun i hi => by show f i = (if i < n then f i else _); rw [if_pos hi])) (World.grownBy.refl _ _) ((Below.refl _ _).mono hB)
 | some y =>
  refine wpList_append_own _ hgd s x 25 ho B 52 i0 (.int .u64 0) 1 8 Tryz.underlying25 hi hz0 hz1 hz2 rfl (by decide) v n _ hs hown y m c (jrow .u64 m g).toList hx (by simp [qah]) (jl_news hg rfl) (qkw m g) (by unfold maxLen; omega) (by omega) hB ?_
  intro v' w' ho' hg' _
  rw [qkx] at ho'
  exact hK v' w' ho' hg' (jbelow hg' hB (fun k hk => (hown.base hk).1))
theorem concat16 (w : World) (bs m d : Nat) (b : Option Addr) (q : Nat → Nat) (hm : m ≤ 1048576) (hc : w.cell? ⟨bs, 0, none⟩ = some (.slice b m d)) (hb : Jl w b .u64 m (fun i => (q i : Int))) (h0 : b = none → m = 0 ∧ d = 0) :
  Calls Tryz.prog 39 #[.slice (some ⟨bs, 0, none⟩) 1 1] w fun e w' => ∃ s cp, e = .returned (.slice s m cp) ∧ Jo w' w.heap.size 52 .u64 (.slice s m cp) m q ∧ Below w.heap.size w w' := by
 have HJ : Hid (Jl w b .u64 m (fun i => (q i : Int))) := hb
 have HN : Hid (b = none → m = 0 ∧ d = 0) := h0
 clear hb h0
 go_enter Tryz.func39, Tryz.ntmps39
 go_wp2
 go_loopg [3, 5, 11] 1 (fun gh v3 _ vi wr => w = wr ∧ ((gh = 1 ∧ v3 = .int .i64 0 ∧ vi = .int .i64 0) ∨ (gh = 0 ∧ v3 = .int .i64 (m : Int) ∧ vi = .int .i64 1)))
 case atStart => exact ⟨rfl, .inl ⟨rfl, rfl, rfl⟩⟩
 case round =>
  obtain ⟨rfl, ⟨rfl, rfl, rfl⟩ | ⟨rfl, rfl, rfl⟩⟩ := hrel
  ·go_wp2
   go_roundg 0
   case measure => omega
   case rel => exact ⟨rfl, .inr ⟨rfl, by go_num, by go_num⟩⟩
  ·go_wp2_with (go_at_call 69; refine (growz16 _ m q hm).mono ?_; rintro e w1 ⟨s1, cp1, rfl, ho1, hb1⟩; have HO1 : Hid (Jo w1 w.heap.size 52 .u64 (.slice s1 0 cp1) 0 q) := ho1; have HB1 : Hid (Below w.heap.size w w1) := hb1; have hc1 := keepc hb1 hc; clear ho1 hb1)
   go_loopg [6, 8, 27] 1 (fun gh v6 _ vi wr => (gh = 1 ∧ w1 = wr ∧ v6 = .slice s1 0 cp1 ∧ vi = .int .i64 0) ∨ (gh = 0 ∧ vi = .int .i64 1 ∧ ∃ s cp, v6 = .slice s m cp ∧ Jo wr w.heap.size 52 .u64 (.slice s m cp) m q ∧ Below w.heap.size w wr))
   case atStart => exact .inl ⟨rfl, rfl, rfl, rfl⟩
   case round =>
    rcases hrel with ⟨rfl, rfl, rfl, rfl⟩ | ⟨rfl, rfl, s, cp, rfl, ho, hbw⟩
    ·go_wp2_with (at_builtin; refine qct rfl _ _ rfl w.heap.size 0 _ q rfl HO1.out b m d q rfl (HJ.out.later HB1.out) HN.out (by omega) HB1.out.size ?_; intro v2 w2 ho2 hg2 hb2; rw [Nat.zero_add] at ho2; have HO2 : Hid (Jo w2 w.heap.size 52 .u64 v2 m q) := ho2.congr (fun i _ => by show (if i < 0 then _ else q (i - 0)) = q i; rw [if_neg (by omega)]; rfl); have HB2 : Hid (Below w.heap.size w w2) := HB1.out.trans hb2; obtain ⟨s2, cp2, e2, _⟩ := HO2.out.form; subst e2; clear ho2 hg2 hb2)
     go_roundg 0
     case measure => omega
     case rel => exact .inr ⟨rfl, by go_num, s2, cp2, rfl, HO2.out, HB2.out⟩
    ·have HO : Hid (Jo wr w.heap.size 52 .u64 (.slice s m cp) m q) := ho
     have HB : Hid (Below w.heap.size w wr) := hbw
     clear ho hbw
     go_wp2
     go_ret
     exact ⟨s, cp, rfl, HO.out, HB.out⟩
open Go.RowKit
/-- The generator of both side by side. -/
def joF (F F' : Nat → Nat) (ra ca rb cb : Nat) : Nat → Nat := lyf (lyf (fun _ => 0) F (ca + cb) ca 0 0 ra) F' (ca + cb) cb ra ca rb
/-- A group, its numbers made greater. -/
def upG (s R : Nat) : Nat := ofs (fun t => R + lf s 64 t) (cn s 64)
/-- What Join answers. -/
def JnA (w : World) (F F' : Nat → Nat) (ra ca rb cb ma mb : Nat) (q q' : Nat → Nat) (e : Ending) (w' : World) : Prop := ∃ g N s2 d2, e = .returned (.tuple #[cv ((ra + rb : Nat) : Int) ((ca + cb : Nat) : Int) (some ⟨g, 0, none⟩) N N s2 (ma + mb) d2, .int .i64 0]) ∧ (ra + rb) * (ca + cb) = N ∧ RowAt w' g 5 N (joF F F' ra ca rb cb) ∧ w.heap.size ≤ g ∧ Jo w' w.heap.size 52 .u64 (.slice s2 (ma + mb) d2) (ma + mb) (catG q (fun i => upG (q' i) ra) ma) ∧ Below w.heap.size w w'
theorem qaw {fn : Func} {p u : Tmp} (h : fn.results = #[.cell p 27, .tmp u]) (tmps : Array Value) (w : World) (b : Nat) (x0 x1 x2 x3 v : Value) (hp : tmps.getD p undef = .pointer (some ⟨b, 0, none⟩)) (hu : tmps.getD u undef = v) (hv : Vq w b 27 #[x0, x1, x2, x3]) : (results fn tmps).run Tryz.prog w = .ok (.tuple #[.agg #[x0, x1, x2, x3], v]) w := by
 rw [results_cell_tmp h, hp, hu]
 simp [asAddr, Result.andThen, run_loadVar_row w b 27 27 #[x0, x1, x2, x3] (0, 0) _ hv Tryz.underlying27 rfl (by show _ = some 4; kernel_rfl)]
theorem qcg {F : Nat → Nat} {r c s : Nat} (h : HangP F r c s) (hr : r ≤ 64) : s < 18446744073709551616 := Nat.lt_of_lt_of_le h.1 (Nat.pow_le_pow_right (n := 2) (by decide) hr)
theorem qky {F : Nat → Nat} {r c s t : Nat} (h : HangP F r c s) (ht : t < cn s 64) : lf s 64 t < r := by
 have h2 := (qaq ht).2
 rcases Nat.lt_or_ge (lf s 64 t) r with hl | hl
 ·exact hl
 ·exfalso
  have hp : s < 2 ^ lf s 64 t := Nat.lt_of_lt_of_le h.1 (Nat.pow_le_pow_right (n := 2) (by decide) hl)
  have h0 : bt s (lf s 64 t) = 0 := by rw [bt, Nat.div_eq_of_lt hp]
  omega
theorem jna_mk {w w' : World} {F F' q q' f1 f2 G : Nat → Nat} {ra ca rb cb ma mb R C N gd cp : Nat} {s : Option Addr} (hR : ra + rb = R) (hC : ca + cb = C) (hN : R * C = N) (h1 : lyf (fun _ => 0) F C ca 0 0 ra = f1) (h2 : lyf f1 F' C cb ra ca rb = f2) (hG : catG q (fun i => upG (q' i) ra) ma = G) (hr : RowAt w' gd 5 N f2) (hg : w.heap.size ≤ gd) (hj : Jo w' w.heap.size 52 .u64 (.slice s (ma + mb) cp) (ma + mb) G) (hb : Below w.heap.size w w') :
  JnA w F F' ra ca rb cb ma mb q q' (.returned (.tuple #[.agg #[.int .i64 (R : Int), .int .i64 (C : Int), .slice (some ⟨gd, 0, none⟩) N N, .slice s (ma + mb) cp], .int .i64 0])) w' := by
 subst hR hC h1 h2 hG
 exact ⟨gd, N, s, cp, rfl, hN, hr, hg, hj, hb⟩
theorem qkz (w : World) (ra ca na ka ma da rb cb nb kb mb db : Nat) (a b a' b' : Option Addr) (F F' q q' : Nat → Nat) (ha : Mt w a na ka F) (ha' : Mt w a' nb kb F') (hb : Jl w b .u64 ma (fun i => (q i : Int))) (hb' : Jl w b' .u64 mb (fun i => (q' i : Int))) (h0 : b = none → ma = 0 ∧ da = 0) (RA : Rt ra ca na) (RB : Rt rb cb nb) (hc : 1 ≤ ca) (hr : ca ≤ ra) (hc' : 1 ≤ cb) (hr' : cb ≤ rb) (hg : ∀ i, i < ma → HangP F ra ca (q i)) (hg' : ∀ i, i < mb → HangP F' rb cb (q' i)) (hrr : ra + rb ≤ 64) (hmm : ma + mb ≤ 16384) :
  Calls Tryz.prog 11 #[cv ra ca a na ka b ma da, cv rb cb a' nb kb b' mb db] w fun e w' => JnA w F F' ra ca rb cb ma mb q q' e w' := by
 obtain ⟨wb, HW⟩ : ∃ wb, Hid (((w.alloc (.cells #[.int .i64 (ra : Int), .int .i64 (ca : Int), .slice a na ka, .slice b ma da] 27)).alloc (.cells #[.int .i64 (rb : Int), .int .i64 (cb : Int), .slice a' nb kb, .slice b' mb db] 27)).alloc (.cells #[.int .i64 0, .int .i64 0, .slice none 0 0, .slice none 0 0] 27) = wb) := ⟨_, rfl⟩
 have HB0 : Hid (Below w.heap.size w wb) := by rw [← HW.out]; exact qa0 (qa0 (qa1 _ _) (qa1 _ _)) (qa1 _ _)
 have HA : Hid (Vq wb w.heap.size 27 #[.int .i64 (ra : Int), .int .i64 (ca : Int), .slice a na ka, .slice b ma da]) := by rw [← HW.out]; exact ((Vq.new w _ _).later (qa1 _ _)).later (qa1 _ _)
 have HBv : Hid (Vq wb (w.heap.size + 1) 27 #[.int .i64 (rb : Int), .int .i64 (cb : Int), .slice a' nb kb, .slice b' mb db]) := by rw [← HW.out]; exact (Vq.new1 _ _ _ _).later (qa1 _ _)
 have HZ : Hid (Vq wb (w.heap.size + 1 + 1) 27 #[.int .i64 0, .int .i64 0, .slice none 0 0, .slice none 0 0]) := by rw [← HW.out]; exact Vq.new2 _ _ _ _ _
 have hsz : wb.heap.size = w.heap.size + 1 + 1 + 1 := by rw [← HW.out]; simp
 have HR0 : Hid (Below wb.heap.size wb wb) := Below.refl _ _
 have hra := RA.r64
 have hrb := RB.r64
 have GA : GenP ra ca na := ⟨RA.p, by omega, by omega⟩
 have GB : GenP rb cb nb := ⟨RB.p, by omega, by omega⟩
 have HMa : Hid (∀ w', Below wb.heap.size wb w' → Calls Tryz.prog 16 #[cv ra ca a na ka b ma da] w' fun e w'' => e = .returned (.bool true) ∧ Below w'.heap.size w' w'') := fun w' h => qgl w' ra ca na ka da ma a b F q ((ha.later HB0.out).later h) ((hb.later HB0.out).later h) (by omega) (fun i hi => qcg (hg i hi) hra) true ⟨fun _ => ⟨GA, by simpa using hg⟩, fun _ => rfl⟩
 have HMb : Hid (∀ w', Below wb.heap.size wb w' → Calls Tryz.prog 16 #[cv rb cb a' nb kb b' mb db] w' fun e w'' => e = .returned (.bool true) ∧ Below w'.heap.size w' w'') := fun w' h => qgl w' rb cb nb kb db mb a' b' F' q' ((ha'.later HB0.out).later h) ((hb'.later HB0.out).later h) (by omega) (fun i hi => qcg (hg' i hi) hrb) true ⟨fun _ => ⟨GB, by simpa using hg'⟩, fun _ => rfl⟩
 have HTg : Hid (∀ w', Calls Tryz.prog 28 #[cv ra ca a na ka b ma da, .int .i64 1, cv rb cb a' nb kb b' mb db, .int .i64 1] w' fun e w'' => e = .returned (.bool false) ∧ Below w'.heap.size w' w'') := fun w' => tmg16 w' ra ca rb cb a b a' b' na ka ma da nb kb mb db 1 1 (by omega) (by omega) (by omega) (by omega) (by omega) (by omega) false ⟨fun h => (by cases h), fun h => (by omega)⟩
 have HTm : Hid (∀ w' bq, Jl w' bq .i64 2 (tw16 ra rb) → Calls Tryz.prog 36 #[.slice bq 2 2] w' fun e w'' => e = .returned (.bool false) ∧ w' = w'') := fun w' bq h => by
  have := qc0 w' 2 2 bq (tw16 ra rb) (by omega) h (fun i hi => by rcases (by omega : i = 0 ∨ i = 1) with rfl | rfl <;> simp [tw16] <;> omega)
  rwa [show decide (64 < sm16 (tw16 ra rb) 2) = false by simp [sm16, tw16]; omega] at this
 have HMA : Hid (Mt w a na ka F) := ha
 have HMB : Hid (Mt w a' nb kb F') := ha'
 have HJA : Hid (Jl w b .u64 ma (fun i => (q i : Int))) := hb
 have HJB : Hid (Jl w b' .u64 mb (fun i => (q' i : Int))) := hb'
 have HN0 : Hid (b = none → ma = 0 ∧ da = 0) := h0
 have HRA : Hid (Rt ra ca na) := RA
 have HRB : Hid (Rt rb cb nb) := RB
 have HG' : Hid (∀ i, i < mb → HangP F' rb cb (q' i)) := hg'
 obtain ⟨R, HR⟩ : ∃ R : Nat, Hid (ra + rb = R) := ⟨_, rfl⟩
 obtain ⟨C, HC⟩ : ∃ C : Nat, Hid (ca + cb = C) := ⟨_, rfl⟩
 obtain ⟨N, HN⟩ : ∃ N : Nat, Hid (R * C = N) := ⟨_, rfl⟩
 have eR : (ra : Int) + (rb : Int) = (R : Int) := by rw [← HR.out]; simp
 have eC : (ca : Int) + (cb : Int) = (C : Int) := by rw [← HC.out]; simp
 have hR64 : R ≤ 64 := by rw [← HR.out]; exact hrr
 have hC64 : C ≤ 64 := by rw [← HC.out]; omega
 have HRt : Hid (Rt R C N) := ⟨hR64, hC64, HN.out⟩
 have M1 : Hid True := trivial
 clear ha ha' hb hb' h0 RA RB hg hg' GA GB
 go_enter Tryz.func11, Tryz.ntmps11
 go_upto_region 6 with (first
  | (go_at_call 16; clear M1; rw [HW.out]; refine (HMa.out _ HR0.out).mono ?_; rintro e w1 ⟨rfl, hb1⟩; have HB1 : Hid (Below wb.heap.size wb w1) := hb1; have a_10 := (HA.out.later HB1.out).cell 0 _ rfl; have a_11 := (HA.out.later HB1.out).cell 1 _ rfl; have a_12 := (HA.out.later HB1.out).cell 2 _ rfl; have a_13 := (HA.out.later HB1.out).cell 3 _ rfl; have b_10 := (HBv.out.later HB1.out).cell 0 _ rfl; have b_11 := (HBv.out.later HB1.out).cell 1 _ rfl; have b_12 := (HBv.out.later HB1.out).cell 2 _ rfl; have b_13 := (HBv.out.later HB1.out).cell 3 _ rfl; have z_10 := (HZ.out.later HB1.out).cell 0 _ rfl; have z_11 := (HZ.out.later HB1.out).cell 1 _ rfl; have z_12 := (HZ.out.later HB1.out).cell 2 _ rfl; have z_13 := (HZ.out.later HB1.out).cell 3 _ rfl; have f_10 := (HZ.out.later HB1.out).free 0; have f_11 := (HZ.out.later HB1.out).free 1; have f_12 := (HZ.out.later HB1.out).free 2; have f_13 := (HZ.out.later HB1.out).free 3;  clear hb1)
  | (go_at_call 16; refine (HMb.out _ HB1.out).mono ?_; rintro e w2 ⟨rfl, hb2⟩; have HB2 : Hid (Below wb.heap.size wb w2) := qa0 HB1.out hb2; clear a_10 a_11 a_12 a_13 b_10 b_11 b_12 b_13 z_10 z_11 z_12 z_13 f_10 f_11 f_12 f_13; have a_20 := (HA.out.later HB2.out).cell 0 _ rfl; have a_21 := (HA.out.later HB2.out).cell 1 _ rfl; have a_22 := (HA.out.later HB2.out).cell 2 _ rfl; have a_23 := (HA.out.later HB2.out).cell 3 _ rfl; have b_20 := (HBv.out.later HB2.out).cell 0 _ rfl; have b_21 := (HBv.out.later HB2.out).cell 1 _ rfl; have b_22 := (HBv.out.later HB2.out).cell 2 _ rfl; have b_23 := (HBv.out.later HB2.out).cell 3 _ rfl; have z_20 := (HZ.out.later HB2.out).cell 0 _ rfl; have z_21 := (HZ.out.later HB2.out).cell 1 _ rfl; have z_22 := (HZ.out.later HB2.out).cell 2 _ rfl; have z_23 := (HZ.out.later HB2.out).cell 3 _ rfl; have f_20 := (HZ.out.later HB2.out).free 0; have f_21 := (HZ.out.later HB2.out).free 1; have f_22 := (HZ.out.later HB2.out).free 2; have f_23 := (HZ.out.later HB2.out).free 3;  clear hb2)
  | (go_at_call 36; obtain ⟨w3, HW3⟩ : ∃ w3, Hid (w2.alloc (.cells #[.int .i64 (ra : Int), .int .i64 (rb : Int)] 3) = w3) := ⟨_, rfl⟩; rw [HW3.out]; have HB3 : Hid (Below wb.heap.size wb w3) := (by rw [← HW3.out]; exact qa0 HB2.out (qa1 _ _)); refine (HTm.out _ _ (by rw [← HW3.out]; exact qgj _ _ _ _)).mono ?_; rintro e w' ⟨rfl, rfl⟩; clear a_20 a_21 a_22 a_23 b_20 b_21 b_22 b_23 z_20 z_21 z_22 z_23 f_20 f_21 f_22 f_23; have a_30 := (HA.out.later HB3.out).cell 0 _ rfl; have a_31 := (HA.out.later HB3.out).cell 1 _ rfl; have a_32 := (HA.out.later HB3.out).cell 2 _ rfl; have a_33 := (HA.out.later HB3.out).cell 3 _ rfl; have b_30 := (HBv.out.later HB3.out).cell 0 _ rfl; have b_31 := (HBv.out.later HB3.out).cell 1 _ rfl; have b_32 := (HBv.out.later HB3.out).cell 2 _ rfl; have b_33 := (HBv.out.later HB3.out).cell 3 _ rfl; have z_30 := (HZ.out.later HB3.out).cell 0 _ rfl; have z_31 := (HZ.out.later HB3.out).cell 1 _ rfl; have z_32 := (HZ.out.later HB3.out).cell 2 _ rfl; have z_33 := (HZ.out.later HB3.out).cell 3 _ rfl; have f_30 := (HZ.out.later HB3.out).free 0; have f_31 := (HZ.out.later HB3.out).free 1; have f_32 := (HZ.out.later HB3.out).free 2; have f_33 := (HZ.out.later HB3.out).free 3;  clear HW3)
  | (go_at_call 28; refine (HTg.out _).mono ?_; rintro e w4 ⟨rfl, hb4⟩; have HB4 : Hid (Below wb.heap.size wb w4) := qa0 HB3.out hb4; clear a_30 a_31 a_32 a_33 b_30 b_31 b_32 b_33 z_30 z_31 z_32 z_33 f_30 f_31 f_32 f_33; have a_40 := (HA.out.later HB4.out).cell 0 _ rfl; have a_41 := (HA.out.later HB4.out).cell 1 _ rfl; have a_42 := (HA.out.later HB4.out).cell 2 _ rfl; have a_43 := (HA.out.later HB4.out).cell 3 _ rfl; have b_40 := (HBv.out.later HB4.out).cell 0 _ rfl; have b_41 := (HBv.out.later HB4.out).cell 1 _ rfl; have b_42 := (HBv.out.later HB4.out).cell 2 _ rfl; have b_43 := (HBv.out.later HB4.out).cell 3 _ rfl; have z_40 := (HZ.out.later HB4.out).cell 0 _ rfl; have z_41 := (HZ.out.later HB4.out).cell 1 _ rfl; have z_42 := (HZ.out.later HB4.out).cell 2 _ rfl; have z_43 := (HZ.out.later HB4.out).cell 3 _ rfl; have f_40 := (HZ.out.later HB4.out).free 0; have f_41 := (HZ.out.later HB4.out).free 1; have f_42 := (HZ.out.later HB4.out).free 2; have f_43 := (HZ.out.later HB4.out).free 3;  clear hb4)
  | (go_at_call 37; refine (qf8 _ R C N hR64 hC64 HN).mono ?_; rintro e w5 ⟨gd, rfl, hrow, hgd, hb5⟩; obtain ⟨w6, HW6⟩ : ∃ w6, Hid (w5.alloc (.cells #[.int .i64 (R : Int), .int .i64 (C : Int), .slice (some ⟨gd, 0, none⟩) N N] 63) = w6) := ⟨_, rfl⟩; have HV6 : Hid (Vq w6 w5.heap.size 63 #[.int .i64 (R : Int), .int .i64 (C : Int), .slice (some ⟨gd, 0, none⟩) N N]) := (by rw [← HW6.out]; exact Vq.new w5 _ _); have HB5 : Hid (Below wb.heap.size wb w5) := qa0 HB4.out hb5; have HB6 : Hid (Below wb.heap.size wb w6) := (by rw [← HW6.out]; exact qa0 HB5.out (qa1 _ _)); have HR6 : Hid (RowAt w6 gd 5 N (fun _ => 0)) := (by rw [← HW6.out]; exact hrow.later (qa1 _ _)); have HGd : Hid (wb.heap.size ≤ gd ∧ gd < w5.heap.size) := ⟨Nat.le_trans HB4.out.size hgd, lt_of_block hrow⟩; clear a_40 a_41 a_42 a_43 b_40 b_41 b_42 b_43 z_40 z_41 z_42 z_43 f_40 f_41 f_42 f_43; clear hb5 hrow hgd))
 rw [HW6.out]
 clear HMa HMb HTg HTm HW6
 obtain ⟨zb, HZb⟩ : ∃ zb, Hid (w.heap.size + 1 + 1 = zb) := ⟨_, rfl⟩
 obtain ⟨bb, HBb⟩ : ∃ bb, Hid (w.heap.size + 1 = bb) := ⟨_, rfl⟩
 obtain ⟨v6, HV6b⟩ : ∃ v6, Hid (w5.heap.size = v6) := ⟨_, rfl⟩
 have hzb : zb < wb.heap.size := by rw [hsz, ← HZb.out]; omega
 have hzw : w.heap.size ≤ zb := by rw [← HZb.out]; omega
 clear hsz
 rw [HZb.out] at HZ ⊢
 rw [HBb.out] at HBv ⊢
 rw [HV6b.out] at HV6 HGd ⊢
 have HL1 : Hid (∀ w', RowAt w' gd 5 N (fun _ => 0) → Mt w' a na ka F → Calls Tryz.prog 38 #[mv R C (some ⟨gd, 0, none⟩) N N, mv ra ca a na ka, .int .i64 0, .int .i64 0] w' fun e w'' => e = .returned (.tuple #[]) ∧ RowAt w'' gd 5 N (lyf (fun _ => 0) F C ca 0 0 ra) ∧ w'.grownBy w'' (some gd)) := fun w' h1 h2 => lay16 w' R C N ra ca na ka 0 0 gd a _ F h1 h2 HRt.out HRA.out (fun h => qcl HMA.out.sl (Nat.le_trans HB0.out.size HGd.out.1) h) (by rw [← HR.out]; omega) (by rw [← HC.out]; omega) (by omega)
 have HL2 : Hid (∀ w' f, RowAt w' gd 5 N f → Mt w' a' nb kb F' → Calls Tryz.prog 38 #[mv R C (some ⟨gd, 0, none⟩) N N, mv rb cb a' nb kb, .int .i64 (ra : Int), .int .i64 (ca : Int)] w' fun e w'' => e = .returned (.tuple #[]) ∧ RowAt w'' gd 5 N (lyf f F' C cb ra ca rb) ∧ w'.grownBy w'' (some gd)) := fun w' f h1 h2 => lay16 w' R C N rb cb nb kb ra ca gd a' f F' h1 h2 HRt.out HRB.out (fun h => qcl HMB.out.sl (Nat.le_trans HB0.out.size HGd.out.1) h) (by rw [← HR.out]; omega) (by rw [← HC.out]; omega) (by omega)
 have hsz5 : v6 ≠ gd := by have := HGd.out.2; omega
 obtain ⟨f1, HF1⟩ : ∃ f1, Hid (lyf (fun _ => 0) F C ca 0 0 ra = f1) := ⟨_, rfl⟩
 obtain ⟨f2, HF2⟩ : ∃ f2, Hid (lyf f1 F' C cb ra ca rb = f2) := ⟨_, rfl⟩
 rw [HF1.out] at HL1
 have v60 := HV6.out.cell 0 _ rfl
 have v61 := HV6.out.cell 1 _ rfl
 have v62 := HV6.out.cell 2 _ rfl
 have a_60 := (HA.out.later HB6.out).cell 0 _ rfl; have a_61 := (HA.out.later HB6.out).cell 1 _ rfl; have a_62 := (HA.out.later HB6.out).cell 2 _ rfl; have a_63 := (HA.out.later HB6.out).cell 3 _ rfl; have b_60 := (HBv.out.later HB6.out).cell 0 _ rfl; have b_61 := (HBv.out.later HB6.out).cell 1 _ rfl; have b_62 := (HBv.out.later HB6.out).cell 2 _ rfl; have b_63 := (HBv.out.later HB6.out).cell 3 _ rfl; have z_60 := (HZ.out.later HB6.out).cell 0 _ rfl; have z_61 := (HZ.out.later HB6.out).cell 1 _ rfl; have z_62 := (HZ.out.later HB6.out).cell 2 _ rfl; have z_63 := (HZ.out.later HB6.out).cell 3 _ rfl; have f_60 := (HZ.out.later HB6.out).free 0; have f_61 := (HZ.out.later HB6.out).free 1; have f_62 := (HZ.out.later HB6.out).free 2; have f_63 := (HZ.out.later HB6.out).free 3; 
 have M2 : Hid True := trivial
 go_upto_region 8 with (first
  | (go_at_call 38; clear M2; refine (HL1.out _ HR6.out (HMA.out.later (qa0 HB0.out HB6.out))).mono ?_; rintro e w7 ⟨rfl, hr7, hg7⟩; have HR7 : Hid (RowAt w7 gd 5 N f1) := hr7; have HG7 : Hid (w6.grownBy w7 (some gd)) := hg7; have HB7 : Hid (Below wb.heap.size wb w7) := HB6.out.grown hg7 HB6.out.size (fun g e => (by cases e; exact HGd.out.1)); have HV7 : Hid (Vq w7 v6 63 #[.int .i64 (R : Int), .int .i64 (C : Int), .slice (some ⟨gd, 0, none⟩) N N]) := HV6.out.kept hg7 hsz5; clear a_60 a_61 a_62 a_63 b_60 b_61 b_62 b_63 z_60 z_61 z_62 z_63 f_60 f_61 f_62 f_63; clear v60 v61 v62; have v70 := HV7.out.cell 0 _ rfl; have v71 := HV7.out.cell 1 _ rfl; have v72 := HV7.out.cell 2 _ rfl; have a_70 := (HA.out.later HB7.out).cell 0 _ rfl; have a_71 := (HA.out.later HB7.out).cell 1 _ rfl; have a_72 := (HA.out.later HB7.out).cell 2 _ rfl; have a_73 := (HA.out.later HB7.out).cell 3 _ rfl; have b_70 := (HBv.out.later HB7.out).cell 0 _ rfl; have b_71 := (HBv.out.later HB7.out).cell 1 _ rfl; have b_72 := (HBv.out.later HB7.out).cell 2 _ rfl; have b_73 := (HBv.out.later HB7.out).cell 3 _ rfl; have z_70 := (HZ.out.later HB7.out).cell 0 _ rfl; have z_71 := (HZ.out.later HB7.out).cell 1 _ rfl; have z_72 := (HZ.out.later HB7.out).cell 2 _ rfl; have z_73 := (HZ.out.later HB7.out).cell 3 _ rfl; have f_70 := (HZ.out.later HB7.out).free 0; have f_71 := (HZ.out.later HB7.out).free 1; have f_72 := (HZ.out.later HB7.out).free 2; have f_73 := (HZ.out.later HB7.out).free 3;  clear hr7 hg7)
  | (go_at_call 38; refine (HL2.out _ f1 HR7.out (HMB.out.later (qa0 HB0.out HB7.out))).mono ?_; rintro e w8 ⟨rfl, hr8, hg8⟩; rw [HF2.out] at hr8; have HR8 : Hid (RowAt w8 gd 5 N f2) := hr8; have HB8 : Hid (Below wb.heap.size wb w8) := HB7.out.grown hg8 HB7.out.size (fun g e => (by cases e; exact HGd.out.1)); have HV8 : Hid (Vq w8 v6 63 #[.int .i64 (R : Int), .int .i64 (C : Int), .slice (some ⟨gd, 0, none⟩) N N]) := HV7.out.kept hg8 hsz5; clear a_70 a_71 a_72 a_73 b_70 b_71 b_72 b_73 z_70 z_71 z_72 z_73 f_70 f_71 f_72 f_73; clear v70 v71 v72; have a_80 := (HA.out.later HB8.out).cell 0 _ rfl; have a_81 := (HA.out.later HB8.out).cell 1 _ rfl; have a_82 := (HA.out.later HB8.out).cell 2 _ rfl; have a_83 := (HA.out.later HB8.out).cell 3 _ rfl; have b_80 := (HBv.out.later HB8.out).cell 0 _ rfl; have b_81 := (HBv.out.later HB8.out).cell 1 _ rfl; have b_82 := (HBv.out.later HB8.out).cell 2 _ rfl; have b_83 := (HBv.out.later HB8.out).cell 3 _ rfl; have z_80 := (HZ.out.later HB8.out).cell 0 _ rfl; have z_81 := (HZ.out.later HB8.out).cell 1 _ rfl; have z_82 := (HZ.out.later HB8.out).cell 2 _ rfl; have z_83 := (HZ.out.later HB8.out).cell 3 _ rfl; have f_80 := (HZ.out.later HB8.out).free 0; have f_81 := (HZ.out.later HB8.out).free 1; have f_82 := (HZ.out.later HB8.out).free 2; have f_83 := (HZ.out.later HB8.out).free 3;  clear hr8 hg8))
 obtain ⟨w9, HW9⟩ : ∃ w9, Hid (w8.alloc (.cells #[.slice b ma da] 25) = w9) := ⟨_, rfl⟩
 have HB9 : Hid (Below wb.heap.size wb w9) := by rw [← HW9.out]; exact qa0 HB8.out (qa1 _ _)
 have hc9 : w9.cell? ⟨w8.heap.size, 0, none⟩ = some (.slice b ma da) := by rw [← HW9.out]; exact (Vq.new w8 _ _).cell 0 _ rfl
 have HR9 : Hid (RowAt w9 gd 5 N f2) := by rw [← HW9.out]; exact HR8.out.later (qa1 _ _)
 have HV9 : Hid (Vq w9 v6 63 #[.int .i64 (R : Int), .int .i64 (C : Int), .slice (some ⟨gd, 0, none⟩) N N]) := by rw [← HW9.out]; exact HV8.out.later (qa1 _ _)
 have HCo : Hid (Calls Tryz.prog 39 #[.slice (some ⟨w8.heap.size, 0, none⟩) 1 1] w9 fun e w' => ∃ s cp, e = .returned (.slice s ma cp) ∧ Jo w' w9.heap.size 52 .u64 (.slice s ma cp) ma q ∧ Below w9.heap.size w9 w') := concat16 w9 w8.heap.size ma da b q (by omega) hc9 (HJA.out.later (qa0 HB0.out HB9.out)) HN0.out
 clear hc9 HR6 HR7 HG7 HR8 HV6 HV7 HV8 HL1 HL2
 go_wp2_with (go_at_call 39; rw [HW9.out]; refine HCo.out.mono ?_; rintro e w10 ⟨s10, cp10, rfl, ho10, hb10⟩; have HO10 : Hid (Jo w10 w9.heap.size 52 .u64 (.slice s10 ma cp10) ma q) := ho10; have HB10 : Hid (Below w9.heap.size w9 w10) := hb10; have b_x0 := (HBv.out.later (qa0 HB9.out hb10)).cell 3 _ rfl; clear ho10 hb10)
 clear a_80 a_81 a_82 a_83 b_80 b_81 b_82 b_83 z_80 z_81 z_82 z_83 f_80 f_81 f_82 f_83
 clear HCo b_x0
 obtain ⟨G, HGf⟩ : ∃ G, Hid (catG q (fun i => upG (q' i) ra) ma = G) := ⟨_, rfl⟩
 obtain ⟨u0, hu0, hy0, hy1, hy2⟩ := info_parts ju64
 go_loopg [7, 9, 73] mb (fun gh v7 _ vi wr => ∃ (i cp : Nat) (s : Option Addr), vi = .int .i64 (i : Int) ∧ v7 = .slice s (ma + i) cp ∧ i ≤ mb ∧ mb - i ≤ gh ∧ Jo wr w9.heap.size 52 .u64 (.slice s (ma + i) cp) (ma + i) G ∧ Below w9.heap.size w9 wr)
 case atStart => exact ⟨0, cp10, s10, rfl, rfl, by omega, by omega, HO10.out.congr (fun i hi => by rw [← HGf.out, catG, if_pos hi]), HB10.out⟩
 case round =>
  obtain ⟨i, cp, s, rfl, rfl, hi, hgh, ho, hbr⟩ := hrel
  have HO : Hid (Jo wr w9.heap.size 52 .u64 (.slice s (ma + i) cp) (ma + i) G) := ho
  have HB : Hid (Below w9.heap.size w9 wr) := hbr
  have HBw : Hid (Below wb.heap.size wb wr) := qa0 HB9.out hbr
  by_cases hlt : i < mb
  ·have hlt2 : (i : Int) < (mb : Int) := by omega
   obtain ⟨x, o, ea, hcx⟩ := (HJB.out.later (qa0 HB0.out HBw.out)) i hlt
   have hh := HG'.out i hlt
   obtain ⟨u, HU⟩ : ∃ u, Hid (q' i = u) := ⟨_, rfl⟩
   have hc2 : wr.cell? ⟨x, o + i, none⟩ = some (.int .u64 (u : Int)) := by rw [← HU.out]; exact hcx
   rw [HU.out] at hh
   obtain ⟨g, HGu⟩ : ∃ g, Hid (upG u ra = g) := ⟨_, rfl⟩
   have HMv : Hid (Calls Tryz.prog 31 #[.int .u64 (u : Int), .func (.func 40) #[] #[.pointer (some ⟨w.heap.size, 0, none⟩)]] wr fun e w' => e = .returned (.int .u64 (g : Int)) ∧ Below wr.heap.size wr w') := by
    rw [← HGu.out]
    refine mov_join u wr (qcg hh hrb) w.heap.size (cn u 64) (fun t => ra + lf u 64 t) rfl (fun t ht => by have := qky hh ht; omega) (fun t ht w' hw => ?_)
    exact joinat16 w' w.heap.size ra (lf u 64 t) (((HA.out.later HBw.out).later hw).cell 0 _ rfl) hra (by have := qky hh ht; omega)
   have HGi : Hid (G (ma + i) = g) := by
    show G (ma + i) = g
    rw [← HGf.out, catG, if_neg (by omega), show ma + i - ma = i by omega, HU.out, HGu.out]
   have i0 : (0 : Int) ≤ (i : Int) := Int.natCast_nonneg _
   subst ea
   clear hcx hh ho hbr HGu HU
   have hmf := mkf
   go_wp2_with (first
    | (go_at_call 31; refine HMv.out.mono ?_; rintro e w11 ⟨rfl, hb11⟩; have HO11 : Hid (Jo w11 w9.heap.size 52 .u64 (.slice s (ma + i) cp) (ma + i) G) := HO.out.later hb11; have HB11 : Hid (Below w9.heap.size w9 w11) := HB.out.trans (hb11.mono HB.out.size); clear hb11)
    | (at_builtin; refine wpList_append_own _ rfl _ _ 25 rfl w9.heap.size 52 u0 (.int .u64 0) 1 8 Tryz.underlying25 hu0 hy0 hy1 hy2 rfl (by decide) _ (ma + i) (jrow .u64 (ma + i) G).toList rfl (World.ownsRow.alloc HO11.out _) ⟨w11.heap.size, 0, none⟩ 1 1 [.int .u64 (g : Int)] rfl rfl (qd7 _ _ _ _) (qd8 _ _) (by unfold maxLen; omega) (by omega) (by have := HB11.out.size; simp; omega) ?_; intro v3 w13 hown3 hgrow3 _; have HO3 : Hid (Jo w13 w9.heap.size 52 .u64 v3 (ma + i + 1) G) := (by show World.ownsRow _ _ _ _ _ _ _; rw [← qfp, HGi.out]; exact hown3); have HB13 : Hid (Below w9.heap.size w9 w13) := (HB11.out.alloc HB11.out.size _).grown hgrow3 (by have := HB11.out.size; simp; omega) (qaa HO11.out); obtain ⟨s3, d3, e3, _⟩ := HO3.out.form; subst e3; clear hown3 hgrow3))
   go_roundg (gk - 1)
   case measure => omega
   case rel => exact ⟨i + 1, d3, s3, by go_num, rfl, by omega, by omega, HO3.out, HB13.out⟩
  ·have hlt2 : ¬ (i : Int) < (mb : Int) := by omega
   obtain rfl : i = mb := by omega
   have HVr : Hid (Vq wr v6 63 #[.int .i64 (R : Int), .int .i64 (C : Int), .slice (some ⟨gd, 0, none⟩) N N]) := HV9.out.later hbr
   have v0 := HVr.out.cell 0 _ rfl
   have v1 := HVr.out.cell 1 _ rfl
   have v2 := HVr.out.cell 2 _ rfl
   have HZr : Hid (Vq wr zb 27 #[.int .i64 0, .int .i64 0, .slice none 0 0, .slice none 0 0]) := HZ.out.later HBw.out
   have z0 := HZr.out.cell 0 _ rfl
   have z1 := HZr.out.cell 1 _ rfl
   have z2 := HZr.out.cell 2 _ rfl
   have z3 := HZr.out.cell 3 _ rfl
   have y0 := HZr.out.free 0
   have y1 := HZr.out.free 1
   have y2 := HZr.out.free 2
   have y3 := HZr.out.free 3
   have HRr : Hid (RowAt wr gd 5 N f2) := HR9.out.later hbr
   obtain ⟨hp1, hp2⟩ := qcz HZr.out (.int .i64 (R : Int)) (.int .i64 (C : Int)) (.slice (some ⟨gd, 0, none⟩) N N) (.slice s (ma + i) cp)
   have HP1 := jhidv hp1
   have HP2 := jhidv hp2
   clear hp1 hp2 ho hbr
   go_wp2
   refine bodyPost_ret (qaw Tryz.results11 _ _ zb _ _ _ _ _ rfl rfl HP1.out) rfl ?_
   have hgd := HGd.out.1
   have hsw := HB0.out.size
   have hfin := HRr.out.kept HP2.out (qhg HRr.out HZr.out)
   have hjo := (HO.out.kept HP2.out (qf9 HO.out (by have := HB9.out.size; omega))).mono (B' := w.heap.size) (by have := HB9.out.size; omega)
   have hbel := (qa0 HB0.out HBw.out).grown HP2.out (qa0 HB0.out HBw.out).size (fun g e => (by cases e; omega))
   exact jna_mk HR.out HC.out HN.out HF1.out HF2.out HGf.out hfin (by omega) hjo hbel
end Go.Proofs.YtmgfeepnkahkmaaGreat
